/- TreeFind, of the program. -/
import Derived.Test.YtdkhaghcnijilaaGreatTgC
import Derived.Test.YtdkhaghcnijilaaGreatTgA
import Derived.Test.YtdkhaghcnijilaaGreatTfU
import Derived.Test.YtdkhaghcnijilaaGreatTsC
namespace Go.Proofs.YtdkhaghcnijilaaGreat
open Go.RowKit

theorem sorted_same {xs ys : List Int} (h1 : xs.Pairwise (· ≤ ·)) (h2 : ys.Pairwise (· ≤ ·)) (p : xs.Perm ys) : xs = ys :=
  p.eq_of_pairwise (fun _ _ _ _ h1 h2 => Int.le_antisymm h1 h2) h1 h2
theorem overlapped_any (B p : Nat) (y1 y2 y3 y4 : Int) (t : Nd) (w : World) (hO : OvIt B (.pointer (some ⟨p, 0, none⟩)) y1 y2 y3 y4 w) (hW : WkAt w p t) (ho : okT t = true) (hs : ndSz t ≤ 1048576) :
    Calls Tryz.prog 37 #[.func (.func 72) #[] #[.pointer (some ⟨B, 0, none⟩), .pointer (some ⟨B + 1, 0, none⟩)]] w fun e w' => ∃ v L, e = .returned v ∧ RowI w.heap.size w' v L ∧ L.Perm (fdV (y1, y2, y3, y4) t) ∧ L.Pairwise (· ≤ ·) ∧ Below w.heap.size w w' := by
  obtain ⟨m, hd, _⟩ := okT_hd ho
  have hl := fdV_le (y1, y2, y3, y4) t
  refine (sorted_any (gf := 72) (lb := #[.pointer (some ⟨B, 0, none⟩), .pointer (some ⟨B + 1, 0, none⟩)]) (S := fun xs => xs.Perm (fdV (y1, y2, y3, y4) t)) (N := (fdV (y1, y2, y3, y4) t).length) w (enters_of Tryz.func72 (by kernel_rfl) rfl) (fun n hn => overlapped_seq B p y1 y2 y3 y4 t w hO hW ⟨true, m, hd⟩ hs n hn) (by omega) (sortsI_all _) (fun xs hx => by rw [hx.length_eq]; omega)).mono ?_
  rintro e w' ⟨v, xs, ys, rfl, hS, hp, hs', R, hb⟩
  exact ⟨v, ys, rfl, R, hp.trans hS, hs', hb⟩

set_option maxRecDepth 20000 in
set_option maxHeartbeats 4000000 in
theorem implTreeFind (t : Nd) (v1 v2 v3 : Value) (y1 y2 y3 y4 : Int) (w : World) (N : NdUp w 0 t v1 v2 v3) (hs : ndSz t ≤ 1048576) :
    Calls Tryz.prog 11 #[ndV t v1 v2 v3, .agg #[.int .i64 y1, .int .i64 y2, .int .i64 y3, .int .i64 y4]] w fun e w' => ∃ v L, e = .returned v ∧ RowI w.heap.size w' v L ∧ L.Perm (fdR (y1, y2, y3, y4) t) ∧ L.Pairwise (· ≤ ·) ∧ Below w.heap.size w w' := by
  have C := fun W (hb : Below w.heap.size w W) => treeOf_any t v1 v2 v3 W (NdUp.keep hb _ N) hs
  have HV : Hid (∀ (B q : Nat) (W : World), OvIt B (.pointer (some ⟨q, 0, none⟩)) y1 y2 y3 y4 W → WkAt W q t → okT t = true → Calls Tryz.prog 37 #[.func (.func 72) #[] #[.pointer (some ⟨B, 0, none⟩), .pointer (some ⟨B + 1, 0, none⟩)]] W fun e w' => ∃ v L, e = .returned v ∧ RowI W.heap.size w' v L ∧ L.Perm (fdV (y1, y2, y3, y4) t) ∧ L.Pairwise (· ≤ ·) ∧ Below W.heap.size W w') := fun B q W hO hW ho => overlapped_any B q y1 y2 y3 y4 t W hO hW ho hs
  have HR : Hid (fdR (y1, y2, y3, y4) t = if okT t = true then fdV (y1, y2, y3, y4) t else []) := (rfl : fdR (y1, y2, y3, y4) t = _)
  obtain ⟨a1, c1, a2, c2, a3, c3, rfl, rfl, rfl, _⟩ := N.open
  obtain ⟨z, HZ⟩ : ∃ z, Hid (fdR (y1, y2, y3, y4) t = z) := ⟨_, rfl⟩
  obtain ⟨ok, HO⟩ : ∃ z, Hid (okT t = z) := ⟨_, rfl⟩
  rw [HO.out, HZ.out] at HR
  rw [HZ.out]
  rw [HO.out] at C HV
  unfold ndV at *
  obtain ⟨⟨x1, x2, x3, x4⟩, ux⟩ : ∃ x, Hid (t.b = x) := ⟨_, rfl⟩
  rw [ux.out] at C ⊢
  dsimp only at C ⊢
  clear N hs HO HZ
  generalize t.bs.length = m1 at *
  generalize t.is.length = m2 at *
  generalize t.ks.length = m3 at *
  have b0 := below1 w (.cells #[.int .i64 x1, .int .i64 x2, .int .i64 x3, .int .i64 x4, .slice a1 m1 c1, .slice a2 m2 c2, .slice a3 m3 c3] 39)
  have V := Sev.new w x1 x2 x3 x4 (.slice a1 m1 c1) (.slice a2 m2 c2) (.slice a3 m3 c3) 39
  have b1 := below1 (w.alloc (.cells #[.int .i64 x1, .int .i64 x2, .int .i64 x3, .int .i64 x4, .slice a1 m1 c1, .slice a2 m2 c2, .slice a3 m3 c3] 39)) (.cells #[.int .i64 y1, .int .i64 y2, .int .i64 y3, .int .i64 y4] 35)
  have Y : Four ((w.alloc (.cells #[.int .i64 x1, .int .i64 x2, .int .i64 x3, .int .i64 x4, .slice a1 m1 c1, .slice a2 m2 c2, .slice a3 m3 c3] 39)).alloc (.cells #[.int .i64 y1, .int .i64 y2, .int .i64 y3, .int .i64 y4] 35)) (w.heap.size + 1) 0 (y1, y2, y3, y4) := by
    have q := fun k v (hv : (#[Value.int .i64 y1, .int .i64 y2, .int .i64 y3, .int .i64 y4] : Array Value)[k]? = some v) => cell_new (w.alloc (.cells #[.int .i64 x1, .int .i64 x2, .int .i64 x3, .int .i64 x4, .slice a1 m1 c1, .slice a2 m2 c2, .slice a3 m3 c3] 39)) #[.int .i64 y1, .int .i64 y2, .int .i64 y3, .int .i64 y4] 35 k hv
    rw [World.size_alloc] at q
    exact ⟨q 0 _ rfl, q 1 _ rfl, q 2 _ rfl, q 3 _ rfl⟩
  have K : FB _ w.heap.size x1 x2 x3 x4 (.slice a1 m1 c1) (.slice a2 m2 c2) (.slice a3 m3 c3) y1 y2 y3 y4 := ⟨V.below b1, Y⟩
  have B := b0.trans (b1.mono b0.size)
  clear b0 b1 V Y
  go_enter Tryz.func11, Tryz.ntmps11
  go_upto_region 1 with fail
  generalize (w.alloc (.cells #[.int .i64 x1, .int .i64 x2, .int .i64 x3, .int .i64 x4, .slice a1 m1 c1, .slice a2 m2 c2, .slice a3 m3 c3] 39)).alloc (.cells #[.int .i64 y1, .int .i64 y2, .int .i64 y3, .int .i64 y4] 35) = W0 at *
  obtain ⟨⟨⟨k0, k1, k2, k3⟩, k4, k5, k6⟩, ⟨e0, e1, e2, e3⟩⟩ := id K
  simp only [Nat.zero_add] at k0 k1 k2 k3 k4 k5 k6 e0 e1 e2 e3
  go_wp2_with fail
  refine (C _ B).mono ?_
  rintro e w1 ⟨a, rfl, HT, hb⟩
  replace B := B.trans (hb.mono B.size)
  replace K := K.below hb
  clear hb k0 k1 k2 k3 k4 k5 k6 e0 e1 e2 e3 C
  obtain ⟨_, ⟨e0, e1, e2, e3⟩⟩ := id K
  simp only [Nat.zero_add] at e0 e1 e2 e3
  cases ok
  · have F : Hid (z = []) := HR.out
    clear HT HV HR e0 e1 e2 e3 K
    go_wp2
    go_ret
    exact ⟨_, [], rfl, RowI.nil _ _, by rw [F.out], List.Pairwise.nil, B⟩
  · obtain ⟨q, rfl, WT⟩ := HT rfl
    have F : Hid (z = fdV (y1, y2, y3, y4) t) := HR.out
    have HW : Hid (WkAt w1 q t) := WT
    have OV := overlapping_any ⟨q, 0, none⟩ y1 y2 y3 y4 w1
    clear HT HR WT
    go_wp2_with fail
    refine OV.mono ?_
    rintro e w2 ⟨rfl, O, hb⟩
    have CS := HV.out w1.heap.size q w2 O (WkAt.keep hb _ HW.out) trivial
    have bw := B.size
    replace B := B.trans (hb.mono B.size)
    clear hb O HV HW OV e0 e1 e2 e3 K
    go_wp2_with fail
    refine CS.mono ?_
    rintro e w3 ⟨v, L, rfl, R, hp, hs, hb⟩
    have R2 : Hid (RowI w.heap.size w3 v L) := row_base R B.size
    have HP : Hid (L.Perm z) := by show L.Perm z; rw [F.out]; exact hp
    have HS : Hid (L.Pairwise (· ≤ ·)) := hs
    replace B := B.trans (hb.mono B.size)
    clear hb CS R hp hs F
    go_wp2
    go_ret
    exact ⟨v, L, rfl, R2.out, HP.out, HS.out, B⟩
end Go.Proofs.YtdkhaghcnijilaaGreat
