/- TreeFind, of the specification. -/
import Derived.Test.YtdkhaghcnijilaaGreatTfT
import Derived.Test.YtdkhaghcnijilaaGreatTrM
namespace Go.Proofs.YtdkhaghcnijilaaGreat
open Go.RowKit

/-- What is found in a tree, in some order. -/
def fdR (wn : Bx) (t : Nd) : List Int := if okT t = true then fdV wn t else []
theorem okT_hd {t : Nd} (h : okT t = true) : ∃ m, Hd true t m ∧ lvGood t m := by
  obtain ⟨m, hp⟩ := (okT_prS t).1 h
  exact ⟨m, (hd_lvS t m).2 ((lvS_prS t m).2 hp).1, hp.1⟩
theorem fdR_le (wn : Bx) (t : Nd) : (fdR wn t).length ≤ ndSz t := by
  unfold fdR
  split
  · exact fdV_le wn t
  · exact Nat.zero_le _

set_option maxRecDepth 20000 in
set_option maxHeartbeats 4000000 in
theorem specTreeFind (t : Nd) (v1 v2 v3 : Value) (y1 y2 y3 y4 : Int) (w : World) (h : NdIn 0 w t v1 v2 v3) (hs : ndSz t ≤ 1048576) :
    Calls Tryz.prog 8 #[ndV t v1 v2 v3, .agg #[.int .i64 y1, .int .i64 y2, .int .i64 y3, .int .i64 y4]] w fun e w' => ∃ v L, e = .returned v ∧ RowI w.heap.size w' v L ∧ L.Perm (fdR (y1, y2, y3, y4) t) ∧ L.Pairwise (· ≤ ·) ∧ Below w.heap.size w w' := by
  have HC : Hid (∀ W, Below w.heap.size w W → okT t = true → Calls Tryz.prog 33 #[ndV t v1 v2 v3, .agg #[.int .i64 y1, .int .i64 y2, .int .i64 y3, .int .i64 y4]] W fun e w' => ∃ v, e = .returned v ∧ RowI W.heap.size w' v (fdV (y1, y2, y3, y4) t) ∧ Below W.heap.size W w') := fun W hb ho => by
    obtain ⟨m, hd, _⟩ := okT_hd ho
    exact l15Find_any t true m v1 v2 v3 y1 y2 y3 y4 W hd (NdIn.keep hb _ h) hs
  have D := fun W (hb : Below w.heap.size w W) => specTreeOk t v1 v2 v3 W (NdIn.keep hb _ h) hs
  have HV : Hid (fdR (y1, y2, y3, y4) t = if okT t = true then fdV (y1, y2, y3, y4) t else []) := (rfl : fdR (y1, y2, y3, y4) t = _)
  have hle := fdV_le (y1, y2, y3, y4) t
  obtain ⟨a1, c1, a2, c2, a3, c3, rfl, rfl, rfl, _⟩ := h.open
  obtain ⟨z, HZ⟩ : ∃ z, Hid (fdR (y1, y2, y3, y4) t = z) := ⟨_, rfl⟩
  obtain ⟨u, HU⟩ : ∃ u, Hid (fdV (y1, y2, y3, y4) t = u) := ⟨_, rfl⟩
  obtain ⟨ok, HO⟩ : ∃ z, Hid (okT t = z) := ⟨_, rfl⟩
  rw [HO.out, HZ.out, HU.out] at HV
  rw [HZ.out]
  rw [HO.out] at D
  rw [HO.out, HU.out] at HC
  rw [HU.out] at hle
  unfold ndV at *
  obtain ⟨⟨x1, x2, x3, x4⟩, ux⟩ : ∃ x, Hid (t.b = x) := ⟨_, rfl⟩
  rw [ux.out] at HC D ⊢
  dsimp only at HC D ⊢
  have hul : u.length ≤ 4000000 := by omega
  clear h hs HO HZ HU hle
  generalize t.bs.length = m1 at *
  generalize t.is.length = m2 at *
  generalize t.ks.length = m3 at *
  have b0 := below1 w (.cells #[.int .i64 x1, .int .i64 x2, .int .i64 x3, .int .i64 x4, .slice a1 m1 c1, .slice a2 m2 c2, .slice a3 m3 c3] 39)
  have V := Sev.new w x1 x2 x3 x4 (.slice a1 m1 c1) (.slice a2 m2 c2) (.slice a3 m3 c3) 39
  have b1 := below1 (w.alloc (.cells #[.int .i64 x1, .int .i64 x2, .int .i64 x3, .int .i64 x4, .slice a1 m1 c1, .slice a2 m2 c2, .slice a3 m3 c3] 39)) (.cells #[.int .i64 y1, .int .i64 y2, .int .i64 y3, .int .i64 y4] 35)
  have Y : Four ((w.alloc (.cells #[.int .i64 x1, .int .i64 x2, .int .i64 x3, .int .i64 x4, .slice a1 m1 c1, .slice a2 m2 c2, .slice a3 m3 c3] 39)).alloc (.cells #[.int .i64 y1, .int .i64 y2, .int .i64 y3, .int .i64 y4] 35)) (w.heap.size + 1) 0 (y1, y2, y3, y4) := by
    have q := fun k v (hv : (#[Value.int .i64 y1, .int .i64 y2, .int .i64 y3, .int .i64 y4] : Array Value)[k]? = some v) => cell_new (w.alloc (.cells #[.int .i64 x1, .int .i64 x2, .int .i64 x3, .int .i64 x4, .slice a1 m1 c1, .slice a2 m2 c2, .slice a3 m3 c3] 39)) #[.int .i64 y1, .int .i64 y2, .int .i64 y3, .int .i64 y4] 35 k hv
    rw [World.size_alloc] at q
    exact ⟨q 0 _ rfl, q 1 _ rfl, q 2 _ rfl, q 3 _ rfl⟩
  have K : FB _ w.heap.size x1 x2 x3 x4 (.slice a1 m1 c1) (.slice a2 m2 c2) (.slice a3 m3 c3) y1 y2 y3 y4 := ⟨V.below b1, Y⟩
  have B := b0.trans (b1.mono b0.size)
  clear b0 b1 V Y
  go_enter Tryz.func8, Tryz.ntmps8
  go_upto_region 1 with fail
  generalize (w.alloc (.cells #[.int .i64 x1, .int .i64 x2, .int .i64 x3, .int .i64 x4, .slice a1 m1 c1, .slice a2 m2 c2, .slice a3 m3 c3] 39)).alloc (.cells #[.int .i64 y1, .int .i64 y2, .int .i64 y3, .int .i64 y4] 35) = W0 at *
  obtain ⟨⟨⟨k0, k1, k2, k3⟩, k4, k5, k6⟩, ⟨e0, e1, e2, e3⟩⟩ := id K
  simp only [Nat.zero_add] at k0 k1 k2 k3 k4 k5 k6 e0 e1 e2 e3
  go_wp2_with fail
  refine (D _ B).mono ?_
  rintro e w1 ⟨rfl, hb⟩
  replace B := B.trans (hb.mono B.size)
  replace K := K.below hb
  clear hb k0 k1 k2 k3 k4 k5 k6 e0 e1 e2 e3 D
  obtain ⟨⟨⟨k0, k1, k2, k3⟩, k4, k5, k6⟩, ⟨e0, e1, e2, e3⟩⟩ := id K
  simp only [Nat.zero_add] at k0 k1 k2 k3 k4 k5 k6 e0 e1 e2 e3
  cases ok
  · have F : Hid (z = []) := HV.out
    have RE : Hid (RowI w.heap.size (w1.alloc (.cells #[] 3)) (.slice (some ⟨w1.heap.size, 0, none⟩) 0 0) []) := RowI.empty w1 B.size
    have b1 := below1 w1 (.cells #[] 3)
    replace B := B.trans (b1.mono B.size)
    clear HV HC b1 k0 k1 k2 k3 k4 k5 k6 e0 e1 e2 e3 K
    go_wp2
    go_ret
    exact ⟨_, [], rfl, RE.out, by rw [F.out], List.Pairwise.nil, B⟩
  · have F : Hid (z = u) := HV.out
    have C := HC.out w1 B rfl
    clear HV HC
    go_wp2_with fail
    refine C.mono ?_
    rintro e w2 ⟨v, rfl, R, hb⟩
    obtain ⟨av, cv, rfl, _, _⟩ := R.shape'
    have bw := B.size
    replace B := B.trans (hb.mono B.size)
    have RC := rising_any av cv u w2 R hul
    clear hb C k0 k1 k2 k3 k4 k5 k6 e0 e1 e2 e3 K
    go_wp2_with fail
    refine RC.mono ?_
    rintro e w3 ⟨rfl, ⟨L, RL, hl, hp, hs⟩, G⟩
    have RF : Hid (RowI w.heap.size w3 (.slice av u.length cv) L) := by show RowI _ _ _ _; rw [← hl]; exact row_base RL bw
    have B3 := B.grown G B.size (fun k hk => by have := (World.ownsRow.lt R k hk).1; omega)
    have HP : Hid (L.Perm z) := by show L.Perm z; rw [F.out]; exact hp
    have HS : Hid (L.Pairwise (· ≤ ·)) := hs
    clear G R RL RC hl hp hs F B
    go_wp2
    go_ret
    exact ⟨_, L, rfl, RF.out, HP.out, HS.out, B3⟩
end Go.Proofs.YtdkhaghcnijilaaGreat
