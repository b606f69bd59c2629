/- TreeDepth, of both sides. -/
import Derived.Test.YtilobdohoaoikaaTsD
namespace Go.Proofs.Ytilobdohoaoikaa
open Go.RowKit

/-- How many levels a right tree has. -/
def dpV (t : Nd) : Int := if okT t = true then ((lk t true).1 : Int) else 0
theorem prS_lk {t : Nd} {m : Nat} (h : PrS t m) : lk t true = (m + 1, cnt [t] m) := gd_lk m true t ((hd_gd m true t).1 ((hd_lvS t m).2 ((lvS_prS t m).2 h).1))
theorem dpV_at {t : Nd} {m : Nat} (ho : okT t = true) (hg : lvGood t m) : dpV t = ((m + 1 : Nat) : Int) := by
  obtain ⟨m', h⟩ := (okT_prS t).1 ho
  obtain rfl := (lv_one hg).2 m' h.1
  unfold dpV
  rw [if_pos ho, prS_lk h]
theorem levels_any (T m : Nat) (t : Nd) (w : World) (WT : WkAt w T t) (hs : ndSz t ≤ 1048576) (hg : lvGood t m) :
    Calls Try.prog 35 #[.pointer (some ⟨T, 0, none⟩)] w fun e w' => ∃ a c, e = .returned (.slice a (m + 1) c) ∧ Below w.heap.size w w' := by
  have C := levelsOfW_any T t w WT hs
  go_enter Try.func35, Try.ntmps35
  go_wp2_with fail
  refine C.mono ?_
  rintro e w1 ⟨v, rfl, O, hb⟩
  obtain ⟨nb, un⟩ := lv_one hg
  rcases O with ⟨_, bad⟩ | ⟨m', vs, qss, LR, QL, G, _, PT⟩
  · exact absurd bad nb
  obtain rfl := un m' G
  obtain ⟨a, c, rfl, _⟩ := LR.shape
  rw [QL]
  clear LR QL G PT un nb C
  go_wp2
  go_ret
  exact ⟨a, c, rfl, hb⟩

set_option maxRecDepth 20000 in
set_option maxHeartbeats 4000000 in
theorem implTreeDepth (t : Nd) (v1 v2 v3 : Value) (w : World) (N : NdUp w 0 t v1 v2 v3) (hs : ndSz t ≤ 1048576) :
    Calls Try.prog 18 #[ndV t v1 v2 v3] w fun e w' => e = .returned (.int .i64 (dpV t)) ∧ Below w.heap.size w w' := by
  have C := fun W (hb : Below w.heap.size w W) => treeOf_any t v1 v2 v3 W (NdUp.keep hb _ N) hs
  have HG : Hid (okT t = true → ∃ m, lvGood t m ∧ dpV t = ((m + 1 : Nat) : Int) ∧ m ≤ 1048577) := fun ho => by
    obtain ⟨m, h⟩ := (okT_prS t).1 ho
    have := (sz_lvl t m h.1.1).1
    exact ⟨m, h.1, dpV_at ho h.1, by omega⟩
  have HB : Hid (okT t = false → dpV t = 0) := fun ho => by unfold dpV; rw [ho]; rfl
  have LV := fun (T m : Nat) W (WT : WkAt W T t) (hg : lvGood t m) => levels_any T m t W WT hs hg
  obtain ⟨a1, c1, a2, c2, a3, c3, rfl, rfl, rfl, _⟩ := N.open
  obtain ⟨z, HZ⟩ : ∃ z, Hid (dpV t = z) := ⟨_, rfl⟩
  obtain ⟨ok, HO⟩ : ∃ z, Hid (okT t = z) := ⟨_, rfl⟩
  rw [HO.out, HZ.out] at HG HB
  rw [HZ.out]
  rw [HO.out] at C
  unfold ndV at *
  obtain ⟨⟨x1, x2, x3, x4⟩, ux⟩ : ∃ x, Hid (t.b = x) := ⟨_, rfl⟩
  rw [ux.out] at C ⊢
  dsimp only at C ⊢
  clear N hs
  generalize t.bs.length = m1 at *
  generalize t.is.length = m2 at *
  generalize t.ks.length = m3 at *
  have B := below1 w (.cells #[.int .i64 x1, .int .i64 x2, .int .i64 x3, .int .i64 x4, .slice a1 m1 c1, .slice a2 m2 c2, .slice a3 m3 c3] 39)
  have V := Sev.new w x1 x2 x3 x4 (.slice a1 m1 c1) (.slice a2 m2 c2) (.slice a3 m3 c3) 39
  obtain ⟨⟨k0, k1, k2, k3⟩, k4, k5, k6⟩ := id V
  simp only [Nat.zero_add] at k0 k1 k2 k3 k4 k5 k6
  go_enter Try.func18, Try.ntmps18
  go_wp2_with fail
  generalize w.alloc (.cells #[.int .i64 x1, .int .i64 x2, .int .i64 x3, .int .i64 x4, .slice a1 m1 c1, .slice a2 m2 c2, .slice a3 m3 c3] 39) = W0 at *
  refine (C _ B).mono ?_
  rintro e w1 ⟨a, rfl, HT, hb⟩
  replace B := B.trans (hb.mono B.size)
  clear hb k0 k1 k2 k3 k4 k5 k6 V C
  cases ok
  · have F : Hid (z = 0) := (HB.out rfl)
    clear HT HG HB
    go_wp2
    go_ret
    exact ⟨by rw [F.out]; rfl, B⟩
  · obtain ⟨T, rfl, WT⟩ := HT rfl
    obtain ⟨m, hg, hz, hm⟩ := HG.out rfl
    have CL := LV T m w1 WT hg
    have F : Hid (z = ((m + 1 : Nat) : Int)) := hz
    clear HT HG HB LV WT hg hz HO HZ
    generalize m + 1 = n at *
    go_wp2_with fail
    refine CL.mono ?_
    rintro e w2 ⟨a, c, rfl, hb⟩
    replace B := B.trans (hb.mono B.size)
    clear hb CL
    go_wp2
    go_ret
    exact ⟨by rw [F.out]; rfl, B⟩

set_option maxRecDepth 20000 in
set_option maxHeartbeats 4000000 in
theorem specTreeDepth (t : Nd) (v1 v2 v3 : Value) (w : World) (h : NdIn 0 w t v1 v2 v3) (hs : ndSz t ≤ 1048576) :
    Calls Try.prog 17 #[ndV t v1 v2 v3] w fun e w' => e = .returned (.int .i64 (dpV t)) ∧ Below w.heap.size w w' := by
  have C := fun W (hb : Below w.heap.size w W) => l15Look_any t v1 v2 v3 true W (NdIn.keep hb _ h) hs
  have D := fun W (hb : Below w.heap.size w W) => specTreeOk t v1 v2 v3 W (NdIn.keep hb _ h) hs
  have HV : Hid (dpV t = if okT t = true then ((lk t true).1 : Int) else 0) := (rfl : dpV t = _)
  obtain ⟨a1, c1, a2, c2, a3, c3, rfl, rfl, rfl, _⟩ := h.open
  obtain ⟨z, HZ⟩ : ∃ z, Hid (dpV t = z) := ⟨_, rfl⟩
  obtain ⟨ok, HO⟩ : ∃ z, Hid (okT t = z) := ⟨_, rfl⟩
  rw [HO.out, HZ.out] at HV
  rw [HZ.out]
  rw [HO.out] at D
  unfold ndV at *
  obtain ⟨⟨x1, x2, x3, x4⟩, ux⟩ : ∃ x, Hid (t.b = x) := ⟨_, rfl⟩
  rw [ux.out] at C D ⊢
  dsimp only at C D ⊢
  have hle := lk_le t true
  generalize lk t true = r at *
  obtain ⟨d, n⟩ := r
  dsimp only at C HV hle
  have hd : d ≤ 1048577 := by omega
  have hn : n ≤ 1048576 := by omega
  clear h hs hle HO HZ
  generalize t.bs.length = m1 at *
  generalize t.is.length = m2 at *
  generalize t.ks.length = m3 at *
  have B := below1 w (.cells #[.int .i64 x1, .int .i64 x2, .int .i64 x3, .int .i64 x4, .slice a1 m1 c1, .slice a2 m2 c2, .slice a3 m3 c3] 39)
  have V := Sev.new w x1 x2 x3 x4 (.slice a1 m1 c1) (.slice a2 m2 c2) (.slice a3 m3 c3) 39
  obtain ⟨⟨k0, k1, k2, k3⟩, k4, k5, k6⟩ := id V
  simp only [Nat.zero_add] at k0 k1 k2 k3 k4 k5 k6
  go_enter Try.func17, Try.ntmps17
  go_wp2_with fail
  generalize w.alloc (.cells #[.int .i64 x1, .int .i64 x2, .int .i64 x3, .int .i64 x4, .slice a1 m1 c1, .slice a2 m2 c2, .slice a3 m3 c3] 39) = W0 at *
  refine (D _ B).mono ?_
  rintro e w1 ⟨rfl, hb⟩
  replace B := B.trans (hb.mono B.size)
  replace V := V.below hb
  clear hb k0 k1 k2 k3 k4 k5 k6 D
  obtain ⟨⟨k0, k1, k2, k3⟩, k4, k5, k6⟩ := id V
  simp only [Nat.zero_add] at k0 k1 k2 k3 k4 k5 k6
  cases ok
  · have F : Hid (z = 0) := HV.out
    clear HV C
    go_wp2
    go_ret
    exact ⟨by rw [F.out]; rfl, B⟩
  · have F : Hid (z = (d : Int)) := HV.out
    clear HV
    go_wp2_with fail
    refine (C _ B).mono ?_
    rintro e w2 ⟨rfl, hb⟩
    replace B := B.trans (hb.mono B.size)
    clear hb C k0 k1 k2 k3 k4 k5 k6 V
    go_wp2
    go_ret
    exact ⟨by rw [F.out]; rfl, B⟩
end Go.Proofs.Ytilobdohoaoikaa
