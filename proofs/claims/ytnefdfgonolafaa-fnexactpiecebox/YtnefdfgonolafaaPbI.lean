/- A fraction's whole number below and above, as coordinates: impl.asCoord, impl.under, impl.over. -/
import Derived.Test.YtnefdfgonolafaaFloor
import Derived.Test.YtnefdfgonolafaaNegd
import Derived.Test.YtnefdfgonolafaaSmallW
import Derived.Test.YtnefdfgonolafaaFracW
import Derived.Test.YtnefdfgonolafaaPtW
import Derived.Test.YtnefdfgonolafaaBounds
import Derived.Test.YtnefdfgonolafaaTree
import Derived.Test.YtnefdfgonolafaaHeldQ
import Derived.Deep.DeepCutAuto
namespace Go.Proofs.Ytnefdfgonolafaa
open Go.RowKit

/-- What stands for a whole number where a coordinate is wanted: the number itself if it is one, else none. -/
def Co (v q : Int) : Prop := (Crd q → v = q) ∧ (¬ Crd q → ¬ Crd v) ∧ -9223372036854775808 ≤ v ∧ v ≤ 9223372036854775807

theorem tk_isP {us : List Int} {n : Int} (hl : Lim us) (hn : Nrm us) (l : us.length ≤ 24) (hv : val us = mg n) : tk (decide (n < 0)) us = n := by
  have hk : okB (decide (n < 0)) us = true := by
    unfold okB
    by_cases h0 : us.length = 0
    · rw [if_pos h0]
      obtain rfl : us = [] := List.eq_nil_of_length_eq_zero h0
      have : mg n = 0 := by rw [← hv]; rfl
      unfold mg at this
      simp
      split at this <;> omega
    · rw [if_neg h0]
      have hlast : us.getLast? = some (us[us.length - 1]?.getD 0) := by
        rw [List.getLast?_eq_getElem?, List.getElem?_eq_getElem (by omega)]
        rfl
      have := last_of_Nrm hn _ hlast
      simp [l, this]
  unfold tk tkG tkL
  rw [hk, if_pos rfl, Bool.true_and, hv]
  unfold sg mg
  by_cases h : n < 0 <;> simp [h]

theorem fOk_pos {g h : Bool} {xs ys : List Int} (e : fOk g xs h ys = true) : 0 < tk h ys := by
  unfold fOk at e
  simp only [Bool.and_eq_true, decide_eq_true_eq] at e
  have := e.2
  unfold cmpZ at this
  split at this
  · omega
  · split at this <;> omega
theorem sg_mgP (n : Int) : sg (decide (n < 0)) (mg n) = n := by
  unfold sg mg; by_cases h : n < 0 <;> simp [h]
theorem ediv_bd {n d Q : Int} (hd : 0 < d) (h1 : -Q < n) (h2 : n < Q) : mg (n / d) < Q := by
  have e := Int.mul_ediv_add_emod n d
  have r0 := Int.emod_nonneg n (show d ≠ 0 by omega)
  have r1 := Int.emod_lt_of_pos n hd
  unfold mg
  generalize n % d = r at *
  generalize n / d = q at *
  split
  · next hneg =>
    have h7 : d * q ≤ 1 * q := Int.mul_le_mul_of_nonpos_right (by omega) (by omega)
    have h8 : d * (q + 1) ≤ 1 * (q + 1) := Int.mul_le_mul_of_nonpos_right (by omega) (by omega)
    rw [Int.mul_add, Int.mul_one] at h8
    omega
  · next hpos =>
    have h7 : 1 * q ≤ d * q := Int.mul_le_mul_of_nonneg_right (by omega) (by omega)
    omega

theorem co_neg {u q : Int} (h : Co u q) : Co (IntKind.i64.wrap (-u)) (-q) := by
  by_cases hc : Crd q
  · obtain rfl := h.1 hc
    unfold Crd at hc
    have e : IntKind.i64.wrap (-u) = -u := by
      simp only [IntKind.wrap, IntKind.bits, IntKind.signed]
      simp
      omega
    rw [e]
    exact ⟨fun _ => rfl, fun k => absurd (show Crd (-u) from by unfold Crd; omega) k, by omega, by omega⟩
  · have hu := h.2.1 hc
    obtain ⟨h1, h2⟩ := h.2.2
    have hs : -9223372036854775808 ≤ IntKind.i64.wrap (-u) ∧ IntKind.i64.wrap (-u) ≤ 9223372036854775807 := by
      simp only [IntKind.wrap, IntKind.bits, IntKind.signed]
      simp
      omega
    refine ⟨fun k => absurd (show Crd q from by unfold Crd at *; omega) hc, fun _ k => hu ?_, hs⟩
    unfold Crd at *
    simp only [IntKind.wrap, IntKind.bits, IntKind.signed] at k
    simp at k
    omega

set_option maxHeartbeats 1000000 in
theorem asCoordC (g : Bool) (a : Option Addr) (c : Nat) (xs : List Int) (w : World) (h : Sees w a c xs) :
    Calls Try.prog 29 #[.agg #[.bool g, .slice a xs.length c]] w fun e w' => ∃ v, e = .returned (.int .i64 v) ∧ Co v (tk g xs) ∧ Below w.heap.size w w' := by
  obtain ⟨z, hz⟩ : ∃ z, Hid (tk g xs = z) := ⟨_, rfl⟩
  rw [hz.out]
  have B := below1 w (.cells #[.bool g, .slice a xs.length c] 36)
  replace h := h.below B
  go_enter Try.func29, Try.ntmps29
  go_wp2_with fail
  refine (implSmall g a c xs _ h).mono ?_
  rintro e w1 ⟨rfl, hb⟩
  rw [hz.out]
  replace B := B.trans (hb.mono B.size)
  clear hb h hz
  by_cases hs : smB z = true
  · have e1 : smZ z = z := by unfold smZ; rw [if_pos hs]
    have HZ : Hid (-9223372036854775808 ≤ z ∧ z ≤ 9223372036854775807) := by unfold smB at hs; exact (of_decide_eq_true hs : -9223372036854775808 ≤ z ∧ z ≤ 9223372036854775807)
    rw [e1, hs]
    have HB : Hid (Below w.heap.size w w1) := B
    clear B hs e1
    go_wp2
    go_ret
    exact ⟨z, rfl, ⟨fun _ => rfl, fun h => h, HZ.out⟩, HB.out⟩
  · have hs' : smB z = false := by simpa using hs
    have hC : Hid (Co 10000001 z) := ⟨fun hc => by exfalso; unfold smB at hs'; unfold Crd at hc; simp at hs'; omega, fun _ => by unfold Crd; omega, by omega, by omega⟩
    rw [hs']
    generalize smZ z = y
    have HB : Hid (Below w.heap.size w w1) := B
    clear B hs hs'
    go_wp2
    go_ret
    exact ⟨10000001, rfl, hC.out, HB.out⟩

/-- A number that is answered, as a coordinate. -/
theorem coordOf {base : Nat} {w : World} {v : Value} {z : Int} (h : IsNum base w v z) (l : mg z < 4294967296 ^ 24) :
    Calls Try.prog 29 #[v] w fun e w' => ∃ u, e = .returned (.int .i64 u) ∧ Co u z ∧ Below w.heap.size w w' := by
  obtain ⟨a, c, us, rfl, ho, hn, hv⟩ := h
  have t := tk_isP ho.lim hn (len_le ho.lim hn (by rw [hv]; exact l)) hv
  have := asCoordC (decide (z < 0)) a c us w ho.toSees
  rw [t] at this
  exact this

set_option maxHeartbeats 1000000 in
theorem underC (g h : Bool) (a b : Option Addr) (c d : Nat) (xs ys : List Int) (w : World) (hx : Sees w a c xs) (hy : Sees w b d ys) (hk : fOk g xs h ys = true) :
    Calls Try.prog 16 #[.agg #[.bool g, .slice a xs.length c, .bool h, .slice b ys.length d]] w fun e w' => ∃ v, e = .returned (.int .i64 v) ∧ Co v (tk g xs / tk h ys) ∧ Below w.heap.size w w' := by
  obtain ⟨k1, k2⟩ := fOk_parts hk
  obtain ⟨e1, e2, e3, e4⟩ := ok_parts hx.lim k1
  obtain ⟨f1, f2, f3, f4⟩ := ok_parts hy.lim k2
  have hp := fOk_pos hk
  have hne : ys ≠ [] := nrm_ne f2 hp
  obtain ⟨bd1, bd2⟩ := tk_bounds g xs hx.lim
  have L : Hid (mg (tk g xs / tk h ys) < 4294967296 ^ 24) := ediv_bd hp bd1 bd2
  have s1 : sg g (val xs) = tk g xs := by have e := sg_mgP (tk g xs); rw [e1, ← e2] at e; exact e
  have s2 : sg h (val ys) = tk h ys := by have e := sg_mgP (tk h ys); rw [f1, ← f2] at e; exact e
  have B := below1 w (.cells #[.bool g, .slice a xs.length c, .bool h, .slice b ys.length d] 38)
  have C := floorC g h a b c d xs ys _ (hx.below B) (hy.below B) e3 f3 hne e4 f4
  rw [s1, s2] at C
  generalize tk g xs / tk h ys = q at *
  clear e1 e2 f1 f2 s1 s2 bd1 bd2 hp hk k1 k2 hx hy e3 f3 hne
  have HB : Hid _ := B
  clear B
  go_enter Try.func16, Try.ntmps16
  go_wp2_with fail
  refine C.mono ?_
  rintro e w1 ⟨v, rfl, hI, hb⟩
  have B1 := HB.out.trans (hb.mono HB.out.size)
  have C2 := coordOf hI L.out
  obtain ⟨g1, a1, n1, c1, rfl⟩ := hI.shape
  clear hb hI C HB
  go_wp2_with fail
  refine C2.mono ?_
  rintro e w2 ⟨v, rfl, hC, hb⟩
  have B2 : Hid _ := B1.trans (hb.mono B1.size)
  have HC : Hid (Co v q) := hC
  clear hb hC C2 B1
  go_wp2
  go_ret
  exact ⟨v, rfl, HC.out, B2.out⟩

set_option maxHeartbeats 1000000 in
theorem overC (g h : Bool) (a b : Option Addr) (c d : Nat) (xs ys : List Int) (w : World) (hx : Sees w a c xs) (hy : Sees w b d ys) (hk : fOk g xs h ys = true) :
    Calls Try.prog 17 #[.agg #[.bool g, .slice a xs.length c, .bool h, .slice b ys.length d]] w fun e w' => ∃ v, e = .returned (.int .i64 v) ∧ Co v (-(-tk g xs / tk h ys)) ∧ Below w.heap.size w w' := by
  obtain ⟨k1, k2⟩ := fOk_parts hk
  obtain ⟨e1, e2, e3, e4⟩ := ok_parts hx.lim k1
  obtain ⟨f1, f2, f3, f4⟩ := ok_parts hy.lim k2
  have hp := fOk_pos hk
  have hne : ys ≠ [] := nrm_ne f2 hp
  obtain ⟨bd1, bd2⟩ := tk_bounds g xs hx.lim
  have L : Hid (mg (-tk g xs / tk h ys) < 4294967296 ^ 24) := ediv_bd hp (by omega) (by omega)
  have s1 : sg (!g && decide (0 < xs.length)) (val xs) = -tk g xs := by
    have e5 : sg g (val xs) = tk g xs := by have e := sg_mgP (tk g xs); rw [e1, ← e2] at e; exact e
    by_cases h0 : xs = []
    · subst h0
      have : tk g [] = 0 := by rw [← e5]; cases g <;> rfl
      rw [this]
      cases g <;> rfl
    · rw [decide_eq_true (List.length_pos_iff.2 h0), Bool.and_true, ← e5]
      cases g <;> simp [sg]
  have s2 : sg h (val ys) = tk h ys := by have e := sg_mgP (tk h ys); rw [f1, ← f2] at e; exact e
  have B := below1 w (.cells #[.bool g, .slice a xs.length c, .bool h, .slice b ys.length d] 38)
  have C : Hid (∀ w1, Below w.heap.size w w1 → Calls Try.prog 30 #[.agg #[.bool (!g && decide (0 < xs.length)), .slice a xs.length c, .bool h, .slice b ys.length d]] w1 fun e w' => ∃ v, e = .returned v ∧ IsNum w1.heap.size w' v (-tk g xs / tk h ys) ∧ Below w1.heap.size w1 w') := fun w1 hb => by
    have := floorC (!g && decide (0 < xs.length)) h a b c d xs ys w1 (hx.below hb) (hy.below hb) e3 f3 hne e4 f4
    rw [s1, s2] at this
    exact this
  generalize -tk g xs / tk h ys = q at *
  have l64 : xs.length ≤ 9223372036854775807 := by omega
  clear e1 e2 f1 f2 s1 s2 bd1 bd2 hp hk k1 k2 hx hy e3 f3 hne e4 f4
  have V := Box4.new w (Nat.le_refl _) (.bool g) (.slice a xs.length c) (.bool h) (.slice b ys.length d) 38
  have HB : Hid _ := B
  clear B
  go_enter Try.func17, Try.ntmps17
  go_upto_region 1 with fail
  generalize hW : w.alloc (.cells #[.bool g, .slice a xs.length c, .bool h, .slice b ys.length d] 38) = W at *
  clear hW
  obtain ⟨v0, v1, v2, v3, _, _⟩ := id V
  refine wp_region_held_drew (S := Below W.heap.size W) (by kernel_rfl) ((Below.refl _ _).drew) (fun hHeld => ?_)
  have N : Below W.heap.size W W.drew := hHeld
  revert hHeld N
  generalize W.drew = ww0
  intro hHeld N
  refine takeQ (i := 0) (gt rfl) (by kernel_rfl) (fun _ _ _ h => h) (by rfl) (by intro wq hSw; go_simp <;> with_reducible rfl) (by assumption) ?_
  try simp only [Act.put, sA, sB, sC]
  refine takeQ (i := 1) (gt rfl) (by kernel_rfl) (fun _ _ _ h => h) (by rfl) (by intro wq hSw; have q0 := bat hSw v0; have q1 := bat hSw v1; have q2 := bat hSw v2; have q3 := bat hSw v3; go_simp <;> with_reducible rfl) (by assumption) ?_
  try simp only [Act.put, sA, sB, sC]
  refine takeQ (i := 3) (gt rfl) (by kernel_rfl) (fun _ _ _ h => h) (by rfl) (by intro wq hSw; go_simp <;> with_reducible rfl) (by assumption) ?_
  try simp only [Act.put, sA, sB, sC]
  refine takeQ (i := 4) (gt rfl) (by kernel_rfl) (fun _ _ _ h => h) (by rfl) (by intro wq hSw; have q0 := bat hSw v0; have q1 := bat hSw v1; have q2 := bat hSw v2; have q3 := bat hSw v3; go_simp <;> with_reducible rfl) (by assumption) ?_
  try simp only [Act.put, sA, sB, sC]
  refine wpAnyH_ready (rs := [2]) (by kernel_rfl) (by simp) (AllReadyH.cons (gt rfl) (fun K hK => ?_) AllReadyH.nil)
  go_simp
  refine (negatedC g a c xs.length _ l64).mono ?_
  rintro e w1 ⟨rfl, hb⟩
  replace N := N.trans (hb.mono N.size)
  clear hb
  refine hK.out _ _ N (fun hHeld => ?_)
  clear hK K
  try simp only [Act.put, sA, sB, sC]
  refine takeQ (i := 5) (gt rfl) (by kernel_rfl) (fun _ _ _ h => h) (by rfl) (by intro wq hSw; go_simp <;> with_reducible rfl) (by assumption) ?_
  try simp only [Act.put, sA, sB, sC]
  refine wpAnyH_ready (rs := [6]) (by kernel_rfl) (by simp) (AllReadyH.cons (gt rfl) (fun K hK => ?_) AllReadyH.nil)
  go_simp
  refine (C.out _ (HB.out.trans (N.mono HB.out.size))).mono ?_
  rintro e w2 ⟨v, rfl, hI, hb⟩
  replace N := N.trans (hb.mono N.size)
  have C2 := coordOf hI L.out
  obtain ⟨g1, a1, n1, c1, rfl⟩ := hI.shape
  clear hb hI
  refine hK.out _ _ N (fun hHeld => ?_)
  clear hK K
  try simp only [Act.put, sA, sB, sC]
  refine wpAnyH_ready (rs := [7]) (by kernel_rfl) (by simp) (AllReadyH.cons (gt rfl) (fun K hK => ?_) AllReadyH.nil)
  go_simp
  refine C2.mono ?_
  rintro e w3 ⟨u, rfl, hC, hb⟩
  replace N := N.trans (hb.mono N.size)
  clear hb C2
  have HC : Hid (Co u q) := hC
  clear hC
  refine hK.out _ _ N (fun hHeld => ?_)
  clear hK K
  try simp only [Act.put, sA, sB, sC]
  refine takeQ (i := 8) (gt rfl) (by kernel_rfl) (fun _ _ _ h => h) (by rfl) (by intro wq hSw; go_simp <;> with_reducible rfl) (by assumption) ?_
  try simp only [Act.put, sA, sB, sC]
  refine takeQ (i := 9) (gt rfl) (by kernel_rfl) (fun _ _ _ h => h) (by rfl) (by intro wq hSw; go_simp <;> with_reducible rfl) (by assumption) ?_
  try simp only [Act.put, sA, sB, sC]
  refine wpAnyH_done (by kernel_rfl) ?_ _
  have HN : Hid (Below w.heap.size w w3) := HB.out.trans (N.mono HB.out.size)
  clear N HB C v0 v1 v2 v3 V hHeld
  go_wp2
  go_ret
  exact ⟨_, rfl, co_neg HC.out, HN.out⟩
end Go.Proofs.Ytnefdfgonolafaa
