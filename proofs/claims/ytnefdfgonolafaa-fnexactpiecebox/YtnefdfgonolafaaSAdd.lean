/- The specification's sums of numbers: l1Add. -/
import Derived.Test.YtnefdfgonolafaaSMag
import Derived.Test.YtnefdfgonolafaaSCmp
import Derived.Test.YtnefdfgonolafaaSNum
import Derived.Test.YtnefdfgonolafaaTaken
namespace Go.Proofs.Ytnefdfgonolafaa
open Go.RowKit

set_option maxHeartbeats 1000000 in
theorem l1Add_same (n : Bool) (a b : Option Addr) (c d : Nat) (xs ys : List Int) (w : World) (h : Sees w a c xs) (k : Sees w b d ys) (hx : xs.length ≤ 1048576) (hy : ys.length ≤ 1048576) :
    Calls Try.prog 44 #[.bool n, .slice a xs.length c, .bool n, .slice b ys.length d] w fun e w' => ∃ v, e = .returned v ∧ IsNum w.heap.size w' v (sg n (val xs) + sg n (val ys)) ∧ Below w.heap.size w w' := by
  have HX : Hid (xs.length ≤ 1048576) := hx
  have HY : Hid (ys.length ≤ 1048576) := hy
  clear hx hy
  rcases n with _ | _
  · go_enter Try.func44, Try.ntmps44
    go_wp2_with fail
    refine (l1AddMagC a b c d xs ys _ (h.below (below1 _ _)) (k.below (below1 _ _)) HX.out HY.out).mono ?_
    rintro e w2 ⟨a2, c2, zs, rfl, ho, hv, hl, hb⟩
    obtain ⟨q3, q4⟩ := at_block hb (b := w.heap.size) (by simp)
    have hs2 := hb.size
    simp only [World.size_alloc] at hs2
    have B2 := (below1 w _).trans (hb.mono (by simp))
    have E : Hid (sg false (val zs) = sg false (val xs) + sg false (val ys)) := by show _ = _; rw [hv]; simp only [sg]; simp <;> omega
    have HZ : Hid (zs.length ≤ 2097152) := by have := HX.out; have := HY.out; show _ ≤ _; omega
    clear hb hv hl
    go_wp2_with fail
    refine (l1NumC false a2 c2 zs _ ho.toSees HZ.out).mono ?_
    rintro e w3 ⟨v, rfl, hI, hb⟩
    replace hI := hI.eq E.out
    obtain ⟨g5, a5, l5, c5, rfl⟩ := hI.shape
    have hs3 := hb.size
    replace hI := hI.base_le (show w.heap.size + 1 ≤ _ from hs2)
    have B3 := B2.trans (hb.mono (Nat.le_trans (Nat.le_succ _) hs2))
    have q5 := fun o => (hb.cell (p := ⟨w.heap.size, o, none⟩) (by show w.heap.size < _; omega)).trans (q3 o)
    have q6 := fun o => (hb.frozen (p := ⟨w.heap.size, o, none⟩) (by show w.heap.size < _; omega)).trans (q4 o)
    have z3 : w.heap.size < w3.heap.size := by omega
    clear hb q3 q4 E B2
    go_wp2
    exact bodyPost_ret (v := .agg #[.bool g5, .slice a5 l5 c5]) (by simp [results, Try.results44, go_sem, q5]) rfl ⟨_, rfl, hI.put (by omega), below_put B3 _ _⟩
  · go_enter Try.func44, Try.ntmps44
    go_wp2_with fail
    refine (l1AddMagC a b c d xs ys _ (h.below (below1 _ _)) (k.below (below1 _ _)) HX.out HY.out).mono ?_
    rintro e w2 ⟨a2, c2, zs, rfl, ho, hv, hl, hb⟩
    obtain ⟨q3, q4⟩ := at_block hb (b := w.heap.size) (by simp)
    have hs2 := hb.size
    simp only [World.size_alloc] at hs2
    have B2 := (below1 w _).trans (hb.mono (by simp))
    have E : Hid (sg true (val zs) = sg true (val xs) + sg true (val ys)) := by show _ = _; rw [hv]; simp only [sg]; simp <;> omega
    have HZ : Hid (zs.length ≤ 2097152) := by have := HX.out; have := HY.out; show _ ≤ _; omega
    clear hb hv hl
    go_wp2_with fail
    refine (l1NumC true a2 c2 zs _ ho.toSees HZ.out).mono ?_
    rintro e w3 ⟨v, rfl, hI, hb⟩
    replace hI := hI.eq E.out
    obtain ⟨g5, a5, l5, c5, rfl⟩ := hI.shape
    have hs3 := hb.size
    replace hI := hI.base_le (show w.heap.size + 1 ≤ _ from hs2)
    have B3 := B2.trans (hb.mono (Nat.le_trans (Nat.le_succ _) hs2))
    have q5 := fun o => (hb.cell (p := ⟨w.heap.size, o, none⟩) (by show w.heap.size < _; omega)).trans (q3 o)
    have q6 := fun o => (hb.frozen (p := ⟨w.heap.size, o, none⟩) (by show w.heap.size < _; omega)).trans (q4 o)
    have z3 : w.heap.size < w3.heap.size := by omega
    clear hb q3 q4 E B2
    go_wp2
    exact bodyPost_ret (v := .agg #[.bool g5, .slice a5 l5 c5]) (by simp [results, Try.results44, go_sem, q5]) rfl ⟨_, rfl, hI.put (by omega), below_put B3 _ _⟩

set_option maxHeartbeats 1000000 in
theorem l1Add_false (a b : Option Addr) (c d : Nat) (xs ys : List Int) (w : World) (h : Sees w a c xs) (k : Sees w b d ys) (nx : Nrm xs) (ny : Nrm ys) (hx : xs.length ≤ 1048576) (hy : ys.length ≤ 1048576) :
    Calls Try.prog 44 #[.bool false, .slice a xs.length c, .bool true, .slice b ys.length d] w fun e w' => ∃ v, e = .returned v ∧ IsNum w.heap.size w' v (sg false (val xs) + sg true (val ys)) ∧ Below w.heap.size w w' := by
  have HX : Hid (xs.length ≤ 1048576) := hx
  have HY : Hid (ys.length ≤ 1048576) := hy
  clear hx hy
  by_cases hc : val xs < val ys
  · have E1 : cmpZ (val xs) (val ys) = -1 := by unfold cmpZ; rw [if_pos hc]
    have hll : xs.length ≤ ys.length := by
      rcases Nat.lt_or_ge ys.length xs.length with h1 | h1
      · exfalso; have := cmp_len k.lim h.lim nx h1; omega
      · exact h1
    have HC : Hid (val xs < val ys) := hc
    clear hc
    go_enter Try.func44, Try.ntmps44
    go_wp2_with fail
    refine (l1CmpMagC a b c d xs ys _ (h.below (below1 _ _)) (k.below (below1 _ _)) nx ny).mono ?_
    rintro e w1 ⟨rfl, n, rfl⟩
    rw [E1]
    go_wp2_with fail
    have b1 := below_drewN (below1 w (.cells #[.bool false, .slice none 0 0] 36)) n
    refine (l1SubMagC b a d c ys xs _ (k.below b1) (h.below b1) (Nat.le_trans HY.out (by decide)) hll (by have := HC.out; omega)).mono ?_
    rintro e w2 ⟨a2, c2, zs, rfl, ho, hv, hl, hb⟩
    obtain ⟨q3, q4⟩ := at_block hb (b := w.heap.size) (by simp)
    have hs2 := hb.size
    simp only [World.size_alloc, World.heap_drewN] at hs2
    have B2 := b1.trans (hb.mono b1.size)
    have E : Hid (sg true (val zs) = sg false (val xs) + sg true (val ys)) := by show _ = _; rw [hv]; simp only [sg]; simp <;> omega
    have HZ : Hid (zs.length ≤ 2097152) := by have := HY.out; show _ ≤ _; omega
    clear hb hv hl b1
    go_wp2_with fail
    refine (l1NumC true a2 c2 zs _ ho.toSees HZ.out).mono ?_
    rintro e w3 ⟨v, rfl, hI, hb⟩
    replace hI := hI.eq E.out
    obtain ⟨g5, a5, l5, c5, rfl⟩ := hI.shape
    have hs3 := hb.size
    replace hI := hI.base_le (show w.heap.size + 1 ≤ _ from hs2)
    have B3 := B2.trans (hb.mono (Nat.le_trans (Nat.le_succ _) hs2))
    have q5 := fun o => (hb.cell (p := ⟨w.heap.size, o, none⟩) (by show w.heap.size < _; omega)).trans (q3 o)
    have q6 := fun o => (hb.frozen (p := ⟨w.heap.size, o, none⟩) (by show w.heap.size < _; omega)).trans (q4 o)
    have z3 : w.heap.size < w3.heap.size := by omega
    clear hb q3 q4 E B2
    go_wp2
    exact bodyPost_ret (v := .agg #[.bool g5, .slice a5 l5 c5]) (by simp [results, Try.results44, go_sem, q5]) rfl ⟨_, rfl, hI.put (by omega), below_put B3 _ _⟩
  · have E1 : 0 ≤ cmpZ (val xs) (val ys) := by unfold cmpZ; rw [if_neg hc]; split <;> decide
    have hll : ys.length ≤ xs.length := by
      rcases Nat.lt_or_ge xs.length ys.length with h1 | h1
      · exfalso; have := cmp_len h.lim k.lim ny h1; omega
      · exact h1
    have HC : Hid (¬ val xs < val ys) := hc
    clear hc
    go_enter Try.func44, Try.ntmps44
    go_wp2_with fail
    refine (l1CmpMagC a b c d xs ys _ (h.below (below1 _ _)) (k.below (below1 _ _)) nx ny).mono ?_
    rintro e w1 ⟨rfl, n, rfl⟩
    generalize cmpZ (val xs) (val ys) = z at E1 ⊢
    go_wp2_with fail
    have b1 := below_drewN (below1 w (.cells #[.bool false, .slice none 0 0] 36)) n
    refine (l1SubMagC a b c d xs ys _ (h.below b1) (k.below b1) (Nat.le_trans HX.out (by decide)) hll (by have := HC.out; omega)).mono ?_
    rintro e w2 ⟨a2, c2, zs, rfl, ho, hv, hl, hb⟩
    obtain ⟨q3, q4⟩ := at_block hb (b := w.heap.size) (by simp)
    have hs2 := hb.size
    simp only [World.size_alloc, World.heap_drewN] at hs2
    have B2 := b1.trans (hb.mono b1.size)
    have E : Hid (sg false (val zs) = sg false (val xs) + sg true (val ys)) := by show _ = _; rw [hv]; simp only [sg]; simp <;> omega
    have HZ : Hid (zs.length ≤ 2097152) := by have := HX.out; show _ ≤ _; omega
    clear hb hv hl b1
    go_wp2_with fail
    refine (l1NumC false a2 c2 zs _ ho.toSees HZ.out).mono ?_
    rintro e w3 ⟨v, rfl, hI, hb⟩
    replace hI := hI.eq E.out
    obtain ⟨g5, a5, l5, c5, rfl⟩ := hI.shape
    have hs3 := hb.size
    replace hI := hI.base_le (show w.heap.size + 1 ≤ _ from hs2)
    have B3 := B2.trans (hb.mono (Nat.le_trans (Nat.le_succ _) hs2))
    have q5 := fun o => (hb.cell (p := ⟨w.heap.size, o, none⟩) (by show w.heap.size < _; omega)).trans (q3 o)
    have q6 := fun o => (hb.frozen (p := ⟨w.heap.size, o, none⟩) (by show w.heap.size < _; omega)).trans (q4 o)
    have z3 : w.heap.size < w3.heap.size := by omega
    clear hb q3 q4 E B2
    go_wp2
    exact bodyPost_ret (v := .agg #[.bool g5, .slice a5 l5 c5]) (by simp [results, Try.results44, go_sem, q5]) rfl ⟨_, rfl, hI.put (by omega), below_put B3 _ _⟩

set_option maxHeartbeats 1000000 in
theorem l1Add_true (a b : Option Addr) (c d : Nat) (xs ys : List Int) (w : World) (h : Sees w a c xs) (k : Sees w b d ys) (nx : Nrm xs) (ny : Nrm ys) (hx : xs.length ≤ 1048576) (hy : ys.length ≤ 1048576) :
    Calls Try.prog 44 #[.bool true, .slice a xs.length c, .bool false, .slice b ys.length d] w fun e w' => ∃ v, e = .returned v ∧ IsNum w.heap.size w' v (sg true (val xs) + sg false (val ys)) ∧ Below w.heap.size w w' := by
  have HX : Hid (xs.length ≤ 1048576) := hx
  have HY : Hid (ys.length ≤ 1048576) := hy
  clear hx hy
  by_cases hc : val xs < val ys
  · have E1 : cmpZ (val xs) (val ys) = -1 := by unfold cmpZ; rw [if_pos hc]
    have hll : xs.length ≤ ys.length := by
      rcases Nat.lt_or_ge ys.length xs.length with h1 | h1
      · exfalso; have := cmp_len k.lim h.lim nx h1; omega
      · exact h1
    have HC : Hid (val xs < val ys) := hc
    clear hc
    go_enter Try.func44, Try.ntmps44
    go_wp2_with fail
    refine (l1CmpMagC a b c d xs ys _ (h.below (below1 _ _)) (k.below (below1 _ _)) nx ny).mono ?_
    rintro e w1 ⟨rfl, n, rfl⟩
    rw [E1]
    go_wp2_with fail
    have b1 := below_drewN (below1 w (.cells #[.bool false, .slice none 0 0] 36)) n
    refine (l1SubMagC b a d c ys xs _ (k.below b1) (h.below b1) (Nat.le_trans HY.out (by decide)) hll (by have := HC.out; omega)).mono ?_
    rintro e w2 ⟨a2, c2, zs, rfl, ho, hv, hl, hb⟩
    obtain ⟨q3, q4⟩ := at_block hb (b := w.heap.size) (by simp)
    have hs2 := hb.size
    simp only [World.size_alloc, World.heap_drewN] at hs2
    have B2 := b1.trans (hb.mono b1.size)
    have E : Hid (sg false (val zs) = sg true (val xs) + sg false (val ys)) := by show _ = _; rw [hv]; simp only [sg]; simp <;> omega
    have HZ : Hid (zs.length ≤ 2097152) := by have := HY.out; show _ ≤ _; omega
    clear hb hv hl b1
    go_wp2_with fail
    refine (l1NumC false a2 c2 zs _ ho.toSees HZ.out).mono ?_
    rintro e w3 ⟨v, rfl, hI, hb⟩
    replace hI := hI.eq E.out
    obtain ⟨g5, a5, l5, c5, rfl⟩ := hI.shape
    have hs3 := hb.size
    replace hI := hI.base_le (show w.heap.size + 1 ≤ _ from hs2)
    have B3 := B2.trans (hb.mono (Nat.le_trans (Nat.le_succ _) hs2))
    have q5 := fun o => (hb.cell (p := ⟨w.heap.size, o, none⟩) (by show w.heap.size < _; omega)).trans (q3 o)
    have q6 := fun o => (hb.frozen (p := ⟨w.heap.size, o, none⟩) (by show w.heap.size < _; omega)).trans (q4 o)
    have z3 : w.heap.size < w3.heap.size := by omega
    clear hb q3 q4 E B2
    go_wp2
    exact bodyPost_ret (v := .agg #[.bool g5, .slice a5 l5 c5]) (by simp [results, Try.results44, go_sem, q5]) rfl ⟨_, rfl, hI.put (by omega), below_put B3 _ _⟩
  · have E1 : 0 ≤ cmpZ (val xs) (val ys) := by unfold cmpZ; rw [if_neg hc]; split <;> decide
    have hll : ys.length ≤ xs.length := by
      rcases Nat.lt_or_ge xs.length ys.length with h1 | h1
      · exfalso; have := cmp_len h.lim k.lim ny h1; omega
      · exact h1
    have HC : Hid (¬ val xs < val ys) := hc
    clear hc
    go_enter Try.func44, Try.ntmps44
    go_wp2_with fail
    refine (l1CmpMagC a b c d xs ys _ (h.below (below1 _ _)) (k.below (below1 _ _)) nx ny).mono ?_
    rintro e w1 ⟨rfl, n, rfl⟩
    generalize cmpZ (val xs) (val ys) = z at E1 ⊢
    go_wp2_with fail
    have b1 := below_drewN (below1 w (.cells #[.bool false, .slice none 0 0] 36)) n
    refine (l1SubMagC a b c d xs ys _ (h.below b1) (k.below b1) (Nat.le_trans HX.out (by decide)) hll (by have := HC.out; omega)).mono ?_
    rintro e w2 ⟨a2, c2, zs, rfl, ho, hv, hl, hb⟩
    obtain ⟨q3, q4⟩ := at_block hb (b := w.heap.size) (by simp)
    have hs2 := hb.size
    simp only [World.size_alloc, World.heap_drewN] at hs2
    have B2 := b1.trans (hb.mono b1.size)
    have E : Hid (sg true (val zs) = sg true (val xs) + sg false (val ys)) := by show _ = _; rw [hv]; simp only [sg]; simp <;> omega
    have HZ : Hid (zs.length ≤ 2097152) := by have := HX.out; show _ ≤ _; omega
    clear hb hv hl b1
    go_wp2_with fail
    refine (l1NumC true a2 c2 zs _ ho.toSees HZ.out).mono ?_
    rintro e w3 ⟨v, rfl, hI, hb⟩
    replace hI := hI.eq E.out
    obtain ⟨g5, a5, l5, c5, rfl⟩ := hI.shape
    have hs3 := hb.size
    replace hI := hI.base_le (show w.heap.size + 1 ≤ _ from hs2)
    have B3 := B2.trans (hb.mono (Nat.le_trans (Nat.le_succ _) hs2))
    have q5 := fun o => (hb.cell (p := ⟨w.heap.size, o, none⟩) (by show w.heap.size < _; omega)).trans (q3 o)
    have q6 := fun o => (hb.frozen (p := ⟨w.heap.size, o, none⟩) (by show w.heap.size < _; omega)).trans (q4 o)
    have z3 : w.heap.size < w3.heap.size := by omega
    clear hb q3 q4 E B2
    go_wp2
    exact bodyPost_ret (v := .agg #[.bool g5, .slice a5 l5 c5]) (by simp [results, Try.results44, go_sem, q5]) rfl ⟨_, rfl, hI.put (by omega), below_put B3 _ _⟩

theorem l1AddC (an bn : Bool) (a b : Option Addr) (c d : Nat) (xs ys : List Int) (w : World) (h : Sees w a c xs) (k : Sees w b d ys) (nx : Nrm xs) (ny : Nrm ys) (hx : xs.length ≤ 1048576) (hy : ys.length ≤ 1048576) :
    Calls Try.prog 44 #[.bool an, .slice a xs.length c, .bool bn, .slice b ys.length d] w fun e w' => ∃ v, e = .returned v ∧ IsNum w.heap.size w' v (sg an (val xs) + sg bn (val ys)) ∧ Below w.heap.size w w' := by
  rcases an with _ | _ <;> rcases bn with _ | _
  · exact l1Add_same false a b c d xs ys w h k hx hy
  · exact l1Add_false a b c d xs ys w h k nx ny hx hy
  · exact l1Add_true a b c d xs ys w h k nx ny hx hy
  · exact l1Add_same true a b c d xs ys w h k hx hy
end Go.Proofs.Ytnefdfgonolafaa
