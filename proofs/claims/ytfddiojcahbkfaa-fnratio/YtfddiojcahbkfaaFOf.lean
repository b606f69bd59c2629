/- FracOf: the program's. -/
import Derived.Test.YtfddiojcahbkfaaLowN
import Derived.Test.YtfddiojcahbkfaaLows
namespace Go.Proofs.Ytfddiojcahbkfaa
open Go.RowKit

/-- The parts of a fraction of two whole numbers. -/
def zN (n d : Int) : Int := if d = 0 then 0 else (if d < 0 then -n else n) / (Int.gcd n d : Int)
def zD (n d : Int) : Int := if d = 0 then 1 else mg d / (Int.gcd n d : Int)

theorem neg_quot (n d : Int) : n / -(Int.gcd n d : Int) = -n / (Int.gcd n d : Int) := by
  rw [Int.ediv_neg, Int.neg_ediv_of_dvd (Int.gcd_dvd_left _ _)]
theorem neg_quot2 (n d : Int) : -(mg d) / -(Int.gcd n d : Int) = mg d / (Int.gcd n d : Int) := by
  have hd : (Int.gcd n d : Int) ∣ mg d := by
    unfold mg
    split
    · exact Int.dvd_neg.2 (Int.gcd_dvd_right _ _)
    · exact Int.gcd_dvd_right _ _
  rw [Int.ediv_neg, Int.neg_ediv_of_dvd hd, Int.neg_neg]
theorem IsFrac.one {base : Nat} {w : World} {b : Option Addr} {c : Nat} {ds : List Int} (o : Own base w b c ds) (n : Nrm ds) (v : val ds = 1) : IsFrac base w (.agg #[.bool false, .slice none 0 0, .bool false, .slice b ds.length c]) 0 1 :=
  ⟨none, 0, [], b, c, ds, rfl, Own.nil _ _, o, trivial, n, rfl, v, fun _ _ _ hh => absurd rfl hh⟩
theorem int_len {z : Int} {us : List Int} (hl : Lim us) (hn : Nrm us) (hv : val us = mg z) (h1 : -9223372036854775808 ≤ z) (h2 : z ≤ 9223372036854775807) : us.length ≤ 2 := by
  refine len_le hl hn ?_
  rw [hv]
  unfold mg
  have : (4294967296 : Int) ^ 2 = 18446744073709551616 := by decide
  rw [this]
  split <;> omega

set_option maxRecDepth 20000 in
set_option maxHeartbeats 4000000 in
theorem implFracOf (n d : Int) (w : World) (h1 : -9223372036854775808 ≤ n) (h2 : n ≤ 9223372036854775807) (h3 : -9223372036854775808 ≤ d) (h4 : d ≤ 9223372036854775807) :
    Calls Try.prog 21 #[.int .i64 n, .int .i64 d] w fun e w' => ∃ v, e = .returned (.tuple #[v, .bool (decide (d ≠ 0))]) ∧ IsFrac w.heap.size w' v (zN n d) (zD n d) ∧ Below w.heap.size w w' := by
  have B0 := below1 w (.cells #[.bool false, .slice none 0 0, .bool false, .slice none 0 0] 40)
  by_cases hd : d = 0
  · subst hd
    have E : Hid (zN n 0 = 0 ∧ zD n 0 = 1) := ⟨rfl, rfl⟩
    rw [E.out.1, E.out.2]
    go_enter Try.func21, Try.ntmps21
    go_wp2_with fail
    refine (noughtC _).mono ?_
    rintro e w1 ⟨b1, c1, ds, rfl, ho, hn, hv, hb⟩
    obtain ⟨k1, r1⟩ := at_block hb (b := w.heap.size) (by simp)
    have hz : w.heap.size < w1.heap.size := by have := hb.size; simp at this; omega
    have B1 := B0.trans (hb.mono (by simp))
    have hJ := (IsFrac.one ho hn hv).base_le (show w.heap.size + 1 ≤ _ by simp)
    have JP := hJ.put (b := w.heap.size) (b0 := w.heap.size) (by omega) (by omega) (.bool false) (.slice none 0 0) (.bool false) (.slice b1 ds.length c1)
    have BP := below_put4 (b := w.heap.size) B1 (by omega) (.bool false) (.slice none 0 0) (.bool false) (.slice b1 ds.length c1)
    clear hb ho hn hv hJ B0 B1
    go_wp2
    exact bodyPost_ret (v := .tuple #[.agg #[.bool false, .slice none 0 0, .bool false, .slice b1 ds.length c1], .bool false]) (by simp [results, Try.results21, go_sem, k1]) rfl ⟨_, rfl, JP, BP⟩
  · have hd' : (d == 0) = false := by simpa using hd
    have ED : decide (d ≠ 0) = true := by simpa using hd
    rw [ED]
    have EN : Hid (zN n d = (if d < 0 then -n else n) / (Int.gcd n d : Int) ∧ zD n d = mg d / (Int.gcd n d : Int)) := ⟨by unfold zN; rw [if_neg hd], by unfold zD; rw [if_neg hd]⟩
    go_enter Try.func21, Try.ntmps21
    go_wp2_with fail
    refine (implOf n _ h1 h2).mono ?_
    rintro e w1 ⟨v, rfl, hI, hb1⟩
    obtain ⟨a1, c1, us, rfl, o1, n1, v1⟩ := hI
    obtain ⟨k1, r1⟩ := at_block hb1 (b := w.heap.size) (by simp)
    have hz : w.heap.size < w1.heap.size := by have := hb1.size; simp at this; omega
    have B1 := B0.trans (hb1.mono (by simp))
    have L1 := int_len o1.lim n1 v1 h1 h2
    obtain ⟨f1, hf1⟩ : ∃ f, Hid (decide (n < 0) = f) := ⟨_, rfl⟩
    rw [hf1.out]
    clear hb1 B0
    go_wp2_with fail
    refine (implOf d _ h3 h4).mono ?_
    rintro e w2 ⟨v, rfl, hI, hb2⟩
    obtain ⟨a2, c2, vs, rfl, o2, n2, v2⟩ := hI
    have k2 := fun o => (hb2.cell (p := ⟨w.heap.size, o, none⟩) hz).trans (k1 o)
    have r2 := fun o => (hb2.frozen (p := ⟨w.heap.size, o, none⟩) hz).trans (r1 o)
    have B2 := B1.trans (hb2.mono B1.size)
    have hz2 : w.heap.size < w2.heap.size := Nat.lt_of_lt_of_le hz hb2.size
    have L2 := int_len o2.lim n2 v2 h3 h4
    have o1' := o1.below hb2
    have hvne : vs ≠ [] := by
      rintro rfl
      unfold mg at v2
      simp only [val] at v2
      split at v2 <;> omega
    have HS : Hid (sg f1 (val us) = n ∧ Int.gcd (val us) (val vs) = Int.gcd n d ∧ val vs = mg d) := ⟨by rw [v1, ← hf1.out]; unfold sg mg; by_cases h : n < 0 <;> simp [h], by rw [v1, v2, gcd_mg], v2⟩
    clear hb2 k1 r1 B1 v1 v2 o1 hz
    by_cases hneg : d < 0
    · rw [decide_eq_true hneg]
      have EQ : Hid (sg f1 (val us) / -(Int.gcd (val us) (val vs) : Int) = zN n d ∧ -val vs / -(Int.gcd (val us) (val vs) : Int) = zD n d) := by
        refine ⟨?_, ?_⟩
        · rw [EN.out.1, if_pos hneg, HS.out.1, HS.out.2.1]; exact neg_quot n d
        · rw [EN.out.2, HS.out.2.1, HS.out.2.2]; exact neg_quot2 n d
      go_wp2_with fail
      refine (lowestN f1 a1 a2 c1 c2 us vs _ o1'.toSees o2.toSees n1 n2 hvne (by omega) (by omega)).mono ?_
      rintro e w3 ⟨v, rfl, hI, hb3⟩
      have hJ := (hI.eq EQ.out.1 EQ.out.2).base_le (show w.heap.size + 1 ≤ w2.heap.size from hz2)
      obtain ⟨a5, c5, qs, a6, c6, rs, rfl, _⟩ := hI
      have k3 := fun o => (hb3.cell (p := ⟨w.heap.size, o, none⟩) hz2).trans (k2 o)
      have r3 := fun o => (hb3.frozen (p := ⟨w.heap.size, o, none⟩) hz2).trans (r2 o)
      have B3 := B2.trans (hb3.mono B2.size)
      generalize decide (sg f1 (val us) / -(Int.gcd (val us) (val vs) : Int) < 0) = f5 at *
      generalize decide (-val vs / -(Int.gcd (val us) (val vs) : Int) < 0) = f6 at *
      have JP := hJ.put (b := w.heap.size) (b0 := w.heap.size) (by omega) (by omega) (.bool f5) (.slice a5 qs.length c5) (.bool f6) (.slice a6 rs.length c6)
      have BP := below_put4 (b := w.heap.size) B3 (by omega) (.bool f5) (.slice a5 qs.length c5) (.bool f6) (.slice a6 rs.length c6)
      clear hb3 k2 r2 o1' o2 hJ B2 B3 HS EQ EN
      go_wp2
      exact bodyPost_ret (v := .tuple #[.agg #[.bool f5, .slice a5 qs.length c5, .bool f6, .slice a6 rs.length c6], .bool true]) (by simp [results, Try.results21, go_sem, k3]) rfl ⟨_, rfl, JP, BP⟩
    · rw [decide_eq_false hneg]
      have EQ : Hid (sg f1 (val us) / (Int.gcd (val us) (val vs) : Int) = zN n d ∧ val vs / (Int.gcd (val us) (val vs) : Int) = zD n d) := by
        refine ⟨?_, ?_⟩
        · rw [EN.out.1, if_neg hneg, HS.out.1, HS.out.2.1]
        · rw [EN.out.2, HS.out.2.1, HS.out.2.2]
      go_wp2_with fail
      refine (lowestC f1 a1 a2 c1 c2 us vs _ o1'.toSees o2.toSees n1 n2 hvne (by omega) (by omega)).mono ?_
      rintro e w3 ⟨v, rfl, hI, hb3⟩
      have hJ := (hI.eq EQ.out.1 EQ.out.2).base_le (show w.heap.size + 1 ≤ w2.heap.size from hz2)
      obtain ⟨a5, c5, qs, a6, c6, rs, rfl, _⟩ := hI
      have k3 := fun o => (hb3.cell (p := ⟨w.heap.size, o, none⟩) hz2).trans (k2 o)
      have r3 := fun o => (hb3.frozen (p := ⟨w.heap.size, o, none⟩) hz2).trans (r2 o)
      have B3 := B2.trans (hb3.mono B2.size)
      generalize decide (sg f1 (val us) / (Int.gcd (val us) (val vs) : Int) < 0) = f5 at *
      generalize decide (val vs / (Int.gcd (val us) (val vs) : Int) < 0) = f6 at *
      have JP := hJ.put (b := w.heap.size) (b0 := w.heap.size) (by omega) (by omega) (.bool f5) (.slice a5 qs.length c5) (.bool f6) (.slice a6 rs.length c6)
      have BP := below_put4 (b := w.heap.size) B3 (by omega) (.bool f5) (.slice a5 qs.length c5) (.bool f6) (.slice a6 rs.length c6)
      clear hb3 k2 r2 o1' o2 hJ B2 B3 HS EQ EN
      go_wp2
      exact bodyPost_ret (v := .tuple #[.agg #[.bool f5, .slice a5 qs.length c5, .bool f6, .slice a6 rs.length c6], .bool true]) (by simp [results, Try.results21, go_sem, k3]) rfl ⟨_, rfl, JP, BP⟩
end Go.Proofs.Ytfddiojcahbkfaa
