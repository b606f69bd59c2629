/- The text of a fraction: spec.FracText. -/
import Derived.Test.YtccdihglpobnmaaDoorLows
import Derived.Test.YtccdihglpobnmaaDoorNumTx
import Derived.Test.YtccdihglpobnmaaDoorEq
namespace Go.Proofs.YtccdihglpobnmaaDoor
open Go.RowKit

/-- The text of a fraction whose parts are n and d. -/
def frT (n d : Int) : ByteArray := if d = 1 then numT n else numT n ++ ⟨#[47]⟩ ++ numT d

theorem quot_mg (a b : Int) : mg (a / b) ≤ mg a := by
  rw [mg_nat, mg_nat]
  have := Int.natAbs_ediv_le_natAbs a b
  omega
theorem low_bd (g h : Bool) {xs ys : List Int} (hx : Lim xs) (hy : Lim ys) :
    mg (fN g xs h ys / Int.gcd (fN g xs h ys) (fD g xs h ys)) < 4294967296 ^ 24 ∧ mg (fD g xs h ys / Int.gcd (fN g xs h ys) (fD g xs h ys)) < 4294967296 ^ 24 ∧ 0 < fD g xs h ys / Int.gcd (fN g xs h ys) (fD g xs h ys) := by
  have hd := fD_gt g xs h ys
  have gn : 0 < Int.gcd (fN g xs h ys) (fD g xs h ys) := Int.gcd_pos_of_ne_zero_right _ (by omega)
  have gp : (0 : Int) < Int.gcd (fN g xs h ys) (fD g xs h ys) := by omega
  have h5 := p_pos 24
  have b1 : mg (fN g xs h ys) < 4294967296 ^ 24 := by
    unfold fN
    split
    · have := tk_bounds g xs hx
      unfold mg
      split <;> omega
    · unfold mg; simp only [Int.lt_irrefl, if_false]; omega
  have b2 : mg (fD g xs h ys) < 4294967296 ^ 24 := by
    unfold fD
    split
    · have := tk_bounds h ys hy
      unfold mg
      split <;> omega
    · show (1 : Int) < _
      exact (by decide : (1 : Int) < 4294967296 ^ 24)
  have q1 := quot_mg (fN g xs h ys) (Int.gcd (fN g xs h ys) (fD g xs h ys))
  have q2 := quot_mg (fD g xs h ys) (Int.gcd (fN g xs h ys) (fD g xs h ys))
  refine ⟨by omega, by omega, ?_⟩
  exact Int.ediv_pos_of_pos_of_dvd hd (by omega) (Int.gcd_dvd_right _ _)

theorem numT_one : numT 1 = ⟨#[49]⟩ := by
  have := numT_dec (g := false) (V := 1) (by decide)
  have e : numT (sg false ((1 : Nat) : Int)) = numT 1 := rfl
  rw [← e, this, Lib.decDigits_one (by decide)]
  rfl
theorem numT_ne {d : Int} (h0 : 0 < d) (h1 : d ≠ 1) : numT d ≠ ⟨#[49]⟩ := by
  intro e
  obtain ⟨V, rfl⟩ : ∃ V : Nat, d = V := ⟨d.toNat, by omega⟩
  have t := numT_dec (g := false) (V := V) (by omega)
  have e2 : numT (sg false (V : Int)) = numT V := rfl
  rw [e2, e] at t
  have t2 : [49] = Lib.decDigits V := by simpa [sgB] using t
  by_cases h : V < 10
  · rw [Lib.decDigits_one h] at t2
    have t3 : (49 : UInt8) = UInt8.ofNat (48 + V) := by simpa using t2
    have t4 := congrArg UInt8.toNat t3
    simp only [UInt8.toNat_ofNat'] at t4
    have : (49 : UInt8).toNat = 49 := rfl
    omega
  · rw [Lib.decDigits, dif_neg h] at t2
    have t3 := congrArg List.length t2
    rw [List.length_append, Lib.decDigits_length] at t3
    have := Lib.nDigits_pos (V / 10)
    simp at t3
    omega

theorem numT_tl {d : Int} (h0 : 0 < d) (h1 : d ≠ 1) : ((numT d).toList == [49]) = false := by
  rw [beq_eq_false_iff_ne]
  intro e
  rw [ByteArray.toList_eq] at e
  exact numT_ne h0 h1 (ByteArray.ext (Array.toList_inj.1 e))
theorem numT_size {n : Int} (h : mg n < 4294967296 ^ 24) : (numT n).size ≤ 300 := by
  by_cases h0 : n = 0
  · subst h0
    simp [numT, numB, strB, ByteArray.size]
  · obtain ⟨g, V, hv, e⟩ : ∃ (g : Bool) (V : Nat), V = n.natAbs ∧ n = sg g V := by
      by_cases hn : n < 0
      · exact ⟨true, _, rfl, by simp [sg]; omega⟩
      · exact ⟨false, _, rfl, by simp [sg]; omega⟩
    have hV : V < 10 ^ 232 := by
      rw [mg_nat] at h
      have := p_digits
      have e2 : ((10 ^ 232 : Nat) : Int) = (10 : Int) ^ 232 := by decide
      have : (V : Int) < ((10 ^ 232 : Nat) : Int) := by rw [e2, hv]; omega
      exact Int.ofNat_lt.1 this
    rw [e, numT_dec (by omega), tail_size, List.length_append]
    have h1 := sgB_len g
    have h2 := dec_len (n := V) (by omega) hV
    omega

end Go.Proofs.YtccdihglpobnmaaDoor
