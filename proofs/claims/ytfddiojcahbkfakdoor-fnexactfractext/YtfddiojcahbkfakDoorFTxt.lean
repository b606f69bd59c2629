/- The text of a fraction: spec.FracText. -/
import Derived.Test.YtfddiojcahbkfakDoorLows
import Derived.Test.YtfddiojcahbkfakDoorNumTx
import Derived.Test.YtfddiojcahbkfakDoorNumV
namespace Go.Proofs.YtfddiojcahbkfakDoor
open Go.RowKit

/-- The text of a fraction whose parts are n and d. -/
def frT (n d : Int) : ByteArray := if d = 1 then numT n else numT n ++ ⟨#[47]⟩ ++ numT d

theorem quot_mg (a b : Int) : mg (a / b) ≤ mg a := by
  rw [mg_nat, mg_nat]
  have := Int.natAbs_ediv_le_natAbs a b
  omega
theorem low_bd (g h : Bool) {xs ys : List Int} (hx : Lim xs) (hy : Lim ys) :
    mg (fN g xs h ys / Int.gcd (fN g xs h ys) (fD g xs h ys)) < 4294967296 ^ 24 ∧ mg (fD g xs h ys / Int.gcd (fN g xs h ys) (fD g xs h ys)) < 4294967296 ^ 24 ∧ 0 < fD g xs h ys / Int.gcd (fN g xs h ys) (fD g xs h ys) := by
  have hd := fD_gt g xs h ys
  have gn : 0 < Int.gcd (fN g xs h ys) (fD g xs h ys) := Int.gcd_pos_of_ne_zero_right _ (by omega)
  have gp : (0 : Int) < Int.gcd (fN g xs h ys) (fD g xs h ys) := by omega
  have h5 := p_pos 24
  have b1 : mg (fN g xs h ys) < 4294967296 ^ 24 := by
    unfold fN
    split
    · have := tk_bounds g xs hx
      unfold mg
      split <;> omega
    · unfold mg; simp only [Int.lt_irrefl, if_false]; omega
  have b2 : mg (fD g xs h ys) < 4294967296 ^ 24 := by
    unfold fD
    split
    · have := tk_bounds h ys hy
      unfold mg
      split <;> omega
    · show (1 : Int) < _
      exact (by decide : (1 : Int) < 4294967296 ^ 24)
  have q1 := quot_mg (fN g xs h ys) (Int.gcd (fN g xs h ys) (fD g xs h ys))
  have q2 := quot_mg (fD g xs h ys) (Int.gcd (fN g xs h ys) (fD g xs h ys))
  refine ⟨by omega, by omega, ?_⟩
  exact Int.ediv_pos_of_pos_of_dvd hd (by omega) (Int.gcd_dvd_right _ _)

theorem numT_one : numT 1 = ⟨#[49]⟩ := by
  have := numT_dec (g := false) (V := 1) (by decide)
  have e : numT (sg false ((1 : Nat) : Int)) = numT 1 := rfl
  rw [← e, this, Lib.decDigits_one (by decide)]
  rfl
theorem numT_ne {d : Int} (h0 : 0 < d) (h1 : d ≠ 1) : numT d ≠ ⟨#[49]⟩ := by
  intro e
  obtain ⟨V, rfl⟩ : ∃ V : Nat, d = V := ⟨d.toNat, by omega⟩
  have t := numT_dec (g := false) (V := V) (by omega)
  have e2 : numT (sg false (V : Int)) = numT V := rfl
  rw [e2, e] at t
  have t2 : [49] = Lib.decDigits V := by simpa [sgB] using t
  by_cases h : V < 10
  · rw [Lib.decDigits_one h] at t2
    have t3 : (49 : UInt8) = UInt8.ofNat (48 + V) := by simpa using t2
    have t4 := congrArg UInt8.toNat t3
    simp only [UInt8.toNat_ofNat'] at t4
    have : (49 : UInt8).toNat = 49 := rfl
    omega
  · rw [Lib.decDigits, dif_neg h] at t2
    have t3 := congrArg List.length t2
    rw [List.length_append, Lib.decDigits_length] at t3
    have := Lib.nDigits_pos (V / 10)
    simp at t3
    omega

theorem numT_tl {d : Int} (h0 : 0 < d) (h1 : d ≠ 1) : ((numT d).toList == [49]) = false := by
  rw [beq_eq_false_iff_ne]
  intro e
  rw [ByteArray.toList_eq] at e
  exact numT_ne h0 h1 (ByteArray.ext (Array.toList_inj.1 e))
theorem numT_size {n : Int} (h : mg n < 4294967296 ^ 24) : (numT n).size ≤ 300 := by
  by_cases h0 : n = 0
  · subst h0
    simp [numT, numB, strB, ByteArray.size]
  · obtain ⟨g, V, hv, e⟩ : ∃ (g : Bool) (V : Nat), V = n.natAbs ∧ n = sg g V := by
      by_cases hn : n < 0
      · exact ⟨true, _, rfl, by simp [sg]; omega⟩
      · exact ⟨false, _, rfl, by simp [sg]; omega⟩
    have hV : V < 10 ^ 232 := by
      rw [mg_nat] at h
      have := p_digits
      have e2 : ((10 ^ 232 : Nat) : Int) = (10 : Int) ^ 232 := by decide
      have : (V : Int) < ((10 ^ 232 : Nat) : Int) := by rw [e2, hv]; omega
      exact Int.ofNat_lt.1 this
    rw [e, numT_dec (by omega), tail_size, List.length_append]
    have h1 := sgB_len g
    have h2 := dec_len (n := V) (by omega) hV
    omega

set_option maxRecDepth 20000 in
set_option maxHeartbeats 2000000 in
theorem specFracText (g h : Bool) (a b : Option Addr) (c d : Nat) (xs ys : List Int) (w : World) (hx : Sees w a c xs) (hy : Sees w b d ys) :
    Calls Tryd.prog 5 #[.agg #[.bool g, .slice a xs.length c, .bool h, .slice b ys.length d]] w fun e w' => e = .returned (.string (frT (fN g xs h ys / Int.gcd (fN g xs h ys) (fD g xs h ys)) (fD g xs h ys / Int.gcd (fN g xs h ys) (fD g xs h ys)))) ∧ Below w.heap.size w w' := by
  have BD := low_bd g h hx.lim hy.lim
  obtain ⟨n, hn⟩ : ∃ n, Hid (fN g xs h ys / Int.gcd (fN g xs h ys) (fD g xs h ys) = n) := ⟨_, rfl⟩
  obtain ⟨m, hm⟩ : ∃ m, Hid (fD g xs h ys / Int.gcd (fN g xs h ys) (fD g xs h ys) = m) := ⟨_, rfl⟩
  rw [hn.out, hm.out] at BD ⊢
  have BH : Hid (mg n < 4294967296 ^ 24 ∧ mg m < 4294967296 ^ 24 ∧ 0 < m) := BD
  clear BD
  obtain ⟨gz, HG⟩ : ∃ gz, Hid (decide (n < 0) = gz) := ⟨_, rfl⟩
  go_enter Tryd.func5, Tryd.ntmps5
  go_wp2_with fail
  refine (specLowest g h a b c d xs ys _ (hx.below (below1 _ _)) (hy.below (below1 _ _))).mono ?_
  rintro e w1 ⟨v, rfl, hI, hb⟩
  rw [hn.out, hm.out] at hI
  have B := (below1 w _).trans (hb.mono (by simp))
  obtain ⟨a1, c1, qs, a2, c2, rs, rfl, o1, o2, n1, n2, v1, v2, _⟩ := hI
  have l1 : qs.length ≤ 24 := len_le o1.lim n1 (by rw [v1]; exact BH.out.1)
  have l2 : rs.length ≤ 24 := len_le o2.lim n2 (by rw [v2]; exact BH.out.2.1)
  have t1 := (tk_val o1.lim n1 l1 v1).2
  have t2 := (tk_val o2.lim n2 l2 v2).2
  have e2 : decide (m < 0) = false := by have := BH.out.2.2; simp; omega
  rw [e2] at t2 ⊢
  rw [HG.out] at t1 ⊢
  have T1 : Hid (tk gz qs = n) := t1
  have T2 : Hid (tk false rs = m) := t2
  have s1 := o1.toSees
  have s2 := o2.toSees
  clear t1 t2 e2 n1 n2 v1 v2 l1 l2 o1 o2 hb hx hy
  go_wp2_with fail
  obtain ⟨k0, k1, k2, k3⟩ := fvar_new w1 gz false a1 a2 qs.length rs.length c1 c2 31
  have hb := below1 w1 (.cells #[.bool gz, .slice a1 qs.length c1, .bool false, .slice a2 rs.length c2] 31)
  replace s1 := s1.below hb
  replace s2 := s2.below hb
  replace B := B.trans (hb.mono B.size)
  clear hb
  generalize w1.alloc (.cells #[.bool gz, .slice a1 qs.length c1, .bool false, .slice a2 rs.length c2] 31) = W at *
  refine (specNumText gz a1 c1 qs _ s1).mono ?_
  rintro e w2 ⟨rfl, hb⟩
  rw [T1.out]
  replace k2 := bat hb k2
  replace k3 := bat hb k3
  replace s2 := s2.below hb
  replace B := B.trans (hb.mono B.size)
  clear hb k0 k1 s1
  go_wp2_with fail
  refine (specNumText false a2 c2 rs _ s2).mono ?_
  rintro e w3 ⟨rfl, hb⟩
  rw [T2.out]
  replace B := B.trans (hb.mono B.size)
  clear hb k2 k3 s2
  by_cases h1 : m = 1
  · subst h1
    rw [numT_one]
    have E : Hid (numT n = frT n 1) := by show _ = _; unfold frT; rw [if_pos rfl]
    generalize numT n = u at *
    go_wp2
    go_ret
    exact ⟨ret_str E.out, B⟩
  · have E : Hid (numT n ++ ⟨#[47]⟩ ++ numT m = frT n m) := by show _ = _; unfold frT; rw [if_neg h1]
    have hne := numT_tl BH.out.2.2 h1
    have z1 := numT_size BH.out.1
    have z2 := numT_size BH.out.2.1
    generalize numT n = u at *
    generalize numT m = t at *
    go_wp2
    go_ret
    exact ⟨ret_str E.out, B⟩
end Go.Proofs.YtfddiojcahbkfakDoor
