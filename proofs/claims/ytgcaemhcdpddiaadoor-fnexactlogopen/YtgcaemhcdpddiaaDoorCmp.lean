import Derived.Test.YtgcaemhcdpddiaaDoorBoxP
import Derived.Test.YtgcaemhcdpddiaaDoorTrim
import Derived.Laws.BitsAllLaws
import Derived.Deep.RegionHeld3
/- The program's comparing of limbs: impl.cmpMag. -/
namespace Go.Proofs.YtgcaemhcdpddiaaDoor
open Go.RowKit

end Go.Proofs.YtgcaemhcdpddiaaDoor

/- The program's sums of any number of parts: impl.sum. -/
namespace Go.Proofs.YtgcaemhcdpddiaaDoor
open Go.RowKit

/-- The first k parts' sum. -/
def psum (pg : Nat → Bool) (px : Nat → List Int) : Nat → Int
  | 0 => 0
  | k + 1 => psum pg px k + sg (pg k) (val (px k))

/-- The parts as they lie: k numbers, each of at most L limbs. -/
structure Parts (w : World) (pb k L : Nat) (pg : Nat → Bool) (pa : Nat → Option Addr) (pc : Nat → Nat) (px : Nat → List Int) : Prop where
  at0 : ∀ j, j < k → w.cell? ⟨pb, j * 2, none⟩ = some (.bool (pg j))
  at1 : ∀ j, j < k → w.cell? ⟨pb, j * 2 + 1, none⟩ = some (.slice (pa j) (px j).length (pc j))
  sees : ∀ j, j < k → Sees w (pa j) (pc j) (px j)
  nrm : ∀ j, j < k → Nrm (px j)
  len : ∀ j, j < k → (px j).length ≤ L

theorem Parts.below {w w' : World} {pb k L : Nat} {pg : Nat → Bool} {pa : Nat → Option Addr} {pc : Nat → Nat} {px : Nat → List Int} (h : Parts w pb k L pg pa pc px) (hb : Below w.heap.size w w') : Parts w' pb k L pg pa pc px :=
  ⟨fun j hj => bat hb (h.at0 j hj), fun j hj => bat hb (h.at1 j hj), fun j hj => (h.sees j hj).below hb, h.nrm, h.len⟩

end Go.Proofs.YtgcaemhcdpddiaaDoor

/- Parts of sums as they lie; a result that is put into its variable. No function of the program is walked here. -/
namespace Go.Proofs.YtgcaemhcdpddiaaDoor
open Go.RowKit

theorem Parts.one {w : World} {pb c L : Nat} {g : Bool} {a : Option Addr} {xs : List Int} (h0 : w.cell? ⟨pb, 0, none⟩ = some (.bool g)) (h1 : w.cell? ⟨pb, 1, none⟩ = some (.slice a xs.length c)) (hs : Sees w a c xs) (hn : Nrm xs) (hl : xs.length ≤ L) :
    Parts w pb 1 L (fun _ => g) (fun _ => a) (fun _ => c) (fun _ => xs) := by
  refine ⟨fun j hj => ?_, fun j hj => ?_, fun _ _ => hs, fun _ _ => hn, fun _ _ => hl⟩
  · obtain rfl : j = 0 := by omega
    exact h0
  · obtain rfl : j = 0 := by omega
    exact h1
theorem Parts.two {w : World} {pb c c' L : Nat} {g g' : Bool} {a a' : Option Addr} {xs ys : List Int} (h0 : w.cell? ⟨pb, 0, none⟩ = some (.bool g)) (h1 : w.cell? ⟨pb, 1, none⟩ = some (.slice a xs.length c))
    (h2 : w.cell? ⟨pb, 2, none⟩ = some (.bool g')) (h3 : w.cell? ⟨pb, 3, none⟩ = some (.slice a' ys.length c')) (hs : Sees w a c xs) (ks : Sees w a' c' ys) (hn : Nrm xs) (kn : Nrm ys) (hl : xs.length ≤ L) (kl : ys.length ≤ L) :
    Parts w pb 2 L (fun j => if j = 0 then g else g') (fun j => if j = 0 then a else a') (fun j => if j = 0 then c else c') (fun j => if j = 0 then xs else ys) := by
  refine ⟨fun j hj => ?_, fun j hj => ?_, fun j hj => ?_, fun j hj => ?_, fun j hj => ?_⟩
  all_goals
    have : j = 0 ∨ j = 1 := by omega
    rcases this with rfl | rfl
  · exact h0
  · exact h2
  · exact h1
  · exact h3
  · exact hs
  · exact ks
  · exact hn
  · exact kn
  · exact hl
  · exact kl

theorem psum_one (g : Bool) (xs : List Int) : psum (fun _ => g) (fun _ => xs) 1 = sg g (val xs) := by simp [psum]
theorem psum_two (g g' : Bool) (xs ys : List Int) : psum (fun j => if j = 0 then g else g') (fun j => if j = 0 then xs else ys) 2 = sg g (val xs) + sg g' (val ys) := by simp [psum]

theorem neg_flag {g : Bool} {xs : List Int} (h : xs = [] → g = false) : sg (!g && decide (0 < xs.length)) (val xs) = - sg g (val xs) := by
  by_cases e : xs = []
  · subst e; rw [h rfl]; simp [sg, val]
  · have : 0 < xs.length := List.length_pos_iff.2 e
    rw [decide_eq_true this, Bool.and_true]
    cases g <;> simp [sg]
end Go.Proofs.YtgcaemhcdpddiaaDoor

/- A number as an int: impl.Small, spec.Small. -/
namespace Go.Proofs.YtgcaemhcdpddiaaDoor
open Go.RowKit

/-- Whether an int holds it; the int. -/
def smB (z : Int) : Bool := decide (-9223372036854775808 ≤ z ∧ z ≤ 9223372036854775807)
def smZ (z : Int) : Int := if smB z = true then z else 0

theorem or0 {x : Int} (h0 : 0 ≤ x) (h1 : x < 4294967296) : bits BinOp.or IntKind.u64 0 x = x := by
  rw [u64_or 0 x (by decide) (by decide) h0 (by omega)]
  simp
  omega
theorem or1 {x y : Int} (h0 : 0 ≤ x) (h1 : x < 4294967296) (k0 : 0 ≤ y) (k1 : y < 4294967296) : bits BinOp.or IntKind.u64 x (y * 4294967296) = x + y * 4294967296 := by
  rw [u64_or x (y * 4294967296) h0 (by omega) (by omega) (by omega), Nat.or_comm, nat_join 32 _ _ (by omega) (by omega)]
  omega

theorem sm_in {z : Int} (h1 : -9223372036854775808 ≤ z) (h2 : z ≤ 9223372036854775807) : smZ z = z ∧ smB z = true := by
  have : smB z = true := decide_eq_true ⟨h1, h2⟩
  exact ⟨by unfold smZ; rw [if_pos this], this⟩
theorem sm_out {z : Int} (h : ¬ (-9223372036854775808 ≤ z ∧ z ≤ 9223372036854775807)) : smZ z = 0 ∧ smB z = false := by
  have : smB z = false := decide_eq_false h
  exact ⟨by unfold smZ; rw [this]; simp, this⟩

theorem wrap_back {s : Int} (h0 : 0 < s) (h1 : s ≤ 9223372036854775808) : wrap64 (IntKind.u64.wrap (-s)) = -s := by
  have e : IntKind.u64.wrap (-s) = 18446744073709551616 - s := by
    simp only [IntKind.wrap, IntKind.bits, IntKind.signed]
    simp
    omega
  rw [e]
  unfold wrap64
  omega

end Go.Proofs.YtgcaemhcdpddiaaDoor

/- What is negated: impl.negated. -/
namespace Go.Proofs.YtgcaemhcdpddiaaDoor
open Go.RowKit

end Go.Proofs.YtgcaemhcdpddiaaDoor

/- The program's comparing of numbers: impl.compared, impl.Cmp, impl.Sign; the specification's Sign. -/
namespace Go.Proofs.YtgcaemhcdpddiaaDoor
open Go.RowKit

theorem cmpZ_neg (x y : Int) : cmpZ (-x) (-y) = cmpZ y x := by
  unfold cmpZ
  by_cases h1 : y < x
  · rw [if_pos (by omega), if_pos h1]
  · rw [if_neg (by omega), if_neg h1]
    by_cases h2 : y = x
    · rw [if_pos (by omega), if_pos h2]
    · rw [if_neg (by omega), if_neg h2]

theorem tk_zero {g : Bool} {xs : List Int} (h : tkL g xs = []) : tk g xs = 0 := by
  unfold tk; rw [h]; unfold sg; split <;> simp [val]
theorem tk_sign {g : Bool} {xs : List Int} (hl : Lim xs) (h : ¬ tkL g xs = []) : tkG g xs = g ∧ 0 < val (tkL g xs) := by
  obtain ⟨tl, tn, _, _⟩ := tk_facts g xs hl
  refine ⟨?_, val_pos tl tn h⟩
  unfold tkL at h
  unfold tkG
  by_cases hk : okB g xs = true
  · rw [hk]; simp
  · rw [if_neg hk] at h; exact absurd rfl h

end Go.Proofs.YtgcaemhcdpddiaaDoor

/- A right number at a value, with what it is. -/
namespace Go.Proofs.YtgcaemhcdpddiaaDoor
open Go.RowKit

theorem tk_val {us : List Int} {n : Int} (hl : Lim us) (hn : Nrm us) (l : us.length ≤ 24) (hv : val us = mg n) : okB (decide (n < 0)) us = true ∧ tk (decide (n < 0)) us = n := by
  have ok : okB (decide (n < 0)) us = true := by
    unfold okB
    by_cases h0 : us.length = 0
    · rw [if_pos h0]
      obtain rfl : us = [] := List.eq_nil_of_length_eq_zero h0
      have : ¬ n < 0 := by
        intro h
        unfold mg at hv
        rw [if_pos h] at hv
        simp [val] at hv
        omega
      simp [this]
    · rw [if_neg h0]
      simp only [Bool.and_eq_true, decide_eq_true_eq, bne_iff_ne]
      refine ⟨l, ?_⟩
      have hlt : us.length - 1 < us.length := by omega
      rw [List.getElem?_eq_getElem hlt]
      exact last_of_Nrm hn _ (by rw [List.getLast?_eq_getElem?, List.getElem?_eq_getElem hlt]; rfl)
  refine ⟨ok, ?_⟩
  unfold tk tkG tkL
  rw [if_pos ok, ok, hv]
  unfold mg sg
  by_cases h : n < 0 <;> simp [h] <;> omega

/-- A number of at most 24 limbs. -/
structure NumV (w : World) (v : Value) (z : Int) : Prop where
  is' : ∃ a c us, v = .agg #[.bool (decide (z < 0)), .slice a us.length c] ∧ Sees w a c us ∧ Nrm us ∧ us.length ≤ 24 ∧ val us = mg z
theorem NumV.below {w w' : World} {v : Value} {z : Int} (h : NumV w v z) (hb : Below w.heap.size w w') : NumV w' v z := by
  obtain ⟨a, c, us, e, s, r⟩ := h.is'
  exact ⟨a, c, us, e, s.below hb, r⟩
theorem IsNum.numV {base : Nat} {w : World} {v : Value} {z : Int} (h : IsNum base w v z) (h1 : -(4294967296 ^ 24) < z) (h2 : z < 4294967296 ^ 24) : NumV w v z := by
  obtain ⟨a, c, us, e, o, n, hv⟩ := h
  refine ⟨a, c, us, e, o.toSees, n, len_le o.lim n ?_, hv⟩
  rw [hv]
  unfold mg
  split <;> omega
theorem ok_facts {g : Bool} {xs : List Int} (hl : Lim xs) (h : okB g xs = true) : g = decide (tk g xs < 0) ∧ Nrm xs ∧ xs.length ≤ 24 ∧ val xs = mg (tk g xs) := by
  have el : tkL g xs = xs := by unfold tkL; rw [if_pos h]
  have eg : tkG g xs = g := by unfold tkG; rw [h]; simp
  obtain ⟨_, n, l, z⟩ := tk_facts g xs hl
  rw [el] at n l z
  rw [eg] at z
  have hv : tk g xs = sg g (val xs) := by unfold tk; rw [eg, el]
  refine ⟨?_, n, l, by rw [hv, mg_sg (val_nonneg hl)]⟩
  rw [hv]
  by_cases e : xs = []
  · rw [z e, e]; rfl
  · have := val_pos hl n e
    unfold sg
    cases g
    · simp; omega
    · simp; omega
theorem tk_ne {g : Bool} {xs : List Int} (hl : Lim xs) : decide (tk g xs ≠ 0) = (okB g xs && decide (0 < xs.length)) := by
  cases h : okB g xs
  · have el : tkL g xs = [] := by unfold tkL; rw [if_neg (by rw [h]; decide)]
    have : tk g xs = 0 := by unfold tk; rw [el]; cases tkG g xs <;> rfl
    rw [this]; rfl
  · obtain ⟨_, n, _, hv⟩ := ok_facts hl h
    by_cases e : xs = []
    · rw [e] at hv ⊢
      have : tk g [] = 0 := by
        have h0 : mg (tk g []) = 0 := hv.symm
        unfold mg at h0
        split at h0 <;> omega
      rw [this]; rfl
    · have hp := val_pos hl n e
      have hlen := List.length_pos_iff.2 e
      have : tk g xs ≠ 0 := by
        intro z
        rw [z] at hv
        simp [mg] at hv
        omega
      simp [this, hlen]
theorem abs_lt {g : Bool} {xs : List Int} (hl : Lim xs) (h : okB g xs = true) : mg (tk g xs) < 4294967296 ^ xs.length := by
  rw [← (ok_facts hl h).2.2.2]; exact val_lt hl
theorem mg_nat (x : Int) : mg x = (x.natAbs : Int) := by unfold mg; split <;> omega
end Go.Proofs.YtgcaemhcdpddiaaDoor
