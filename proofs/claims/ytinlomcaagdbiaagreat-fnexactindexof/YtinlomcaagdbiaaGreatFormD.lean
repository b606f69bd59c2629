/- The form of a shape's kind: what both ask. -/
import Derived.Test.YtinlomcaagdbiaaGreatCrsI
namespace Go.Proofs.YtinlomcaagdbiaaGreat

def sameAt (k : Int) (ps : List (Int × Int)) : Nat → Bool
 | 0 => decide (k = 5) && (decide ((ptA ps 0).1 = (ptA ps (ps.length - 1)).1) && decide ((ptA ps 0).2 = (ptA ps (ps.length - 1)).2))
 | m + 1 => decide ((ptA ps (m + 1)).1 = (ptA ps m).1) && decide ((ptA ps (m + 1)).2 = (ptA ps m).2)
def ptBad (k : Int) (ps : List (Int × Int)) (i : Nat) : Bool := !ptOk (ptA ps i).1 (ptA ps i).2 || (sameAt k ps i && decide (3 ≤ k))
def rowBad (k : Int) (ps : List (Int × Int)) : Nat → Bool
 | 0 => false
 | i + 1 => rowBad k ps i || ptBad k ps i
def rowF (k : Int) (ps : List (Int × Int)) : Bool := !inB ps.length (leastN k) (mostN k) || rowBad k ps ps.length
def rowsBad (k : Int) (rs : List (List (Int × Int))) : Nat → Bool
 | 0 => false
 | j + 1 => rowsBad k rs j || rowF k (rowA rs j)
def formB (k : Int) (rs : List (List (Int × Int))) : Bool :=
 !(decide (mostN k < 0) || (!inB rs.length 1 12 || ((!sevN k && decide (1 < rs.length)) || rowsBad k rs rs.length)))
theorem rowBad_mono {k : Int} {ps : List (Int × Int)} : ∀ {i m : Nat}, i ≤ m → rowBad k ps i = true → rowBad k ps m = true
 | i, 0, h, e => by
   obtain rfl : i = 0 := by omega
   exact e
 | i, m + 1, h, e => by
  rcases Nat.lt_or_ge m i with c | c
  ·obtain rfl : i = m + 1 := by omega
   exact e
  ·simp only [rowBad]
   rw [rowBad_mono c e]
   rfl
theorem rowsBad_mono {k : Int} {rs : List (List (Int × Int))} : ∀ {i m : Nat}, i ≤ m → rowsBad k rs i = true → rowsBad k rs m = true
 | i, 0, h, e => by
   obtain rfl : i = 0 := by omega
   exact e
 | i, m + 1, h, e => by
  rcases Nat.lt_or_ge m i with c | c
  ·obtain rfl : i = m + 1 := by omega
   exact e
  ·simp only [rowsBad]
   rw [rowsBad_mono c e]
   rfl
theorem rowF_found {k : Int} {ps : List (Int × Int)} {i : Nat} (hi : i < ps.length) (h : ptBad k ps i = true) : rowF k ps = true := by
 have := rowBad_mono (show i + 1 ≤ ps.length by omega) (show rowBad k ps (i + 1) = true by simp only [rowBad]; rw [h]; simp)
 unfold rowF
 rw [this]
 simp
theorem rows_found {k : Int} {rs : List (List (Int × Int))} {j : Nat} (hj : j < rs.length) (h : rowF k (rowA rs j) = true) : rowsBad k rs rs.length = true :=
 rowsBad_mono (show j + 1 ≤ rs.length by omega) (by simp only [rowsBad]; rw [h]; simp)
theorem rowBad_step {k : Int} {ps : List (Int × Int)} {i : Nat} (h : rowBad k ps i = false) (hb : ptBad k ps i = false) : rowBad k ps (i + 1) = false := by simp only [rowBad]; rw [h, hb]; rfl
theorem rowsBad_step {k : Int} {rs : List (List (Int × Int))} {i : Nat} (h : rowsBad k rs i = false) (hb : rowF k (rowA rs i) = false) : rowsBad k rs (i + 1) = false := by simp only [rowsBad]; rw [h, hb]; rfl
end Go.Proofs.YtinlomcaagdbiaaGreat
