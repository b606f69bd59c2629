/- Shapes in memory; the laws' helpers on them: their sizes, their copies, whether two are equal. -/
import Derived.Test.YtdgepkbdopndfaaPtsL
namespace Go.Proofs.Ytdgepkbdopndfaa
open Go.RowKit

/-- A row of a shape. -/
def rowA (rs : List (List (Int × Int))) (i : Nat) : List (Int × Int) := rs[i]?.getD []
/-- Rows of points that lie in memory. -/
structure SeesS (w : World) (a : Option Addr) (cap : Nat) (rs : List (List (Int × Int))) : Prop where
  fits : rs.length ≤ cap
  max : cap ≤ maxLen
  cells : rs ≠ [] → ∃ b off, a = some ⟨b, off, none⟩ ∧ ∀ i, i < rs.length → ∃ a' c', w.cell? ⟨b, off + i, none⟩ = some (.slice a' (rowA rs i).length c') ∧ SeesP w a' c' (rowA rs i)
theorem SeesS.below {w w' : World} {a : Option Addr} {cap : Nat} {rs : List (List (Int × Int))} (h : SeesS w a cap rs) (hb : Below w.heap.size w w') : SeesS w' a cap rs :=
  ⟨h.fits, h.max, fun hn => by
    obtain ⟨b, off, ha, hc⟩ := h.cells hn
    exact ⟨b, off, ha, fun i hi => by obtain ⟨a', c', h1, h2⟩ := hc i hi; exact ⟨a', c', bat hb h1, h2.below hb⟩⟩⟩
/-- How many rows and points there are, up to a row. -/
def upto (rs : List (List (Int × Int))) : Nat → Nat
  | 0 => rs.length
  | j + 1 => upto rs j + (rowA rs j).length
theorem upto_le (rs : List (List (Int × Int))) (j d : Nat) : upto rs j ≤ upto rs (j + d) := by
  induction d with
  | zero => exact Nat.le_refl _
  | succ d ih => rw [← Nat.add_assoc]; simp only [upto]; omega
theorem row_le (rs : List (List (Int × Int))) {i n : Nat} (h : i < n) : (rowA rs i).length + rs.length ≤ upto rs n := by
  have h1 := upto_le rs (i + 1) (n - (i + 1))
  rw [show i + 1 + (n - (i + 1)) = n by omega] at h1
  have h2 := upto_le rs 0 i
  simp only [upto, Nat.zero_add] at h1 h2
  omega

end Go.Proofs.Ytdgepkbdopndfaa
