/- Whether two shapes are the same: of the program and of the specification. -/
import Derived.Test.YtecjeomcbcpfiaaGreatShapeM
import Derived.BigRegion
namespace Go.Proofs.YtecjeomcbcpfiaaGreat
open Go.RowKit

/-- Whether two rows of points are the same. -/
def psB (ps qs : List (Int × Int)) : Bool := decide (ps = qs)
theorem psB_len {ps qs : List (Int × Int)} (h : ps.length ≠ qs.length) : psB ps qs = false := decide_eq_false (fun e => h (by rw [e]))
theorem psB_at {ps qs : List (Int × Int)} {j : Nat} (h : ps[j]?.getD (0, 0) ≠ qs[j]?.getD (0, 0)) : psB ps qs = false := decide_eq_false (fun e => h (by rw [e]))
theorem take_step {α : Type} {xs ys : List α} {d : α} {j : Nat} (hx : j < xs.length) (hy : j < ys.length) (h : xs.take j = ys.take j) (e : xs[j]?.getD d = ys[j]?.getD d) : xs.take (j + 1) = ys.take (j + 1) := by
  rw [List.take_succ_eq_append_getElem hx, List.take_succ_eq_append_getElem hy, h]
  rw [List.getElem?_eq_getElem hx, List.getElem?_eq_getElem hy] at e
  simp only [Option.getD_some] at e
  rw [e]

/-- Whether two lists of rows are the same. -/
def rsB (rs ts : List (List (Int × Int))) : Bool := decide (rs = ts)
theorem rsB_len {rs ts : List (List (Int × Int))} (h : rs.length ≠ ts.length) : rsB rs ts = false := decide_eq_false (fun e => h (by rw [e]))
theorem rsB_at {rs ts : List (List (Int × Int))} {j : Nat} (h : psB (rowA rs j) (rowA ts j) = false) : rsB rs ts = false := decide_eq_false (fun e => by rw [e] at h; simp [psB] at h)

/-- Whether two shapes are the same. -/
def shB (n m : Int) (rs ts : List (List (Int × Int))) : Bool := (n == m) && rsB rs ts

end Go.Proofs.YtecjeomcbcpfiaaGreat
