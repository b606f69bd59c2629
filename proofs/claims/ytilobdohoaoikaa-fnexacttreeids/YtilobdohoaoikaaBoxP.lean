/- Lists of points: in memory, their least box. -/
import Derived.Test.YtilobdohoaoikaaBoxW
namespace Go.Proofs.Ytilobdohoaoikaa
open Go.RowKit

/-- Points that lie in memory, one behind the other. -/
structure SeesP (w : World) (a : Option Addr) (cap : Nat) (ps : List (Int × Int)) : Prop where
  fits : ps.length ≤ cap
  max : cap ≤ maxLen
  cells : ps ≠ [] → ∃ b off, a = some ⟨b, off, none⟩ ∧ ∀ i, i < ps.length → w.cell? ⟨b, off + i * 2, none⟩ = some (.int .i64 (ps[i]?.getD (0, 0)).1) ∧ w.cell? ⟨b, off + i * 2 + 1, none⟩ = some (.int .i64 (ps[i]?.getD (0, 0)).2)
theorem SeesP.below {w w' : World} {a : Option Addr} {cap : Nat} {ps : List (Int × Int)} (h : SeesP w a cap ps) (hb : Below w.heap.size w w') : SeesP w' a cap ps :=
  ⟨h.fits, h.max, fun hn => by
    obtain ⟨b, off, ha, hc⟩ := h.cells hn
    exact ⟨b, off, ha, fun i hi => ⟨bat hb (hc i hi).1, bat hb (hc i hi).2⟩⟩⟩

def okL (ps : List (Int × Int)) : Bool := ps.all fun p => ptOk p.1 p.2
def bxA (ps : List (Int × Int)) (a : Int) : Int := ps.foldl (fun a p => min a p.1) a
def bxB (ps : List (Int × Int)) (a : Int) : Int := ps.foldl (fun a p => min a p.2) a
def bxC (ps : List (Int × Int)) (a : Int) : Int := ps.foldl (fun a p => max a p.1) a
def bxD (ps : List (Int × Int)) (a : Int) : Int := ps.foldl (fun a p => max a p.2) a
/-- The first point. -/
def hd (ps : List (Int × Int)) : Int × Int := ps[0]?.getD (0, 0)
def bOk (ps : List (Int × Int)) : Bool := !ps.isEmpty && okL ps
def bA (ps : List (Int × Int)) : Int := if bOk ps then bxA ps (hd ps).1 else 0
def bB (ps : List (Int × Int)) : Int := if bOk ps then bxB ps (hd ps).2 else 0
def bC (ps : List (Int × Int)) : Int := if bOk ps then bxC ps (hd ps).1 else 0
def bD (ps : List (Int × Int)) : Int := if bOk ps then bxD ps (hd ps).2 else 0

theorem takeS {ps : List (Int × Int)} {j : Nat} (h : j < ps.length) : ps.take (j + 1) = ps.take j ++ [ps[j]?.getD (0, 0)] := by
  rw [List.take_succ_eq_append_getElem h, List.getElem?_eq_getElem h]
  rfl
theorem okL_step {ps : List (Int × Int)} {j : Nat} (h : j < ps.length) (k : okL (ps.take j) = true) : okL (ps.take (j + 1)) = ptOk (ps[j]?.getD (0, 0)).1 (ps[j]?.getD (0, 0)).2 := by
  rw [takeS h]
  unfold okL at *
  rw [List.all_append, k]
  simp
theorem okL_bad {ps : List (Int × Int)} {j : Nat} (h : j < ps.length) (k : ptOk (ps[j]?.getD (0, 0)).1 (ps[j]?.getD (0, 0)).2 = false) : okL ps = false := by
  unfold okL
  rw [List.all_eq_false]
  refine ⟨ps[j], List.getElem_mem h, ?_⟩
  rw [List.getElem?_eq_getElem h] at k
  simpa using k
theorem f_step {ps : List (Int × Int)} {j : Nat} (h : j < ps.length) (a : Int) :
    bxA (ps.take (j + 1)) a = min (bxA (ps.take j) a) (ps[j]?.getD (0, 0)).1 ∧ bxB (ps.take (j + 1)) a = min (bxB (ps.take j) a) (ps[j]?.getD (0, 0)).2 ∧ bxC (ps.take (j + 1)) a = max (bxC (ps.take j) a) (ps[j]?.getD (0, 0)).1 ∧ bxD (ps.take (j + 1)) a = max (bxD (ps.take j) a) (ps[j]?.getD (0, 0)).2 := by
  rw [takeS h]
  unfold bxA bxB bxC bxD
  simp [List.foldl_append]
theorem b_bad {ps : List (Int × Int)} (h : bOk ps = false) : bA ps = 0 ∧ bB ps = 0 ∧ bC ps = 0 ∧ bD ps = 0 := by
  unfold bA bB bC bD
  rw [h]
  exact ⟨rfl, rfl, rfl, rfl⟩
theorem b_good {ps : List (Int × Int)} (h : bOk ps = true) : bA ps = bxA ps (hd ps).1 ∧ bB ps = bxB ps (hd ps).2 ∧ bC ps = bxC ps (hd ps).1 ∧ bD ps = bxD ps (hd ps).2 := by
  unfold bA bB bC bD
  rw [h]
  exact ⟨rfl, rfl, rfl, rfl⟩
end Go.Proofs.Ytilobdohoaoikaa
