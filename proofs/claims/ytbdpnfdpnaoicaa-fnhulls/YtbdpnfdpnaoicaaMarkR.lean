/- Rows of points of a call's own: marked, written beside, seen. -/
import Derived.Test.YtbdpnfdpnaoicaaMarkH
namespace Go.Proofs.Ytbdpnfdpnaoicaa
open Go.RowKit

theorem RowPt.puts {base lo hi : Nat} {w w' : World} {v : Value} {ps : List (Int × Int)} (h : RowPt base w v ps) (P : Puts lo hi w w') (nv : ∀ k, v.ownBlock = some k → k < lo ∨ hi ≤ k) : RowPt base w' v ps :=
  P (fun W => RowPt base W v ps) (fun W b o u h1 h2 q => owns_kept q (grownBy_setCell (grownBy_refl W (some b)) rfl u) (fun k hk e => by have := nv k hk; injection e with e; omega)) h
theorem RowPt.under {lo b : Nat} {w w' : World} {v : Value} {ps : List (Int × Int)} (h : RowPt lo w v ps) (hb : Below b w w') (nv : ∀ k, v.ownBlock = some k → k < b) : RowPt lo w' v ps := by
  refine ⟨h.1, ?_⟩
  rcases h.2 with q2 | ⟨g, cap, cur, hv, q3, q4, q5⟩
  · exact .inl q2
  · exact .inr ⟨g, cap, cur, hv, q3, (hb.block g (nv g (by rw [hv]; rfl))).trans q4, q5⟩
theorem RowPt.seesN {lo n c : Nat} {a : Option Addr} {w : World} {ps : List (Int × Int)} (h : RowPt lo w (.slice a n c) ps) : SeesP w a c ps := by
  obtain ⟨_, _, e, _, _⟩ := h.shape
  injection e with _ e2 _
  subst e2
  exact h.seesP
end Go.Proofs.Ytbdpnfdpnaoicaa
