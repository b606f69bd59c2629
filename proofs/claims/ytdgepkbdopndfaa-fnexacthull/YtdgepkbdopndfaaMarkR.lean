/- Rows of points of a call's own: marked, written beside, seen. -/
import Derived.Test.YtdgepkbdopndfaaMarkH
namespace Go.Proofs.Ytdgepkbdopndfaa
open Go.RowKit

theorem RowPt.puts {base lo hi : Nat} {w w' : World} {v : Value} {ps : List (Int × Int)} (h : RowPt base w v ps) (P : Puts lo hi w w') (nv : ∀ k, v.ownBlock = some k → k < lo ∨ hi ≤ k) : RowPt base w' v ps :=
  P (fun W => RowPt base W v ps) (fun W b o u h1 h2 q => owns_kept q (grownBy_setCell (grownBy_refl W (some b)) rfl u) (fun k hk e => by have := nv k hk; injection e with e; omega)) h
theorem RowPt.under {lo b : Nat} {w w' : World} {v : Value} {ps : List (Int × Int)} (h : RowPt lo w v ps) (hb : Below b w w') (nv : ∀ k, v.ownBlock = some k → k < b) : RowPt lo w' v ps := by
  refine ⟨h.1, ?_⟩
  rcases h.2 with q2 | ⟨g, cap, cur, hv, q3, q4, q5⟩
  · exact .inl q2
  · exact .inr ⟨g, cap, cur, hv, q3, (hb.block g (nv g (by rw [hv]; rfl))).trans q4, q5⟩
theorem RowPt.seesN {lo n c : Nat} {a : Option Addr} {w : World} {ps : List (Int × Int)} (h : RowPt lo w (.slice a n c) ps) : SeesP w a c ps := by
  obtain ⟨_, _, e, _, _⟩ := h.shape
  injection e with _ e2 _
  subst e2
  exact h.seesP
/-- A row of a call's own is marked. -/
theorem markRowR (lo : Nat) (a : Option Addr) (c : Nat) (ps : List (Int × Int)) (w : World) (h : RowPt lo w (.slice a ps.length c) ps) (hm : ps.length ≤ 1048576) (hlo : lo ≤ w.heap.size) :
    Calls Try.prog 9 #[.slice a ps.length c, .int .i64 1] w fun e w' => e = .returned (.int .i64 (1 + 2 * (ps.length : Int))) ∧ RowPt lo w' (.slice a ps.length c) (mkRow 1 ps.length) ∧ Below lo w w' := by
  rcases Nat.eq_zero_or_pos ps.length with z | z
  · obtain rfl : ps = [] := List.eq_nil_of_length_eq_zero z
    refine (markNone a c 1 w).mono ?_
    rintro e w' ⟨rfl, rfl⟩
    exact ⟨rfl, h, Below.refl _ _⟩
  · obtain ⟨g, e⟩ : ∃ g, a = some ⟨g, 0, none⟩ := by
      rcases h.2 with ⟨_, h0⟩ | ⟨q, cap, cur, hv, _⟩
      · omega
      · injection hv with hv
        exact ⟨q, hv⟩
    subst e
    have nl := (World.ownsRow.lt h g rfl).1
    refine (markPtsR lo g c 1 ps w h hm (by decide) (by decide)).mono ?_
    rintro e w' ⟨rfl, R, G⟩
    exact ⟨rfl, R, (Below.refl lo w).grown G hlo (fun k hk => by injection hk with hk; omega)⟩
end Go.Proofs.Ytdgepkbdopndfaa
