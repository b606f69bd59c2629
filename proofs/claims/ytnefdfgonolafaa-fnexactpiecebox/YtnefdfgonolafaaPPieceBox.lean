/- The law FnExactPieceBox holds at every argument: the program's PieceBox answers as the specification's, and writes into no argument. No condition. -/
import Derived.Test.YtnefdfgonolafaaFrame
import Derived.Test.YtnefdfgonolafaaLawPieceBox
namespace Go.Proofs.Ytnefdfgonolafaa
open Go.ChangeShapes Go.WideShapes Go.ChangeAt Go.RowKit Go.Joins

set_option maxRecDepth 100000 in
set_option maxHeartbeats 4000000 in
theorem piecebox_lifted (os : Os) (started : os.Started) (H : Type) (enc : TypeId × Value → H) :
    ReturnsInHanded {} Try.checked os 3 .any (Rows.fnExactPieceBoxSpec.pre6 enc Try.prog Try.f3 Rows.fnExactPieceBoxRow.domain false) (Rows.fnExactPieceBoxSpec.post enc Try.prog Try.f3 false true false false) := by
  refine returnsInHanded_of_change (C := Try.checked) own started (by kernel_rfl) Try.func3
    (ChangeSpec.witness6 (enc := enc) (C := Try.checked) false ⟨#[], #[.agg #[.bool false, .slice none 0 0, .bool false, .slice none 0 0, .bool false, .slice none 0 0, .bool false, .slice none 0 0, .bool false, .slice none 0 0, .bool false, .slice none 0 0, .bool false, .slice none 0 0, .bool false, .slice none 0 0]], []⟩ 16 (by kernel_rfl) (by kernel_rfl) (by kernel_rfl) (by kernel_rfl)) ?_
  intro W base args ds gs before hval0 hW hcnd _
  have hval : ∀ (j : Nat) t v, Try.f3.params[j]? = some t → args[j]? = some v → Value.okWide Try.prog W .any base t v := hval0
  have hW' := hW
  obtain ⟨p, q, hA0, hV, rfl, hfz, hnd⟩ := hW
  have hA : DataW.TrodAll enc Try.prog W 0 (fun _ => true) true Try.f3.params.toList args.toList ds p := hA0
  rw [Try.params3] at hA hval
  obtain ⟨v0, vs0, dT, ds0, p0, q0, hargs, rfl, rfl, hT, r0⟩ := trodAll_cons hA
  obtain ⟨rfl, rfl, rfl⟩ := trodAll_nil r0
  obtain rfl : args = #[v0] := by cases args; simp_all
  obtain ⟨rfl, rfl⟩ := trodVars_none hV
  obtain ⟨g0, a0, c0, x0, h0, b0, d0, y0, g1, a1, c1, x1, h1, b1, d1, y1, g2, a2, c2, x2, h2, b2, d2, y2, g3, a3, c3, x3, h3, b3, d3, y3, rfl, hx0, hy0, hx1, hy1, hx2, hy2, hx3, hy3⟩ := openPiece (hval 0 28 v0 rfl rfl) hT
  have lt0 : ∀ x ∈ p0, x.block < W.heap.size := by obtain ⟨m, hm⟩ := hT; exact DataW.trod_lt m _ _ _ hm
  clear hA0 hval0
  refine (lawPieceBox g0 h0 a0 b0 c0 d0 x0 y0 g1 h1 a1 b1 c1 d1 x1 y1 g2 h2 a2 b2 c2 d2 x2 y2 g3 h3 a3 b3 c3 d3 x3 y3 W hx0 hy0 hx1 hy1 hx2 hy2 hx3 hy3).mono fun e W' ⟨he, bel⟩ => ?_
  subst he
  exact ⟨_, rfl, _, _, _, [], _, [], hW', trodAll_mk1 (shut_bool Try.underlying4 _), (trodAll_cons_mk (Below.trod laidOut (by kernel_rfl) (of_decide_eq_true (by kernel_rfl)) hT bel lt0) trodAll_mk0), rfl, bel.frame _, fun h => by cases h⟩

theorem piecebox_over : Rows.fnExactPieceBoxRow.holds Try.pinned (OpenSpec.ofChange Rows.fnExactPieceBoxSpec) :=
  OpenClaim.holds_of_wide 3 Try.f3 rfl rfl rfl rfl rfl rfl rfl ⟨rfl, rfl, rfl, rfl, rfl⟩ rfl rfl rfl rfl rfl (by kernel_rfl) Try.func3 (by kernel_rfl)
    (of_decide_eq_true (by kernel_rfl)) (by unfold Func.isWrapper; first | (rw [if_pos (by decide +kernel)]; kernel_rfl) | (rw [if_neg (by decide +kernel)]; exact ⟨rfl, rfl⟩))
    (fun os started H enc _ => piecebox_lifted os started H enc)

theorem piecebox_holds : Rows.FnExactPieceBoxSaid := piecebox_over
#print axioms piecebox_holds
end Go.Proofs.Ytnefdfgonolafaa
