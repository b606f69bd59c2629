/- The law FnExactPutShape, as its tied card says it: at every argument the program's PutShape answers as the specification's, byte by byte; it writes into no argument and keeps nothing of one; its answer owns its memory. The table of types by kinds stands as the program's text lays it. -/
import Derived.Test.YthhogmbhgehaeaaDoorFrameSh
import Derived.Test.YthhogmbhgehaeaaDoorLawPutShape
import Derived.Test.YthhogmbhgehaeaaDoorCards
import Derived.Test.YthhogmbhgehaeaaDoorTie
import Derived.LaidLaws
import Derived.Handed
import Derived.Lib.LaidTab
import Derived.Lib.AppendIntMem
import Derived.Stop.LaidErr
import Derived.SevenTiedAt
import Derived.ChangeVars
import Derived.OpenVars
namespace Go.Proofs.YthhogmbhgehaeaaDoor
open Go.ChangeShapes Go.WideShapes Go.ChangeAt Go.RowKit Go.Joins

theorem g_ty : Tryd.prog.globalNamed "loop.example/g00108/impl.byteTypes" = some 0 := by kernel_rfl
theorem g_tyType : (Tryd.prog.globals[0]?).map (·.type) = some 60 := by kernel_rfl
theorem cells_ty : Tryd.prog.cellsOf 60 = 6 := by kernel_rfl
theorem cells_u32 : Tryd.prog.cellsOf 59 = 1 := by kernel_rfl
theorem tab_ty : Rows.laid_loop_example_g00108_impl_byteTypes (H := Unit) = Lib.tabData .u32 [0, 1, 4, 2, 5, 3] := by kernel_rfl

/-- A world whose block i holds these cells. -/
def tabAt (w : World) (i : Nat) (cs : Array Value) : World :=
  { w with heap := w.heap.modify i fun
      | .cells _ t frozen => .cells cs t frozen
      | o => o }
/-- The settled world, the table as its initialiser lays it. -/
noncomputable def laidWorld (os : Os) : World :=
  tabAt (World.holding Tryd.prog os ⟨#[], #[], []⟩) 0 #[.int .u32 0, .int .u32 1, .int .u32 4, .int .u32 2, .int .u32 5, .int .u32 3]
set_option maxRecDepth 100000 in
theorem laid_met (os : Os) (args : Array Value) : laidMet Tryd.prog Rows.fnExactPutShapeRow.laid ((laidWorld os).forCall (fun _ _ => 0) ⟨#[], args, []⟩).memory :=
  laidMet_of_run' 8 (by kernel_rfl) (by kernel_rfl)
theorem ty_of_laid {W : World} (h : laidMet Tryd.prog Rows.fnExactPutShapeRow.laid W) : Lib.TabIs Tryd.prog W "loop.example/g00108/impl.byteTypes" .u32 [0, 1, 4, 2, 5, 3] := by
  have h2 : laidMet Tryd.prog [("loop.example/g00108/impl.byteTypes", Rows.laid_loop_example_g00108_impl_byteTypes)] W := h
  rw [tab_ty] at h2
  exact Lib.tabIs_of_head g_ty g_tyType Tryd.underlying60 Tryd.underlying59 cells_u32 cells_ty h2
theorem tabB_of {W : World} (h : Lib.TabIs Tryd.prog W "loop.example/g00108/impl.byteTypes" .u32 [0, 1, 4, 2, 5, 3]) : TabB W := by
  intro k h1 h5
  have c := h.cell g_ty k (by simp; omega)
  rw [c]
  have hk : k = 1 ∨ k = 2 ∨ k = 3 ∨ k = 4 ∨ k = 5 := by omega
  rcases hk with rfl | rfl | rfl | rfl | rfl <;> rfl

set_option maxRecDepth 100000 in
theorem putShape_lifted (os : Os) (started : os.Started) (H : Type) (enc : TypeId × Value → H) :
    ReturnsInHanded {} Tryd.checked os 3 .any (fun w args => (Rows.fnExactPutShapeSpec.pre enc Tryd.prog Tryd.f3 Rows.fnExactPutShapeRow.domain false w args ∧ laidMet Tryd.prog Rows.fnExactPutShapeRow.laid w) ∧ sizedMet enc Tryd.prog Tryd.f3 (OpenSpec.ofChange Rows.fnExactPutShapeSpec) false w args) (Rows.fnExactPutShapeSpec.post enc Tryd.prog Tryd.f3 false true false false) := by
  refine returnsInHanded_of_change_and (C := Tryd.checked) (X := fun w _ => laidMet Tryd.prog Rows.fnExactPutShapeRow.laid w) (fun _ _ _ hh h => h.of_heap hh) own started (by kernel_rfl) Tryd.func3
    (ChangeSpec.witness_at (enc := enc) (C := Tryd.checked) (os := os) (X := fun w _ => laidMet Tryd.prog Rows.fnExactPutShapeRow.laid w) false (laidWorld os) #[.agg #[.int .i64 0, .slice none 0 0]] 8 rfl (by kernel_rfl) (by kernel_rfl) (by kernel_rfl) (by kernel_rfl) (by kernel_rfl) (laid_met os _)) ?_
  intro W base args ds gs before hval0 hW _ _ hL _
  have hval : ∀ (j : Nat) t v, Tryd.f3.params[j]? = some t → args[j]? = some v → Value.okWide Tryd.prog W .any base t v := hval0
  have hW' := hW
  obtain ⟨p, q, hA0, hV, rfl, hfz, hnd⟩ := hW
  have hA : DataW.TrodAll enc Tryd.prog W 0 (fun _ => true) true Tryd.f3.params.toList args.toList ds p := hA0
  rw [Tryd.params3] at hA hval
  obtain ⟨v0, vs0, d0, ds0, p0, q0, hargs, rfl, rfl, h0, r0⟩ := trodAll_cons hA
  obtain ⟨rfl, rfl, rfl⟩ := trodAll_nil r0
  obtain rfl : args = #[v0] := by cases args; simp_all
  have hV1 : DataW.TrodVars enc Tryd.prog W (fun _ => true) ["loop.example/g00108/impl.byteTypes"] gs q := hV
  obtain ⟨g1, t1, cs1, fuel1, dv, p1, rfl, _, _, _, _, _⟩ := trodVars_one hV1
  obtain ⟨n0, a0, c0, rs0, rfl, s0⟩ := openShape (hval 0 24 v0 rfl rfl) h0
  have lt0 : ∀ x ∈ p0, x.block < W.heap.size := by obtain ⟨m, hm⟩ := h0; exact DataW.trod_lt m _ _ _ hm
  clear hA0 hval0
  refine (lawPutShape n0 a0 c0 rs0 W s0 (fun w' hb => tabB_of (Lib.tabBelow_of_tabIs (ty_of_laid hL) w' hb))).mono fun e W' ⟨he, bel⟩ => ?_
  subst he
  exact ⟨_, rfl, _, _, _, [], _, _, hW', trodAll_mk1 (shut_bool Tryd.underlying4 _), (trodAll_cons_mk (Below.trod laidOut (by kernel_rfl) (of_decide_eq_true (by kernel_rfl)) h0 bel lt0) trodAll_mk0), Below.trodVars laidOut bel (by kernel_rfl) hV1, bel.frame _, fun h => by cases h⟩

theorem putShape_over : Rows.fnExactPutShapeRow.holds Tryd.pinned (OpenSpec.ofChange Rows.fnExactPutShapeSpec) :=
  OpenClaim.holds_of_wide 3 Tryd.f3 rfl rfl rfl rfl rfl rfl rfl ⟨rfl, rfl, rfl, rfl, rfl⟩ rfl rfl rfl rfl rfl (by kernel_rfl) Tryd.func3 (by kernel_rfl)
    (of_decide_eq_true (by kernel_rfl)) (by unfold Func.isWrapper; first | (rw [if_pos (by decide +kernel)]; kernel_rfl) | (rw [if_neg (by decide +kernel)]; exact ⟨rfl, rfl⟩))
    (fun os started H enc _ => putShape_lifted os started H enc)

theorem putShape_said : Rows.FnExactPutShapeSaid := putShape_over
theorem putShape_holds : Rows.FnExactPutShapeCardSaid :=
  Claim7.holds_tied_plain_at .later [] _ _ _ _
    putShape_said (fun _ h => by cases h) (by kernel_rfl) (fun _ h => by cases h) fnExactPutShape_row_tie rfl ⟨rfl, rfl⟩ (by kernel_rfl) rfl
    (fun f fn hf hfn => by
      obtain rfl : f = 3 := Option.some.inj (hf.symm.trans (show Tryd.prog.funcNamed "loop.example/g00108/laws.FnExactPutShape" = some 3 by kernel_rfl))
      obtain rfl : fn = Tryd.f3 := Option.some.inj (hfn.symm.trans Tryd.func3)
      exact ⟨by kernel_rfl, fun j t ht => by
        rw [Tryd.params3] at ht
        have h3 : t = 24 := by
          rcases j with _ | j
          · simpa using ht.symm
          · simp at ht
        subst h3
        exact (show Tryd.prog.wantsStandIn 24 = false by kernel_rfl)⟩)
    (by kernel_rfl)
#print axioms putShape_holds
end Go.Proofs.YthhogmbhgehaeaaDoor
