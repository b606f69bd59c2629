/- The law FnExactPutChanges, as its tied card says it: at every argument the program's PutChanges answers as the specification's, byte by byte; it writes into no argument and keeps nothing of one; its answer owns its memory. The table of types by kinds stands as the program's text lays it. -/
import Derived.Test.YtlkhbbllkkdhaaaGreatDoorFrameCs
import Derived.Test.YtlkhbbllkkdhaaaGreatDoorLawPutChanges
import Derived.Test.YtlkhbbllkkdhaaaGreatDoorCards
import Derived.Test.YtlkhbbllkkdhaaaGreatDoorTie
import Derived.LaidLaws
import Derived.Handed
import Derived.Lib.LaidTab
import Derived.Lib.AppendIntMem
import Derived.Stop.LaidErr
import Derived.SevenTiedAt
import Derived.ChangeVars
import Derived.OpenVars
namespace Go.Proofs.YtlkhbbllkkdhaaaGreatDoor
open Go.ChangeShapes Go.WideShapes Go.ChangeAt Go.RowKit Go.Joins

theorem g_ty : Tryz.prog.globalNamed "loop.example/g00108/impl.byteTypes" = some 0 := by kernel_rfl
theorem g_tyType : (Tryz.prog.globals[0]?).map (·.type) = some 78 := by kernel_rfl
theorem cells_ty : Tryz.prog.cellsOf 78 = 6 := by kernel_rfl
theorem cells_u32 : Tryz.prog.cellsOf 65 = 1 := by kernel_rfl
theorem tab_ty : Rows.laid_loop_example_g00108_impl_byteTypes (H := Unit) = Lib.tabData .u32 [0, 1, 4, 2, 5, 3] := by kernel_rfl

/-- A world whose block i holds these cells. -/
def tabAt (w : World) (i : Nat) (cs : Array Value) : World :=
  { w with heap := w.heap.modify i fun
      | .cells _ t frozen => .cells cs t frozen
      | o => o }
/-- The settled world, the table as its initialiser lays it. -/
noncomputable def laidWorld (os : Os) : World :=
  tabAt (World.holding Tryz.prog os ⟨#[], #[], []⟩) 0 #[.int .u32 0, .int .u32 1, .int .u32 4, .int .u32 2, .int .u32 5, .int .u32 3]
set_option maxRecDepth 100000 in
theorem laid_met (os : Os) (args : Array Value) : laidMet Tryz.prog Rows.fnExactPutChangesRow.laid ((laidWorld os).forCall (fun _ _ => 0) ⟨#[], args, []⟩).memory :=
  laidMet_of_run' 8 (by kernel_rfl) (by kernel_rfl)
theorem ty_of_laid {W : World} (h : laidMet Tryz.prog Rows.fnExactPutChangesRow.laid W) : Lib.TabIs Tryz.prog W "loop.example/g00108/impl.byteTypes" .u32 [0, 1, 4, 2, 5, 3] := by
  have h2 : laidMet Tryz.prog [("loop.example/g00108/impl.byteTypes", Rows.laid_loop_example_g00108_impl_byteTypes)] W := h
  rw [tab_ty] at h2
  exact Lib.tabIs_of_head g_ty g_tyType Tryz.underlying78 Tryz.underlying65 cells_u32 cells_ty h2
theorem tabB_of {W : World} (h : Lib.TabIs Tryz.prog W "loop.example/g00108/impl.byteTypes" .u32 [0, 1, 4, 2, 5, 3]) : TabB W := by
  intro k h1 h5
  have c := h.cell g_ty k (by simp; omega)
  rw [c]
  have hk : k = 1 ∨ k = 2 ∨ k = 3 ∨ k = 4 ∨ k = 5 := by omega
  rcases hk with rfl | rfl | rfl | rfl | rfl <;> rfl

set_option maxRecDepth 100000 in
theorem putChanges_lifted (os : Os) (started : os.Started) (H : Type) (enc : TypeId × Value → H) :
    ReturnsInHanded {} Tryz.checked os 3 .any (fun w args => (Rows.fnExactPutChangesSpec.pre enc Tryz.prog Tryz.f3 Rows.fnExactPutChangesRow.domain false w args ∧ laidMet Tryz.prog Rows.fnExactPutChangesRow.laid w) ∧ sizedMet enc Tryz.prog Tryz.f3 (OpenSpec.ofChange Rows.fnExactPutChangesSpec) false w args) (Rows.fnExactPutChangesSpec.post enc Tryz.prog Tryz.f3 false true false false) := by
  refine returnsInHanded_of_change_and (C := Tryz.checked) (X := fun w _ => laidMet Tryz.prog Rows.fnExactPutChangesRow.laid w) (fun _ _ _ hh h => h.of_heap hh) own started (by kernel_rfl) Tryz.func3
    (ChangeSpec.witness_at (enc := enc) (C := Tryz.checked) (os := os) (X := fun w _ => laidMet Tryz.prog Rows.fnExactPutChangesRow.laid w) false (laidWorld os) #[.slice none 0 0] 8 rfl (by kernel_rfl) (by kernel_rfl) (by kernel_rfl) (by kernel_rfl) (by kernel_rfl) (laid_met os _)) ?_
  intro W base args ds gs before hval0 hW _ _ hL _
  have hval : ∀ (j : Nat) t v, Tryz.f3.params[j]? = some t → args[j]? = some v → Value.okWide Tryz.prog W .any base t v := hval0
  have hW' := hW
  obtain ⟨p, q, hA0, hV, rfl, hfz, hnd⟩ := hW
  have hA : DataW.TrodAll enc Tryz.prog W 0 (fun _ => true) true Tryz.f3.params.toList args.toList ds p := hA0
  rw [Tryz.params3] at hA hval
  obtain ⟨v0, vs0, d0, ds0, p0, q0, hargs, rfl, rfl, h0, r0⟩ := trodAll_cons hA
  obtain ⟨rfl, rfl, rfl⟩ := trodAll_nil r0
  obtain rfl : args = #[v0] := by cases args; simp_all
  have hV1 : DataW.TrodVars enc Tryz.prog W (fun _ => true) ["loop.example/g00108/impl.byteTypes"] gs q := hV
  obtain ⟨g1, t1, cs1, fuel1, dv, p1, rfl, _, _, _, _, _⟩ := trodVars_one hV1
  obtain ⟨a0, c0, es0, rfl, s0⟩ := openChanges (hval 0 22 v0 rfl rfl) h0
  have lt0 : ∀ x ∈ p0, x.block < W.heap.size := by obtain ⟨m, hm⟩ := h0; exact DataW.trod_lt m _ _ _ hm
  clear hA0 hval0
  refine (lawPutChanges a0 c0 es0 W s0 (fun w' hb => tabB_of (Lib.tabBelow_of_tabIs (ty_of_laid hL) w' hb))).mono fun e W' ⟨he, bel⟩ => ?_
  subst he
  exact ⟨_, rfl, _, _, _, [], _, _, hW', trodAll_mk1 (shut_bool Tryz.underlying4 _), (trodAll_cons_mk (Below.trod laidOut (by kernel_rfl) (of_decide_eq_true (by kernel_rfl)) h0 bel lt0) trodAll_mk0), Below.trodVars laidOut bel (by kernel_rfl) hV1, bel.frame _, fun h => by cases h⟩

theorem putChanges_over : Rows.fnExactPutChangesRow.holds Tryz.pinned (OpenSpec.ofChange Rows.fnExactPutChangesSpec) :=
  OpenClaim.holds_of_wide 3 Tryz.f3 rfl rfl rfl rfl rfl rfl rfl ⟨rfl, rfl, rfl, rfl, rfl⟩ rfl rfl rfl rfl rfl (by kernel_rfl) Tryz.func3 (by kernel_rfl)
    (of_decide_eq_true (by kernel_rfl)) (by unfold Func.isWrapper; first | (rw [if_pos (by decide +kernel)]; kernel_rfl) | (rw [if_neg (by decide +kernel)]; exact ⟨rfl, rfl⟩))
    (fun os started H enc _ => putChanges_lifted os started H enc)

theorem putChanges_said : Rows.FnExactPutChangesSaid := putChanges_over
theorem putChanges_holds : Rows.FnExactPutChangesCardSaid :=
  Claim7.holds_tied_plain_at .later [] _ _ _ _
    putChanges_said (fun _ h => by cases h) (by kernel_rfl) (fun _ h => by cases h) fnExactPutChanges_row_tie rfl ⟨rfl, rfl⟩ (by kernel_rfl) rfl
    (fun f fn hf hfn => by
      obtain rfl : f = 3 := Option.some.inj (hf.symm.trans (show Tryz.prog.funcNamed "loop.example/g00108/laws.FnExactPutChanges" = some 3 by kernel_rfl))
      obtain rfl : fn = Tryz.f3 := Option.some.inj (hfn.symm.trans Tryz.func3)
      exact ⟨by kernel_rfl, fun j t ht => by
        rw [Tryz.params3] at ht
        have h3 : t = 22 := by
          rcases j with _ | j
          · simpa using ht.symm
          · simp at ht
        subst h3
        exact (show Tryz.prog.wantsStandIn 22 = false by kernel_rfl)⟩)
    (by kernel_rfl)
#print axioms putChanges_holds
end Go.Proofs.YtlkhbbllkkdhaaaGreatDoor
