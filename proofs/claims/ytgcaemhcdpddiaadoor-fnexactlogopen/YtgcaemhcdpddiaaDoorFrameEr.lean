/- The package's error, as its initialiser lays it: what a tied row gives of it. -/
import Derived.Test.YtgcaemhcdpddiaaDoorFrameDk
import Derived.Test.YtgcaemhcdpddiaaDoorStoI
import Derived.Test.YtgcaemhcdpddiaaDoorCards
import Derived.Test.YtgcaemhcdpddiaaDoorTie
import Derived.LaidLaws
import Derived.Handed
import Derived.Stop.LaidErr
import Derived.SevenTiedAt
import Derived.ChangeVars
import Derived.OpenVars
import Derived.LaidHandle
namespace Go.Proofs.YtgcaemhcdpddiaaDoor
open Go.ChangeShapes Go.WideShapes Go.ChangeAt Go.RowKit Go.Joins

theorem g_er : Tryd.prog.globalNamed "loop.example/g00108/impl.errNotThere" = some 0 := by kernel_rfl
theorem g_erType : (Tryd.prog.globals[0]?).map (·.type) = some 83 := by kernel_rfl
theorem cells_es : Tryd.prog.cellsOf 156 = 1 := by kernel_rfl
theorem cells_st : Tryd.prog.cellsOf 9 = 1 := by kernel_rfl
theorem starE : "*" ++ "errors.errorString" = "*errors.errorString" := by decide
theorem rowE (u : TypeId) (h : Tryd.prog.typeName? 3 u = some "*errors.errorString") : u = 131 :=
  typeName_ptr_named (nm := "errors.errorString") (by rw [starE]; kernel_rfl) (by kernel_rfl) (by decide) u (by rw [starE]; exact h)
/-- What is laid. -/
abbrev laidE : List (String × DataW Unit) := [("loop.example/g00108/impl.errNotThere", Rows.laid_loop_example_g00108_impl_errNotThere)]
theorem er_of_laid {W : World} (h : laidMet Tryd.prog laidE W) : ∃ b, Er b W := by
  obtain ⟨a0, s0, hv0, hc0, hs0, hz0⟩ := laid_sentinel h g_er g_erType Tryd.underlying83 rowE Tryd.underlying131 Tryd.underlying156 rfl rfl Tryd.underlying9 cells_es cells_st
  exact ⟨a0, by unfold Er; simpa using World.var?_cell g_er hv0 0⟩

abbrev textE : ByteArray := { data := #[110, 111, 116, 32, 116, 104, 101, 114, 101] }
noncomputable def lowE : Nat := (World.holding Tryd.prog default ⟨#[], #[], []⟩).heap.size
/-- The settled world, the error as its initialiser lays it. -/
noncomputable def laidWorld (os : Os) : World :=
  let w0 := World.holding Tryd.prog os ⟨#[.cells #[.string textE] 156], #[], []⟩
  { w0 with heap := (w0.heap.modify 0 fun
      | .cells _ t frozen => .cells #[.iface 131 (.pointer (some ⟨lowE, 0, none⟩))] t frozen
      | o => o) }
theorem laid_met (os : Os) (args : Array Value) : laidMet Tryd.prog laidE ((laidWorld os).forCall (fun _ _ => 0) ⟨#[], args, []⟩).memory :=
  laidMet_of_run (ps := [.cell 0 0, .cell lowE 0]) 8 (by kernel_rfl) (by kernel_rfl) (by kernel_rfl)
end Go.Proofs.YtgcaemhcdpddiaaDoor
