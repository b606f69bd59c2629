/- The program's sectors: bytes as an array. -/
import Derived.Test.YtbgpkajgnappiaaDkY
import Derived.Deep.WholeRow
namespace Go.Proofs.Ytbgpkajgnappiaa
open Go.RowKit

/-- A sector's bytes, as a value. -/
def secA (ds : List Int) : Array Value := (ds.map (Value.int .u8)).toArray
theorem secA_size {ds : List Int} : (secA ds).size = ds.length := by simp [secA]
theorem infoSec : (Try.prog.info? 45).map (·.size) = some 64 := by kernel_rfl
theorem infoU8 : (Try.prog.info? 5).map (·.size) = some 1 := by kernel_rfl

/-- Noughts. -/
def nil64 : Array Value := (List.replicate 64 (Value.int .u8 0)).toArray
theorem nil64_size : nil64.size = 64 := rfl
theorem lit64 : (#[.int .u8 0, .int .u8 0, .int .u8 0, .int .u8 0, .int .u8 0, .int .u8 0, .int .u8 0, .int .u8 0, .int .u8 0, .int .u8 0, .int .u8 0, .int .u8 0, .int .u8 0, .int .u8 0, .int .u8 0, .int .u8 0, .int .u8 0, .int .u8 0, .int .u8 0, .int .u8 0, .int .u8 0, .int .u8 0, .int .u8 0, .int .u8 0, .int .u8 0, .int .u8 0, .int .u8 0, .int .u8 0, .int .u8 0, .int .u8 0, .int .u8 0, .int .u8 0, .int .u8 0, .int .u8 0, .int .u8 0, .int .u8 0, .int .u8 0, .int .u8 0, .int .u8 0, .int .u8 0, .int .u8 0, .int .u8 0, .int .u8 0, .int .u8 0, .int .u8 0, .int .u8 0, .int .u8 0, .int .u8 0, .int .u8 0, .int .u8 0, .int .u8 0, .int .u8 0, .int .u8 0, .int .u8 0, .int .u8 0, .int .u8 0, .int .u8 0, .int .u8 0, .int .u8 0, .int .u8 0, .int .u8 0, .int .u8 0, .int .u8 0, .int .u8 0] : Array Value) = nil64 := rfl

end Go.Proofs.Ytbgpkajgnappiaa
