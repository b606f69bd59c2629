/- The specification's text of a number: spec.NumText. -/
import Derived.Test.YtbgpkajgnappiaaSNum
import Derived.Test.YtbgpkajgnappiaaSMag
import Derived.Test.YtbgpkajgnappiaaEq
import Derived.Test.YtbgpkajgnappiaaBase
import Derived.Test.YtbgpkajgnappiaaOwns
import Derived.Test.YtbgpkajgnappiaaRowBy
import Derived.Laws.AppendOwnNone
import Derived.Laws.IdiomStrings
import Derived.Deep.LoopGhost
namespace Go.Proofs.Ytbgpkajgnappiaa
open Go.RowKit

theorem field_magT (w : World) (g : Bool) (a : Option Addr) (n c : Nat) : Sem.run Try.prog (Instr.field 60 (Value.agg #[Value.bool g, Value.slice a n c]) 1) w = .ok (.slice a n c) w := by kernel_rfl


theorem okB_of {g : Bool} {xs : List Int} (h : tkL g xs ≠ []) : tkG g xs = g ∧ tkL g xs = xs := by
  unfold tkL at h ⊢
  unfold tkG
  by_cases k : okB g xs = true
  · rw [if_pos k, k]; simp
  · rw [if_neg k] at h; exact absurd rfl h

theorem Sees.allNews {w : World} {b off c : Nat} {xs : List Int} (h : Sees w (some ⟨b, off, none⟩) c xs) : ∀ j u, (xs.map (Value.int .u32))[j]? = some u → w.cell? ((⟨b, off, none⟩ : Addr).add j) = some u := by
  have := h.toCame.news (Nat.le_refl xs.length)
  rwa [List.take_length] at this

theorem ret_str {a b : ByteArray} (h : a = b) : Ending.returned (.string a) = .returned (.string b) := by rw [h]
theorem RowB.string {base q cap : Nat} {w : World} {ds : List Int} (h : RowB base w (.slice (some ⟨q, 0, none⟩) ds.length cap) ds) (hd : ∀ x ∈ ds, 0 ≤ x ∧ x < 256) :
    (convert 24 9 (.slice (some ⟨q, 0, none⟩) ds.length cap)).run Try.prog w = .ok (.string (strB ds)) w := by
  have := run_convert_bytes_back (P := Try.prog) w 24 9 5 ⟨q, 0, none⟩ cap (ds.map (fun x => UInt8.ofNat x.toNat)) Try.underlying24 Try.underlying5 Try.underlying9 (fun j hj => by
    rw [List.length_map] at hj
    have e := h.at' hj
    have hb := hd ds[j] (List.getElem_mem hj)
    rw [List.getElem?_eq_getElem hj] at e
    simp only [Option.getD_some] at e
    have ea : (⟨q, 0, none⟩ : Addr).add j = ⟨q, j, none⟩ := by simp [Addr.add]; intro h; exact h.symm
    rw [ea, e, List.getElem_map]
    congr 2
    simp only [UInt8.toNat_ofNat']
    omega)
  rwa [List.length_map] at this

end Go.Proofs.Ytbgpkajgnappiaa
