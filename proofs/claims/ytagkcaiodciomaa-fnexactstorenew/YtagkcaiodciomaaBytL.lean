/- The laws' helpers on bytes: their sizes, their copies; bytes that lie in memory. -/
import Derived.Test.YtagkcaiodciomaaRowBy
import Derived.BigRegion
namespace Go.Proofs.Ytagkcaiodciomaa
open Go.RowKit

/-- Bytes that lie in memory, one behind the other. -/
structure SeesB (w : World) (a : Option Addr) (cap : Nat) (bs : List Int) : Prop where
  fits : bs.length ≤ cap
  max : cap ≤ maxLen
  cells : bs ≠ [] → ∃ b off, a = some ⟨b, off, none⟩ ∧ ∀ i, i < bs.length → w.cell? ⟨b, off + i, none⟩ = some (.int .u8 (bs[i]?.getD 0))
theorem SeesB.below {w w' : World} {a : Option Addr} {cap : Nat} {bs : List Int} (h : SeesB w a cap bs) (hb : Below w.heap.size w w') : SeesB w' a cap bs :=
  ⟨h.fits, h.max, fun hn => by
    obtain ⟨b, off, ha, hc⟩ := h.cells hn
    exact ⟨b, off, ha, fun i hi => bat hb (hc i hi)⟩⟩
theorem RowB.seesB {base : Nat} {w : World} {a : Option Addr} {cap : Nat} {bs : List Int} (h : RowB base w (.slice a bs.length cap) bs) : SeesB w a cap bs := by
  obtain ⟨hf, hm⟩ := h.caps
  refine ⟨hf, hm, fun hn => ?_⟩
  have hp : 0 < bs.length := List.length_pos_iff.2 hn
  obtain ⟨q, rfl, _, _⟩ := h.at2 hp
  exact ⟨q, 0, rfl, fun i hi => by rw [Nat.zero_add]; exact h.at' hi⟩
theorem SeesB.newsB {w : World} {b off cap : Nat} {bs : List Int} (h : SeesB w (some ⟨b, off, none⟩) cap bs) : ∀ j u, (bs.map (Value.int .u8))[j]? = some u → w.cell? ((⟨b, off, none⟩ : Addr).add j) = some u := by
  intro j u hj
  have hl : j < bs.length := by have := (List.getElem?_eq_some_iff.1 hj).1; simpa using this
  obtain ⟨b', off', e, hc⟩ := h.cells (by intro e; rw [e] at hl; simp at hl)
  simp only [Option.some.injEq, Addr.mk.injEq, and_true] at e
  obtain ⟨rfl, rfl⟩ := e
  rw [Addr.add_lit, hc j hl]
  rw [List.getElem?_map, List.getElem?_eq_getElem hl] at hj
  rw [List.getElem?_eq_getElem hl]
  simpa using hj

end Go.Proofs.Ytagkcaiodciomaa
