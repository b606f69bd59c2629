/- Rows of pointers to nodes; a node's kids, of the program ((*Node).kidsOf). -/
import Derived.Test.YthompofbdjdloaaGreatTrL
import Derived.Test.YthompofbdjdloaaGreatOwns
import Derived.Laws.AppendOwnNone
namespace Go.Proofs.YthompofbdjdloaaGreat
open Go.RowKit

/-- Where a pointer points to. -/
abbrev Ptr := Nat × Nat
def ptV (q : Ptr) : Value := .pointer (some ⟨q.1, q.2, none⟩)
def ptAt (qs : List Ptr) (i : Nat) : Ptr := qs[i]?.getD (0, 0)
theorem infoTp : (Tryz.prog.info? 102).map (fun i => (i.zero, i.size, i.bytes)) = some (some (.pointer none), 1, 8) := by kernel_rfl
/-- Pointers in a row of a call's own. -/
def RowTp (base : Nat) (w : World) (v : Value) (qs : List Ptr) : Prop := w.ownsRow base 102 1 v qs.length (qs.map ptV)
theorem onesTp (qs : List Ptr) : ∀ u ∈ qs.map ptV, u.oneCell' = true := by
  intro u hu
  obtain ⟨y, _, rfl⟩ := List.mem_map.1 hu
  rfl
theorem one_newTp (w : World) (e : TypeId) (b o : Nat) : ∀ j u, ([((b, o) : Ptr)].map ptV)[j]? = some u → (w.alloc (.cells #[.pointer (some ⟨b, o, none⟩)] e)).cell? ((⟨w.heap.size, 0, none⟩ : Addr).add j) = some u := by
  intro j u hu
  cases j with
  | zero =>
    simp [ptV] at hu
    subst hu
    exact cell_new w #[.pointer (some ⟨b, o, none⟩)] e 0 rfl
  | succ j => simp at hu
theorem RowTp.nil (base : Nat) (w : World) : RowTp base w (.slice none 0 0) [] := ⟨rfl, .inl ⟨rfl, rfl⟩⟩
theorem RowTp.snoc {base : Nat} {w : World} {v : Value} {qs : List Ptr} {q : Ptr} (h : w.ownsRow base 102 1 v (qs.length + 1) (qs.map ptV ++ [q].map ptV)) : RowTp base w v (qs ++ [q]) := by
  unfold RowTp
  rw [List.map_append, List.length_append]
  exact h
theorem RowTp.below {base : Nat} {w w' : World} {v : Value} {qs : List Ptr} (h : RowTp base w v qs) (hb : Below w.heap.size w w') : RowTp base w' v qs := owns_below h hb
/-- Pointers that lie in memory, one behind the other. -/
structure SeesTp (w : World) (a : Option Addr) (cap : Nat) (qs : List Ptr) : Prop where
  fits : qs.length ≤ cap
  max : cap ≤ maxLen
  cells : qs ≠ [] → ∃ b off, a = some ⟨b, off, none⟩ ∧ ∀ i, i < qs.length → w.cell? ⟨b, off + i, none⟩ = some (ptV (ptAt qs i))
theorem SeesTp.below {w w' : World} {a : Option Addr} {cap : Nat} {qs : List Ptr} (h : SeesTp w a cap qs) (hb : Below w.heap.size w w') : SeesTp w' a cap qs :=
  ⟨h.fits, h.max, fun hn => by
    obtain ⟨b, off, ha, hc⟩ := h.cells hn
    exact ⟨b, off, ha, fun i hi => bat hb (hc i hi)⟩⟩
theorem RowTp.sees {base : Nat} {w : World} {v : Value} {qs : List Ptr} (h : RowTp base w v qs) : ∃ a cap, v = .slice a qs.length cap ∧ SeesTp w a cap qs ∧ From base qs.length a := by
  rcases h.2 with ⟨hv, h0⟩ | ⟨g, cap', cur, hv, hb, hh, hf, hm, hs, ht⟩
  · exact ⟨none, 0, by rw [hv, h0], ⟨by omega, by simp [maxLen], fun hn => absurd (List.eq_nil_of_length_eq_zero h0) hn⟩, fun b off e => by cases e⟩
  · refine ⟨_, cap', hv, ⟨hf, hm, fun _ => ⟨g, 0, rfl, fun i hi => ?_⟩⟩, fun b off e _ => by injection e with e; injection e with e; omega⟩
    have hk : (qs.map ptV)[i]? = some (ptV (ptAt qs i)) := by
      rw [List.getElem?_map, List.getElem?_eq_getElem hi]
      unfold ptAt
      rw [List.getElem?_eq_getElem hi]
      rfl
    rw [← ht] at hk
    rw [List.getElem?_take_of_lt (by omega)] at hk
    rw [Nat.zero_add]
    exact (cell_of_row w g i _ _ _ hh).trans (by simpa using hk)
/-- There is the tree, its rows from a block on. -/
def NdPt (w : World) (q : Ptr) (lo : Nat) (t : Nd) : Prop := Plain w q.1 ∧ ∃ v1 v2 v3, Sev w q.1 q.2 t.b v1 v2 v3 ∧ NdUp w lo t v1 v2 v3
/-- The pointers point to a tree's kids. -/
def KidsAt (w : World) (lo : Nat) (qs : List Ptr) (ks : List Nd) : Prop := qs.length = ks.length ∧ ∀ i, i < ks.length → lo ≤ (ptAt qs i).1 ∧ NdPt w (ptAt qs i) ((ptAt qs i).1 + 1) (ndA ks i)
theorem ptAt_snoc (qs : List Ptr) (q : Ptr) (i : Nat) : ptAt (qs ++ [q]) i = if i = qs.length then q else ptAt qs i := by
  unfold ptAt
  by_cases h : i = qs.length
  · subst h; simp
  · rw [if_neg h]
    rcases Nat.lt_or_ge i qs.length with c | c
    · rw [List.getElem?_append_left c]
    · rw [List.getElem?_append_right c, List.getElem?_eq_none (l := qs) c]
      rw [List.getElem?_eq_none (by simp; omega)]

end Go.Proofs.YthompofbdjdloaaGreat
