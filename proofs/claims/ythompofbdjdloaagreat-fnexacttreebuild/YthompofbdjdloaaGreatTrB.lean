/- The kids of a level's nodes, of the program (kidsOfAll over *Node). -/
import Derived.Test.YthompofbdjdloaaGreatTrA
namespace Go.Proofs.YthompofbdjdloaaGreat
open Go.RowKit

/-- The pointers point to these trees. -/
def LvAt (w0 w : World) (qs : List Ptr) (ts : List Nd) (los : Nat → Nat) : Prop := qs.length = ts.length ∧ ∀ i, i < ts.length → ∃ v1 v2 v3, Sev w (ptAt qs i).1 (ptAt qs i).2 (ndA ts i).b v1 v2 v3 ∧ NdUp w0 (los i) (ndA ts i) v1 v2 v3
theorem LvAt.below {w0 w w' : World} {qs : List Ptr} {ts : List Nd} {los : Nat → Nat} (h : LvAt w0 w qs ts los) (hb : Below w.heap.size w w') : LvAt w0 w' qs ts los := ⟨h.1, fun i hi => by
  obtain ⟨v1, v2, v3, S, N⟩ := h.2 i hi
  exact ⟨v1, v2, v3, S.below hb, N⟩⟩
/-- All of a level lie below; each tree's rows lie above its own block. -/
def PtsAt (w0 : World) (qs : List Ptr) (ts : List Nd) : Prop := qs.length = ts.length ∧ ∀ i, i < ts.length → NdPt w0 (ptAt qs i) ((ptAt qs i).1 + 1) (ndA ts i)
theorem PtsAt.lv {w0 w : World} {qs : List Ptr} {ts : List Nd} (h : PtsAt w0 qs ts) (hb : Below w0.heap.size w0 w) : LvAt w0 w qs ts (fun i => (ptAt qs i).1 + 1) := ⟨h.1, fun i hi => by
  obtain ⟨_, v1, v2, v3, S, N⟩ := h.2 i hi
  exact ⟨v1, v2, v3, S.below hb, N⟩⟩
theorem ptAt_append (qs rs : List Ptr) (i : Nat) : ptAt (qs ++ rs) i = if i < qs.length then ptAt qs i else ptAt rs (i - qs.length) := by
  unfold ptAt
  split
  · rw [List.getElem?_append_left (by assumption)]
  · rw [List.getElem?_append_right (by omega)]
theorem ndA_append (qs rs : List Nd) (i : Nat) : ndA (qs ++ rs) i = if i < qs.length then ndA qs i else ndA rs (i - qs.length) := by
  unfold ndA
  split
  · rw [List.getElem?_append_left (by assumption)]
  · rw [List.getElem?_append_right (by omega)]
theorem PtsAt.app {w0 : World} {lo : Nat} {qs rs : List Ptr} {ts ks : List Nd} (h : PtsAt w0 qs ts) (k : KidsAt w0 lo rs ks) : PtsAt w0 (qs ++ rs) (ts ++ ks) := by
  refine ⟨by rw [List.length_append, List.length_append, h.1, k.1], fun i hi => ?_⟩
  rw [ptAt_append, ndA_append, h.1]
  by_cases c : i < ts.length
  · rw [if_pos c, if_pos c]
    exact h.2 i c
  · rw [if_neg c, if_neg c]
    rw [List.length_append] at hi
    exact (k.2 (i - ts.length) (by omega)).2
/-- The kids of the first trees; how many of them have none. -/
def kdN (ts : List Nd) : Nat → List Nd
  | 0 => []
  | j + 1 => kdN ts j ++ (ndA ts j).ks
def lfN (ts : List Nd) : Nat → Nat
  | 0 => 0
  | j + 1 => lfN ts j + (if (ndA ts j).ks.length = 0 then 1 else 0)
theorem lfN_le (ts : List Nd) : ∀ j, lfN ts j ≤ j
  | 0 => Nat.le_refl _
  | j + 1 => by
    have := lfN_le ts j
    simp only [lfN]
    split <;> omega
theorem lfN_lt (ts : List Nd) : ∀ j, 0 < (kdN ts j).length → lfN ts j < j
  | 0, h => by simp [kdN] at h
  | j + 1, h => by
    have h1 := lfN_le ts j
    simp only [lfN]
    simp only [kdN, List.length_append] at h
    split
    · have := lfN_lt ts j (by omega)
      omega
    · omega
theorem lfN_all (ts : List Nd) : ∀ j, lfN ts j = j → kdN ts j = []
  | 0, _ => rfl
  | j + 1, h => by
    rcases Nat.eq_zero_or_pos (kdN ts (j + 1)).length with c | c
    · exact List.eq_nil_of_length_eq_zero c
    · have := lfN_lt ts (j + 1) c
      omega
theorem kdN_mono (ts : List Nd) {i : Nat} : ∀ {j : Nat}, i ≤ j → (kdN ts i).length ≤ (kdN ts j).length
  | 0, h => by obtain rfl : i = 0 := by omega
               exact Nat.le_refl _
  | j + 1, h => by
    rcases Nat.lt_or_ge j i with c | c
    · obtain rfl : i = j + 1 := by omega
      exact Nat.le_refl _
    · have := kdN_mono ts (i := i) (j := j) c
      simp only [kdN, List.length_append]
      omega
/-- What kidsOfAll answers. -/
def KaRes (ts ns : List Nd) (lv : Nat) : Prop := (ns = kdN ts ts.length ∧ lv = lfN ts ts.length ∧ ns.length ≤ 600) ∨ (600 < ns.length ∧ lv < ts.length ∧ 600 < (kdN ts ts.length).length)
theorem RowTp.two {base : Nat} {w : World} {v : Value} {qs : List Ptr} (h : RowTp base w v qs) : (v = .slice none 0 0 ∧ qs = []) ∨ ∃ g cap, v = .slice (some ⟨g, 0, none⟩) qs.length cap ∧ (∀ j u, (qs.map ptV)[j]? = some u → w.cell? ((⟨g, 0, none⟩ : Addr).add j) = some u) ∧ base ≤ g := by
  rcases h.2 with ⟨hv, h0⟩ | ⟨g, cap', cur, hv, hb, hh, hf, hm, hs, ht⟩
  · exact .inl ⟨hv, List.eq_nil_of_length_eq_zero h0⟩
  · refine .inr ⟨g, cap', hv, fun j u hu => ?_, hb⟩
    have hj : j < qs.length := by have := (List.getElem?_eq_some_iff.mp hu).1; simpa using this
    rw [← ht, List.getElem?_take_of_lt (by omega)] at hu
    rw [Addr.add_lit, Nat.zero_add]
    exact (cell_of_row w g j _ _ _ hh).trans (by simpa using hu)
theorem RowTp.snocs {base : Nat} {w : World} {v : Value} {qs rs : List Ptr} (h : w.ownsRow base 102 1 v (qs.length + rs.length) (qs.map ptV ++ rs.map ptV)) : RowTp base w v (qs ++ rs) := by
  unfold RowTp
  rw [List.map_append, List.length_append]
  exact h

end Go.Proofs.YthompofbdjdloaaGreat
