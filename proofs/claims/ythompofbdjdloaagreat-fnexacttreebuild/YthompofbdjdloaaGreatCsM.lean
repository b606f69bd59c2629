/- Places that are sorted by their keys, of several with the same key the least first: there is one such list. No program is named here. -/
import Derived.WalkKit
namespace Go.Proofs.YthompofbdjdloaaGreat

/-- a comes ahead of b. -/
def csLt (kf : Nat → Int) (a b : Nat) : Prop := kf a < kf b ∨ (kf a = kf b ∧ a < b)
/-- All places below n, sorted. -/
def Srt (kf : Nat → Int) (n : Nat) (l : List Nat) : Prop := l.Perm (List.range n) ∧ l.Pairwise (csLt kf)
theorem csLt_asymm {kf : Nat → Int} {a b : Nat} (h : csLt kf a b) (k : csLt kf b a) : False := by
  unfold csLt at *
  omega
theorem srt_one {kf : Nat → Int} : ∀ {l l' : List Nat}, l.Perm l' → l.Pairwise (csLt kf) → l'.Pairwise (csLt kf) → l = l'
  | [], l', p, _, _ => by
    have := p.length_eq
    cases l' with
    | nil => rfl
    | cons b r => simp at this
  | a :: l, [], p, _, _ => by have := p.length_eq; simp at this
  | a :: l, b :: l', p, h, k => by
    rw [List.pairwise_cons] at h k
    have e : a = b := by
      have ha : a ∈ b :: l' := p.mem_iff.1 List.mem_cons_self
      have hb : b ∈ a :: l := p.mem_iff.2 List.mem_cons_self
      rcases List.mem_cons.1 ha with e | e
      · exact e
      · rcases List.mem_cons.1 hb with e' | e'
        · exact e'.symm
        · exact (csLt_asymm (k.1 a e) (h.1 b e')).elim
    subst e
    rw [srt_one ((List.perm_cons a).1 p) h.2 k.2]
theorem Srt.one {kf : Nat → Int} {n : Nat} {l l' : List Nat} (h : Srt kf n l) (k : Srt kf n l') : l = l' := srt_one (h.1.trans k.1.symm) h.2 k.2
theorem Srt.nil (kf : Nat → Int) : Srt kf 0 [] := ⟨by simp, List.Pairwise.nil⟩
theorem Srt.len {kf : Nat → Int} {n : Nat} {l : List Nat} (h : Srt kf n l) : l.length = n := by rw [h.1.length_eq, List.length_range]
theorem Srt.lt {kf : Nat → Int} {n : Nat} {l : List Nat} (h : Srt kf n l) {a : Nat} (ha : a ∈ l) : a < n := by
  have := h.1.mem_iff.1 ha
  simpa using this
/-- One place more is put where it belongs. -/
theorem Srt.ins {kf : Nat → Int} {n k : Nat} {l : List Nat} (h : Srt kf n l) (hd : ∀ a ∈ l.drop k, kf n < kf a) (ht : ∀ a ∈ l.take k, kf a ≤ kf n) : Srt kf (n + 1) (l.take k ++ n :: l.drop k) := by
  refine ⟨?_, ?_⟩
  · rw [List.range_succ]
    have p1 : (l.take k ++ n :: l.drop k).Perm (n :: (l.take k ++ l.drop k)) := List.perm_middle
    rw [List.take_append_drop] at p1
    exact p1.trans ((List.Perm.cons n h.1).trans (List.perm_append_singleton n (List.range n)).symm)
  · have hp := h.2
    rw [← List.take_append_drop k l, List.pairwise_append] at hp
    rw [List.pairwise_append, List.pairwise_cons]
    refine ⟨hp.1, ⟨fun a ha => .inl (hd a ha), hp.2.1⟩, fun a ha b hb => ?_⟩
    rcases List.mem_cons.1 hb with rfl | hb
    · have h1 := ht a ha
      have h2 := h.lt (List.mem_of_mem_take ha)
      unfold csLt
      omega
    · exact hp.2.2 a ha b hb
/-- Where the one ahead is not greater, none ahead is. -/
theorem Srt.le {kf : Nat → Int} {n k : Nat} {l : List Nat} (h : Srt kf n l) (hk : k < l.length) {x : Int} (hx : kf (l[k]?.getD 0) ≤ x) : ∀ a ∈ l.take (k + 1), kf a ≤ x := by
  intro a ha
  have hp := h.2
  rw [List.getElem?_eq_getElem hk, Option.getD_some] at hx
  rw [List.take_add_one, List.getElem?_eq_getElem hk] at ha
  rcases List.mem_append.1 ha with ha | ha
  · obtain ⟨i, hi, rfl⟩ := List.getElem_of_mem ha
    have hik : i < k := by simp at hi; omega
    rw [List.getElem_take]
    have := List.pairwise_iff_getElem.1 hp i k (by omega) hk hik
    unfold csLt at this
    omega
  · simp at ha
    subst ha
    exact hx
theorem drop_gt {kf : Nat → Int} {k : Nat} {l : List Nat} {x : Int} (hk : k < l.length) (hd : ∀ a ∈ l.drop (k + 1), x < kf a) (hx : x < kf (l[k]?.getD 0)) : ∀ a ∈ l.drop k, x < kf a := by
  intro a ha
  rw [List.drop_eq_getElem_cons hk] at ha
  rw [List.getElem?_eq_getElem hk, Option.getD_some] at hx
  rcases List.mem_cons.1 ha with rfl | ha
  · exact hx
  · exact hd a ha
/-- A row with a hole at k, written over. -/
def hole (l : List Nat) (k x : Nat) : List Nat := l.take k ++ x :: l.drop k
theorem hole_len (l : List Nat) (k x : Nat) : (hole l k x).length = l.length + 1 := by
  have := congrArg List.length (List.take_append_drop k l)
  simp only [hole, List.length_append, List.length_cons] at *
  omega
theorem hole_end (l : List Nat) (x : Nat) : hole l l.length x = l ++ [x] := by simp [hole]
theorem hole_set {l : List Nat} {k x y : Nat} (hk : k ≤ l.length) : (hole l k x).set k y = hole l k y := by
  unfold hole
  rw [List.set_append_right _ _ (by simp; omega)]
  simp [Nat.min_eq_left hk]
theorem hole_at {l : List Nat} {k x i : Nat} (hi : i < k) (hk : k ≤ l.length) : (hole l k x)[i]?.getD 0 = l[i]?.getD 0 := by
  unfold hole
  rw [List.getElem?_append_left (by simp; omega), List.getElem?_take_of_lt hi]
theorem hole_down {l : List Nat} {k x : Nat} (hk : k < l.length) : (hole l (k + 1) x).set (k + 1) (l[k]?.getD 0) = hole l k (l[k]?.getD 0) := by
  rw [hole_set (by omega)]
  unfold hole
  have e : l.take (k + 1) = l.take k ++ [l[k]] := List.take_succ_eq_append_getElem hk
  have d : l.drop k = l[k] :: l.drop (k + 1) := List.drop_eq_getElem_cons hk
  rw [e, d, List.getElem?_eq_getElem hk, Option.getD_some, List.append_assoc]
  rfl
end Go.Proofs.YthompofbdjdloaaGreat
