/- A node put to work, of the program: slices.Clone of pointers, (*Node).atWork. -/
import Derived.Test.YthompofbdjdloaaGreatTrH
import Derived.Test.YthompofbdjdloaaGreatTrB
import Derived.Lib.SliceRun
namespace Go.Proofs.YthompofbdjdloaaGreat
open Go.RowKit

theorem infoWp : (Tryz.prog.info? 65).map (fun i => (i.zero, i.size, i.bytes)) = some (some (.pointer none), 1, 8) := by kernel_rfl
theorem infoIt : (Tryz.prog.info? 109).map (fun i => (i.zero, i.size, i.bytes)) = some (some (.agg #[.int .i64 0, .int .i64 0, .int .i64 0, .int .i64 0, .int .i64 0]), 5, 40) := by kernel_rfl
/-- Pointers in a row of a call's own. -/
def RowWp (base : Nat) (w : World) (v : Value) (qs : List Ptr) : Prop := w.ownsRow base 65 1 v qs.length (qs.map ptV)
theorem RowWp.nil (base : Nat) (w : World) : RowWp base w (.slice none 0 0) [] := ⟨rfl, .inl ⟨rfl, rfl⟩⟩
theorem RowWp.snoc {base : Nat} {w : World} {v : Value} {qs : List Ptr} {q : Ptr} (h : w.ownsRow base 65 1 v (qs.length + 1) (qs.map ptV ++ [q].map ptV)) : RowWp base w v (qs ++ [q]) := by
  unfold RowWp
  rw [List.map_append, List.length_append]
  exact h
theorem RowWp.below {base : Nat} {w w' : World} {v : Value} {qs : List Ptr} (h : RowWp base w v qs) (hb : Below w.heap.size w w') : RowWp base w' v qs := owns_below h hb
theorem RowWp.sees {base : Nat} {w : World} {v : Value} {qs : List Ptr} (h : RowWp base w v qs) : ∃ a cap, v = .slice a qs.length cap ∧ SeesTp w a cap qs ∧ From base qs.length a := by
  rcases h.2 with ⟨hv, h0⟩ | ⟨g, cap', cur, hv, hb, hh, hf, hm, hs, ht⟩
  · exact ⟨none, 0, by rw [hv, h0], ⟨by omega, by simp [maxLen], fun hn => absurd (List.eq_nil_of_length_eq_zero h0) hn⟩, fun b off e => by cases e⟩
  · refine ⟨_, cap', hv, ⟨hf, hm, fun _ => ⟨g, 0, rfl, fun i hi => ?_⟩⟩, fun b off e _ => by injection e with e; injection e with e; omega⟩
    have hk : (qs.map ptV)[i]? = some (ptV (ptAt qs i)) := by
      rw [List.getElem?_map, List.getElem?_eq_getElem hi]
      unfold ptAt
      rw [List.getElem?_eq_getElem hi]
      rfl
    rw [← ht] at hk
    rw [List.getElem?_take_of_lt (by omega)] at hk
    rw [Nat.zero_add]
    exact (cell_of_row w g i _ _ _ hh).trans (by simpa using hk)
theorem RowWp.two {base : Nat} {w : World} {v : Value} {qs : List Ptr} (h : RowWp base w v qs) : (v = .slice none 0 0 ∧ qs = []) ∨ ∃ g cap, v = .slice (some ⟨g, 0, none⟩) qs.length cap ∧ (∀ j u, (qs.map ptV)[j]? = some u → w.cell? ((⟨g, 0, none⟩ : Addr).add j) = some u) ∧ base ≤ g := by
  rcases h.2 with ⟨hv, h0⟩ | ⟨g, cap', cur, hv, hb, hh, hf, hm, hs, ht⟩
  · exact .inl ⟨hv, List.eq_nil_of_length_eq_zero h0⟩
  · refine .inr ⟨g, cap', hv, fun j u hu => ?_, hb⟩
    have hj : j < qs.length := by have := (List.getElem?_eq_some_iff.mp hu).1; simpa using this
    rw [← ht, List.getElem?_take_of_lt (by omega)] at hu
    rw [Addr.add_lit, Nat.zero_add]
    exact (cell_of_row w g j _ _ _ hh).trans (by simpa using hu)
theorem RowWp.snocs {base : Nat} {w : World} {v : Value} {qs rs : List Ptr} (h : w.ownsRow base 65 1 v (qs.length + rs.length) (qs.map ptV ++ rs.map ptV)) : RowWp base w v (qs ++ rs) := by
  unfold RowWp
  rw [List.map_append, List.length_append]
  exact h
theorem RowWp.empty (w : World) {base : Nat} (h : base ≤ w.heap.size) : RowWp base (w.alloc (.cells #[] 65)) (.slice (some ⟨w.heap.size, 0, none⟩) 0 0) [] :=
  ⟨rfl, .inr ⟨w.heap.size, 0, #[], rfl, h, heap_alloc_new _ _, Nat.le_refl _, by simp [maxLen], rfl, rfl⟩⟩
theorem SeesTp.news {w : World} {b o c : Nat} {qs : List Ptr} (h : SeesTp w (some ⟨b, o, none⟩) c qs) : ∀ j u, (qs.map ptV)[j]? = some u → w.cell? ((⟨b, o, none⟩ : Addr).add j) = some u := by
  intro j u hu
  have hj : j < qs.length := by have := (List.getElem?_eq_some_iff.mp hu).1; simpa using this
  obtain ⟨b', o', ea, hc⟩ := h.cells (by intro e; rw [e] at hj; simp at hj)
  injection ea with ea
  injection ea with e1 e2
  subst e1 e2
  rw [Addr.add_lit]
  refine (hc j hj).trans ?_
  rw [List.getElem?_map, List.getElem?_eq_getElem hj] at hu
  unfold ptAt
  rw [List.getElem?_eq_getElem hj]
  simpa using hu

/-- An item's cells. -/
abbrev It := Bx × Int
def itC (xs : List It) : List Value := xs.flatMap fun x => [.int .i64 x.1.1, .int .i64 x.1.2.1, .int .i64 x.1.2.2.1, .int .i64 x.1.2.2.2, .int .i64 x.2]
theorem itC_append (ps qs : List It) : itC (ps ++ qs) = itC ps ++ itC qs := by simp [itC]
def itAt (xs : List It) (i : Nat) : It := xs[i]?.getD ((0, 0, 0, 0), 0)
theorem itC_at : ∀ (xs : List It) (j : Nat), j < xs.length → (itC xs)[j * 5]? = some (.int .i64 (itAt xs j).1.1) ∧ (itC xs)[j * 5 + 1]? = some (.int .i64 (itAt xs j).1.2.1) ∧ (itC xs)[j * 5 + 2]? = some (.int .i64 (itAt xs j).1.2.2.1) ∧ (itC xs)[j * 5 + 3]? = some (.int .i64 (itAt xs j).1.2.2.2) ∧ (itC xs)[j * 5 + 4]? = some (.int .i64 (itAt xs j).2)
  | [], j, h => absurd h (by simp)
  | p :: r, 0, _ => ⟨rfl, rfl, rfl, rfl, rfl⟩
  | p :: r, j + 1, h => by
    have ih := itC_at r j (by simpa using h)
    have e : itC (p :: r) = [.int .i64 p.1.1, .int .i64 p.1.2.1, .int .i64 p.1.2.2.1, .int .i64 p.1.2.2.2, .int .i64 p.2] ++ itC r := rfl
    have eb : itAt (p :: r) (j + 1) = itAt r j := rfl
    rw [e, eb, show (j + 1) * 5 = 5 + j * 5 by omega, show 5 + j * 5 + 1 = 5 + (j * 5 + 1) by omega, show 5 + j * 5 + 2 = 5 + (j * 5 + 2) by omega, show 5 + j * 5 + 3 = 5 + (j * 5 + 3) by omega, show 5 + j * 5 + 4 = 5 + (j * 5 + 4) by omega, List.getElem?_append_right (by simp), List.getElem?_append_right (by simp), List.getElem?_append_right (by simp), List.getElem?_append_right (by simp), List.getElem?_append_right (by simp)]
    simpa using ih
theorem itC_ones (xs : List It) : ∀ u ∈ itC xs, u.oneCell' = true := by
  intro u hu
  simp only [itC, List.mem_flatMap] at hu
  obtain ⟨p, _, h⟩ := hu
  simp only [List.mem_cons, List.not_mem_nil, or_false] at h
  rcases h with rfl | rfl | rfl | rfl | rfl <;> rfl
/-- Items in a row of a call's own. -/
def RowIt (base : Nat) (w : World) (v : Value) (xs : List It) : Prop := w.ownsRow base 109 5 v xs.length (itC xs)
theorem RowIt.nil (base : Nat) (w : World) : RowIt base w (.slice none 0 0) [] := ⟨rfl, .inl ⟨rfl, rfl⟩⟩
theorem RowIt.snoc {base : Nat} {w : World} {v : Value} {xs : List It} {x : It} (h : w.ownsRow base 109 5 v (xs.length + 1) (itC xs ++ itC [x])) : RowIt base w v (xs ++ [x]) := by
  unfold RowIt
  rw [itC_append, List.length_append]
  exact h
theorem RowIt.sees {base : Nat} {w : World} {v : Value} {xs : List It} (h : RowIt base w v xs) : ∃ a cap, v = .slice a xs.length cap ∧ SeesIt w a cap (xs.map Prod.fst) (xs.map Prod.snd) ∧ From base xs.length a := by
  rcases h.2 with ⟨hv, h0⟩ | ⟨q, cap', cur, hv, hb, hh, hf, hm, hs, ht⟩
  · exact ⟨none, 0, by rw [hv, h0], ⟨by simp, by simp; exact List.eq_nil_of_length_eq_zero h0, by simp [maxLen], fun hn => absurd (by rw [List.eq_nil_of_length_eq_zero h0]; rfl) hn⟩, fun b off e => by cases e⟩
  · refine ⟨_, cap', hv, ⟨by simp, by simpa using hf, hm, fun _ => ⟨q, 0, rfl, fun i hi => ?_⟩⟩, fun b off e _ => by injection e with e; injection e with e; omega⟩
    rw [List.length_map] at hi
    have c : ∀ k u, (itC xs)[k]? = some u → w.cell? ⟨q, 0 + k, none⟩ = some u := by
      intro k u hk
      rw [← ht] at hk
      have hk2 : k < xs.length * 5 := by
        have := (List.getElem?_eq_some_iff.mp hk).1
        rw [List.length_take] at this
        omega
      rw [List.getElem?_take_of_lt hk2] at hk
      rw [Nat.zero_add]
      exact (cell_of_row w q k _ _ _ hh).trans (by simpa using hk)
    obtain ⟨c1, c2, c3, c4, c5⟩ := itC_at xs i hi
    have e1 : bxAt (xs.map Prod.fst) i = (itAt xs i).1 := by unfold bxAt itAt; rw [List.getElem?_map]; cases xs[i]? <;> rfl
    have e2 : (xs.map Prod.snd)[i]?.getD 0 = (itAt xs i).2 := by unfold itAt; rw [List.getElem?_map]; cases xs[i]? <;> rfl
    rw [e1, e2]
    refine ⟨⟨c _ _ c1, ?_, ?_, ?_⟩, ?_⟩
    · have := c _ _ c2; rwa [← Nat.add_assoc] at this
    · have := c _ _ c3; rwa [← Nat.add_assoc] at this
    · have := c _ _ c4; rwa [← Nat.add_assoc] at this
    · have := c _ _ c5; rwa [← Nat.add_assoc] at this
theorem it_new (w : World) (e : TypeId) (x y u v n : Int) : ∀ j z, (itC [((x, y, u, v), n)])[j]? = some z → (w.alloc (.cells #[.int .i64 x, .int .i64 y, .int .i64 u, .int .i64 v, .int .i64 n] e)).cell? ((⟨w.heap.size, 0, none⟩ : Addr).add j) = some z := by
  intro j z hz
  rcases j with _ | _ | _ | _ | _ | j
  · simp [itC] at hz; subst hz; exact cell_new w #[.int .i64 x, .int .i64 y, .int .i64 u, .int .i64 v, .int .i64 n] e 0 rfl
  · simp [itC] at hz; subst hz; exact cell_new w #[.int .i64 x, .int .i64 y, .int .i64 u, .int .i64 v, .int .i64 n] e 1 rfl
  · simp [itC] at hz; subst hz; exact cell_new w #[.int .i64 x, .int .i64 y, .int .i64 u, .int .i64 v, .int .i64 n] e 2 rfl
  · simp [itC] at hz; subst hz; exact cell_new w #[.int .i64 x, .int .i64 y, .int .i64 u, .int .i64 v, .int .i64 n] e 3 rfl
  · simp [itC] at hz; subst hz; exact cell_new w #[.int .i64 x, .int .i64 y, .int .i64 u, .int .i64 v, .int .i64 n] e 4 rfl
  · simp [itC] at hz

end Go.Proofs.YthompofbdjdloaaGreat
