/- A region that draws its order, with a load of what the region itself writes at last: a condition that holds until one of its operations is done, and one that holds throughout. -/
import Derived.Test.YthompofbdjdloaaGreatHeld
namespace Go.Proofs.YthompofbdjdloaaGreat
open Go

section
variable {P : Program} {ops : Array Oper} {Q : Exit → Act → World → Prop} {md : Region.Mode} {m : Nat} {L T : World → Prop}

/-- T holds, and L as long as m is not done. -/
def SM (m : Nat) (L T : World → Prop) (listed : Array Bool) (w : World) : Prop := T w ∧ (listed.getD m true = true ∨ L w)
def wpAnyM (P : Program) (md : Region.Mode) (ops : Array Oper) (Q : Exit → Act → World → Prop) (m : Nat) (L T : World → Prop) : Nat → Array Bool → Act → World → Prop
  | 0, listed, a, w => Region.ready md ops listed = [] ∧ Q .normal a w
  | fuel + 1, listed, a, w =>
    (Region.ready md ops listed = [] → Q .normal a w) ∧
    ∀ i ∈ Region.ready md ops listed, wpOp P ops Q i (fun a' w' => SM m L T (listed.setIfInBounds i true) w' ∧ wpAnyM P md ops Q m L T fuel (listed.setIfInBounds i true) a' w') a w
theorem wpAny_ofM : ∀ (fuel : Nat) (listed : Array Bool) (a : Act) (w : World), wpAnyM P md ops Q m L T fuel listed a w → wpAny P md ops Q fuel listed a w
  | 0, _, _, _, h => h
  | fuel + 1, _, _, _, h => ⟨h.1, fun i hi => wpOp_mono (fun a' w' h' => wpAny_ofM fuel _ a' w' h'.2) (h.2 i hi)⟩
/-- m waits for i. -/
def waitsOn (md : Region.Mode) (ops : Array Oper) (m i : Nat) : Bool := match ops[m]? with
  | some om => om.after.any (fun e => Region.binds md e && e.on == i)
  | none => false
theorem waitsOn_spec {m i : Nat} (h : waitsOn md ops m i = true) : ∃ om, ops[m]? = some om ∧ ∃ e ∈ om.after, Region.binds md e = true ∧ e.on = i := by
  unfold waitsOn at h
  split at h
  · rename_i om ho
    rw [Array.any_eq_true'] at h
    obtain ⟨e, he, hh⟩ := h
    rw [Bool.and_eq_true] at hh
    exact ⟨om, ho, e, he, hh.1, by simpa using hh.2⟩
  · cases h
theorem wpAnyM_first {i : Nat} {oi : Oper} {v : Value} {C : World → Prop} (hi : ops[i]? = some oi) (hsel : ∀ (j : Nat) (o : Oper) cs b, ops[j]? = some o → o.op ≠ .select cs b)
    (hQ : ∀ c a w, Q (.panic c) (a.put oi.dst v) w → Q (.panic c) a w) (hmi : m ≠ i)
    (hC : (∀ w, T w → C w) ∨ ((∀ w, T w → L w → C w) ∧ ∃ om, ops[m]? = some om ∧ ∃ e ∈ om.after, Region.binds md e = true ∧ e.on = i)) :
    ∀ (fuel : Nat) (listed : Array Bool) (a : Act) (w : World),
      (∀ j oj, ops[j]? = some oj → j ≠ i → listed.getD j true = false → (∀ e ∈ oj.after, Region.binds md e = true → e.on ≠ i) → oi.apart ops oj = true) →
      i ∈ Region.ready md ops listed → YieldsIf P ops C oi v a → SM m L T listed w → ((∀ w, T w → C w) ∨ listed.getD m true = false) →
      wpAnyM P md ops Q m L T fuel (listed.setIfInBounds i true) (a.put oi.dst v) w → wpAnyM P md ops Q m L T (fuel + 1) listed a w := by
  have setm : ∀ (l : Array Bool), SM m L T l = SM m L T (l.setIfInBounds i true) := fun l => by
    funext w
    unfold SM
    rw [getD_set_ne true (Ne.symm hmi)]
  have cw : ∀ (l : Array Bool) w, SM m L T l w → ((∀ w, T w → C w) ∨ l.getD m true = false) → C w := fun l w hS hl => by
    rcases hC with h | ⟨h, _⟩
    · exact h w hS.1
    · rcases hl with c | c
      · exact c w hS.1
      · rcases hS.2 with d | d
        · rw [c] at d; cases d
        · exact h w hS.1 d
  intro fuel
  induction fuel with
  | zero =>
    intro listed a w _ hr hy hS hl H
    refine ⟨fun h => (by rw [h] at hr; cases hr), fun j hj => ?_⟩
    by_cases hji : j = i
    · subst hji; exact hy.wpOp hi (cw _ _ hS hl) ⟨by rw [← setm]; exact hS, H⟩
    · have := ready_mono hj hji
      rw [H.1] at this
      cases this
  | succ fuel ih =>
    intro listed a w hfree hr hy hS hl H
    refine ⟨fun h => (by rw [h] at hr; cases hr), fun j hj => ?_⟩
    by_cases hji : j = i
    · subst hji; exact hy.wpOp hi (cw _ _ hS hl) ⟨by rw [← setm]; exact hS, H⟩
    · have h1 := H.2 j (ready_mono hj hji)
      obtain ⟨hjun, oj, hoj, hall⟩ := mem_ready.1 hj
      have hnot : ∀ e ∈ oj.after, Region.binds md e = true → e.on ≠ i := fun e he hb heq => by
        have h1 := hall e he hb
        have h0 := (mem_ready.1 hr).1
        rw [heq] at h1
        rcases Nat.lt_or_ge i listed.size with h' | h'
        · simp [h'] at h0 h1; rw [h0] at h1; cases h1
        · simp [Array.getElem?_eq_none h'] at h1
      have h2 := wpOp_putIf hoj (hfree j oj hoj hji hjun hnot) (fun cs b => hsel i oi cs b hi) (fun cs b => hsel j oj cs b hoj) hQ hy h1
      have hfree' : ∀ k ok, ops[k]? = some ok → k ≠ i → (listed.setIfInBounds j true).getD k true = false →
          (∀ e ∈ ok.after, Region.binds md e = true → e.on ≠ i) → oi.apart ops ok = true := fun k ok hk hki hun hno => by
        refine hfree k ok hk hki ?_ hno
        by_cases hjk : j = k
        · subst hjk; exact hjun
        · rw [getD_set_ne true hjk] at hun; exact hun
      have hl' : (∀ w, T w → C w) ∨ (listed.setIfInBounds j true).getD m true = false := by
        rcases hC with h | ⟨_, om, hom, e, he, hb, ho⟩
        · exact .inl h
        · rcases hl with c | c
          · exact .inl c
          · right
            have hjm : j ≠ m := fun q => by
              subst q
              rw [hom] at hoj
              injection hoj with hoj
              rw [← hoj] at hnot
              exact hnot e he hb ho
            rw [getD_set_ne true hjm]
            exact c
      refine wpOp_mono (fun a' w' h3 => ⟨?_, ih (listed.setIfInBounds j true) a' w' hfree' (ready_mono hr (Ne.symm hji)) h3.1 ?_ hl' ?_⟩) h2
      · have q := h3.2.1
        rw [Array.setIfInBounds_comm _ _ (Ne.symm hji), ← setm] at q
        exact q
      · have q := h3.2.1
        rw [Array.setIfInBounds_comm _ _ (Ne.symm hji), ← setm] at q
        exact q
      · rw [Array.setIfInBounds_comm _ _ hji]
        exact h3.2.2
/-- Taken first: it yields its value wherever T holds. -/
theorem takeT {i : Nat} {oi : Oper} {v : Value} {fuel : Nat} {listed : Array Bool} {a : Act} {w : World} (hi : ops[i]? = some oi)
    (hs : Region.noSelect ops = true) (hf : Region.free md ops listed i = true) (hr : (Region.ready md ops listed).contains i = true)
    (hQ : ∀ c a w, Q (.panic c) (a.put oi.dst v) w → Q (.panic c) a w) (hmi : m ≠ i) (hw : Region.wanted oi (yielded ops a.tmps) = true)
    (hy : ∀ w, T w → (execOp a.eval oi).run P w = .ok (.value v) w) (hS : SM m L T listed w)
    (h : wpAnyM P md ops Q m L T fuel (listed.setIfInBounds i true) (a.put oi.dst v) w) : wpAnyM P md ops Q m L T (fuel + 1) listed a w :=
  wpAnyM_first (C := T) hi (Region.noSelect_spec hs) hQ hmi (.inl fun _ h => h) fuel listed a w (Region.free_spec hi hf) (by simpa using hr) (Or.inl ⟨hw, hy⟩) hS (.inl fun _ h => h) h
/-- .. it yields its value as long as m is not done, and m waits for it. -/
theorem takeL {i : Nat} {oi : Oper} {v : Value} {fuel : Nat} {listed : Array Bool} {a : Act} {w : World} (hi : ops[i]? = some oi)
    (hs : Region.noSelect ops = true) (hf : Region.free md ops listed i = true) (hr : (Region.ready md ops listed).contains i = true)
    (hQ : ∀ c a w, Q (.panic c) (a.put oi.dst v) w → Q (.panic c) a w) (hmi : m ≠ i) (hwt : waitsOn md ops m i = true) (hl : listed.getD m true = false) (hw : Region.wanted oi (yielded ops a.tmps) = true)
    (hy : ∀ w, T w ∧ L w → (execOp a.eval oi).run P w = .ok (.value v) w) (hS : SM m L T listed w)
    (h : wpAnyM P md ops Q m L T fuel (listed.setIfInBounds i true) (a.put oi.dst v) w) : wpAnyM P md ops Q m L T (fuel + 1) listed a w :=
  wpAnyM_first (C := fun w => T w ∧ L w) hi (Region.noSelect_spec hs) hQ hmi (.inr ⟨fun _ h k => ⟨h, k⟩, waitsOn_spec hwt⟩) fuel listed a w (Region.free_spec hi hf) (by simpa using hr) (Or.inl ⟨hw, hy⟩) hS (.inr hl) h
def AllReadyM (P : Program) (md : Region.Mode) (ops : Array Oper) (Q : Exit → Act → World → Prop) (m : Nat) (L T : World → Prop) (fuel : Nat) (listed : Array Bool) (a : Act) (w : World) (rs : List Nat) : Prop :=
  ∀ i ∈ rs, wpOp P ops Q i (fun a' w' => SM m L T (listed.setIfInBounds i true) w' ∧ wpAnyM P md ops Q m L T fuel (listed.setIfInBounds i true) a' w') a w
theorem AllReadyM.nil {fuel : Nat} {listed : Array Bool} {a : Act} {w : World} : AllReadyM P md ops Q m L T fuel listed a w [] := fun _ h => by cases h
theorem AllReadyM.cons {fuel : Nat} {listed : Array Bool} {a : Act} {w : World} {i : Nat} {o : Oper} {rs : List Nat} (ho : ops[i]? = some o)
    (h : ∀ K' : Act → World → Prop, Shut (∀ a w, SM m L T (listed.setIfInBounds i true) w → wpAnyM P md ops Q m L T fuel (listed.setIfInBounds i true) a w → K' a w) → if Region.wanted o (yielded ops a.tmps) = true then Oper.wp P o a w K' Q else K' (a.put o.dst undef) w)
    (hs : AllReadyM P md ops Q m L T fuel listed a w rs) : AllReadyM P md ops Q m L T fuel listed a w (i :: rs) := fun j hj => by
  rcases List.mem_cons.1 hj with rfl | hj
  · exact wpOp_step ho (fun K' hK => h K' (fun a w hS hW => hK a w ⟨hS, hW⟩))
  · exact hs j hj
theorem wpAnyM_ready {rs : List Nat} {fuel : Nat} {listed : Array Bool} {a : Act} {w : World} (hr : Region.ready md ops listed = rs) (hne : rs ≠ [])
    (h : AllReadyM P md ops Q m L T fuel listed a w rs) : wpAnyM P md ops Q m L T (fuel + 1) listed a w := ⟨fun h0 => absurd (hr ▸ h0) hne, hr ▸ h⟩
theorem wpAnyM_done {listed : Array Bool} {a : Act} {w : World} (hr : Region.ready md ops listed = []) (h : Q .normal a w) : ∀ fuel, wpAnyM P md ops Q m L T fuel listed a w
  | 0 => ⟨hr, h⟩
  | _ + 1 => ⟨fun _ => h, by rw [hr]; simp⟩
theorem wp_region_M (m : Nat) (L T : World → Prop) {id : Nat} {a : Act} {w : World} (hm : P.follows .mixedOrders = true)
    (h : wpAnyM P .any ops Q m L T ops.size (Array.replicate ops.size false) a w.drew) : (Code.region id ops true).wp P Q a w :=
  wp_region_any hm (wpAny_ofM _ _ _ _ h)
end
end Go.Proofs.YthompofbdjdloaaGreat
