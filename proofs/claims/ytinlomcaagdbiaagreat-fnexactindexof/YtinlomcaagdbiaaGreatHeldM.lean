import Derived.Test.YtinlomcaagdbiaaGreatSeg
import Derived.Test.YtinlomcaagdbiaaGreatTrG
import Derived.Sort.CutIn
import Derived.RangeFuncBound
import Derived.Shelf.Abstract
import Derived.Shelf.RegionOpen
import Derived.WalkKit
import Derived.OwnWalkIn
import Derived.TacticsInMore
import Derived.LoopNIn
import Derived.LoopIn
/- A region that draws its order, with a load of what the region itself writes at last: a condition that holds until one of its operations is done, and one that holds throughout. -/
namespace Go.Proofs.YtinlomcaagdbiaaGreat
open Go

section
variable {P : Program} {ops : Array Oper} {Q : Exit → Act → World → Prop} {md : Region.Mode} {m : Nat} {L T : World → Prop}

def SM (m : Nat) (L T : World → Prop) (listed : Array Bool) (w : World) : Prop := T w ∧ (listed.getD m true = true ∨ L w)
def wpAnyM (P : Program) (md : Region.Mode) (ops : Array Oper) (Q : Exit → Act → World → Prop) (m : Nat) (L T : World → Prop) : Nat → Array Bool → Act → World → Prop
 | 0, listed, a, w => Region.ready md ops listed = [] ∧ Q .normal a w
 | fuel + 1, listed, a, w =>
  (Region.ready md ops listed = [] → Q .normal a w) ∧
  ∀ i ∈ Region.ready md ops listed, wpOp P ops Q i (fun a' w' => SM m L T (listed.setIfInBounds i true) w' ∧ wpAnyM P md ops Q m L T fuel (listed.setIfInBounds i true) a' w') a w
theorem wpAny_ofM : ∀ (fuel : Nat) (listed : Array Bool) (a : Act) (w : World), wpAnyM P md ops Q m L T fuel listed a w → wpAny P md ops Q fuel listed a w
 | 0, _, _, _, h => h
 | fuel + 1, _, _, _, h => ⟨h.1, fun i hi => wpOp_mono (fun a' w' h' => wpAny_ofM fuel _ a' w' h'.2) (h.2 i hi)⟩
def waitsOn (md : Region.Mode) (ops : Array Oper) (m i : Nat) : Bool := match ops[m]? with
 | some om => om.after.any (fun e => Region.binds md e && e.on == i)
 | none => false
theorem waitsOn_spec {m i : Nat} (h : waitsOn md ops m i = true) : ∃ om, ops[m]? = some om ∧ ∃ e ∈ om.after, Region.binds md e = true ∧ e.on = i := by
 unfold waitsOn at h
 split at h
 ·rename_i om ho
  rw [Array.any_eq_true'] at h
  obtain ⟨e, he, hh⟩ := h
  rw [Bool.and_eq_true] at hh
  exact ⟨om, ho, e, he, hh.1, by simpa using hh.2⟩
 ·cases h
theorem wpAnyM_first {i : Nat} {oi : Oper} {v : Value} {C : World → Prop} (hi : ops[i]? = some oi) (hsel : ∀ (j : Nat) (o : Oper) cs b, ops[j]? = some o → o.op ≠ .select cs b)
  (hQ : ∀ c a w, Q (.panic c) (a.put oi.dst v) w → Q (.panic c) a w) (hmi : m ≠ i)
  (hC : (∀ w, T w → C w) ∨ ((∀ w, T w → L w → C w) ∧ ∃ om, ops[m]? = some om ∧ ∃ e ∈ om.after, Region.binds md e = true ∧ e.on = i)) :
  ∀ (fuel : Nat) (listed : Array Bool) (a : Act) (w : World),
   (∀ j oj, ops[j]? = some oj → j ≠ i → listed.getD j true = false → (∀ e ∈ oj.after, Region.binds md e = true → e.on ≠ i) → oi.apart ops oj = true) →
   i ∈ Region.ready md ops listed → YieldsIf P ops C oi v a → SM m L T listed w → ((∀ w, T w → C w) ∨ listed.getD m true = false) →
   wpAnyM P md ops Q m L T fuel (listed.setIfInBounds i true) (a.put oi.dst v) w → wpAnyM P md ops Q m L T (fuel + 1) listed a w := by
 have setm : ∀ (l : Array Bool), SM m L T l = SM m L T (l.setIfInBounds i true) := fun l => by
  funext w
  unfold SM
  rw [getD_set_ne true (Ne.symm hmi)]
 have cw : ∀ (l : Array Bool) w, SM m L T l w → ((∀ w, T w → C w) ∨ l.getD m true = false) → C w := fun l w hS hl => by
  rcases hC with h | ⟨h, _⟩
  ·exact h w hS.1
  ·rcases hl with c | c
   ·exact c w hS.1
   ·rcases hS.2 with d | d
    ·rw [c] at d; cases d
    ·exact h w hS.1 d
 intro fuel
 induction fuel with
 | zero =>
  intro listed a w _ hr hy hS hl H
  refine ⟨fun h => (by rw [h] at hr; cases hr), fun j hj => ?_⟩
  by_cases hji : j = i
  ·subst hji; exact hy.wpOp hi (cw _ _ hS hl) ⟨by rw [← setm]; exact hS, H⟩
  ·have := ready_mono hj hji
   rw [H.1] at this
   cases this
 | succ fuel ih =>
  intro listed a w hfree hr hy hS hl H
  refine ⟨fun h => (by rw [h] at hr; cases hr), fun j hj => ?_⟩
  by_cases hji : j = i
  ·subst hji; exact hy.wpOp hi (cw _ _ hS hl) ⟨by rw [← setm]; exact hS, H⟩
  ·have h1 := H.2 j (ready_mono hj hji)
   obtain ⟨hjun, oj, hoj, hall⟩ := mem_ready.1 hj
   have hnot : ∀ e ∈ oj.after, Region.binds md e = true → e.on ≠ i := fun e he hb heq => by
    have h1 := hall e he hb
    have h0 := (mem_ready.1 hr).1
    rw [heq] at h1
    rcases Nat.lt_or_ge i listed.size with h' | h'
    ·simp [h'] at h0 h1; rw [h0] at h1; cases h1
    ·simp [Array.getElem?_eq_none h'] at h1
   have h2 := wpOp_putIf hoj (hfree j oj hoj hji hjun hnot) (fun cs b => hsel i oi cs b hi) (fun cs b => hsel j oj cs b hoj) hQ hy h1
   have hfree' : ∀ k ok, ops[k]? = some ok → k ≠ i → (listed.setIfInBounds j true).getD k true = false →
     (∀ e ∈ ok.after, Region.binds md e = true → e.on ≠ i) → oi.apart ops ok = true := fun k ok hk hki hun hno => by
    refine hfree k ok hk hki ?_ hno
    by_cases hjk : j = k
    ·subst hjk; exact hjun
    ·rw [getD_set_ne true hjk] at hun; exact hun
   have hl' : (∀ w, T w → C w) ∨ (listed.setIfInBounds j true).getD m true = false := by
    rcases hC with h | ⟨_, om, hom, e, he, hb, ho⟩
    ·exact .inl h
    ·rcases hl with c | c
     ·exact .inl c
     ·right
      have hjm : j ≠ m := fun q => by
       subst q
       rw [hom] at hoj
       injection hoj with hoj
       rw [← hoj] at hnot
       exact hnot e he hb ho
      rw [getD_set_ne true hjm]
      exact c
   refine wpOp_mono (fun a' w' h3 => ⟨?_, ih (listed.setIfInBounds j true) a' w' hfree' (ready_mono hr (Ne.symm hji)) h3.1 ?_ hl' ?_⟩) h2
   ·have q := h3.2.1
    rw [Array.setIfInBounds_comm _ _ (Ne.symm hji), ← setm] at q
    exact q
   ·have q := h3.2.1
    rw [Array.setIfInBounds_comm _ _ (Ne.symm hji), ← setm] at q
    exact q
   ·rw [Array.setIfInBounds_comm _ _ hji]
    exact h3.2.2
theorem takeT {i : Nat} {oi : Oper} {v : Value} {fuel : Nat} {listed : Array Bool} {a : Act} {w : World} (hi : ops[i]? = some oi)
  (hs : Region.noSelect ops = true) (hf : Region.free md ops listed i = true) (hr : (Region.ready md ops listed).contains i = true)
  (hQ : ∀ c a w, Q (.panic c) (a.put oi.dst v) w → Q (.panic c) a w) (hmi : m ≠ i) (hw : Region.wanted oi (yielded ops a.tmps) = true)
  (hy : ∀ w, T w → (execOp a.eval oi).run P w = .ok (.value v) w) (hS : SM m L T listed w)
  (h : wpAnyM P md ops Q m L T fuel (listed.setIfInBounds i true) (a.put oi.dst v) w) : wpAnyM P md ops Q m L T (fuel + 1) listed a w :=
 wpAnyM_first (C := T) hi (Region.noSelect_spec hs) hQ hmi (.inl fun _ h => h) fuel listed a w (Region.free_spec hi hf) (by simpa using hr) (Or.inl ⟨hw, hy⟩) hS (.inl fun _ h => h) h
theorem takeL {i : Nat} {oi : Oper} {v : Value} {fuel : Nat} {listed : Array Bool} {a : Act} {w : World} (hi : ops[i]? = some oi)
  (hs : Region.noSelect ops = true) (hf : Region.free md ops listed i = true) (hr : (Region.ready md ops listed).contains i = true)
  (hQ : ∀ c a w, Q (.panic c) (a.put oi.dst v) w → Q (.panic c) a w) (hmi : m ≠ i) (hwt : waitsOn md ops m i = true) (hl : listed.getD m true = false) (hw : Region.wanted oi (yielded ops a.tmps) = true)
  (hy : ∀ w, T w ∧ L w → (execOp a.eval oi).run P w = .ok (.value v) w) (hS : SM m L T listed w)
  (h : wpAnyM P md ops Q m L T fuel (listed.setIfInBounds i true) (a.put oi.dst v) w) : wpAnyM P md ops Q m L T (fuel + 1) listed a w :=
 wpAnyM_first (C := fun w => T w ∧ L w) hi (Region.noSelect_spec hs) hQ hmi (.inr ⟨fun _ h k => ⟨h, k⟩, waitsOn_spec hwt⟩) fuel listed a w (Region.free_spec hi hf) (by simpa using hr) (Or.inl ⟨hw, hy⟩) hS (.inr hl) h
def AllReadyM (P : Program) (md : Region.Mode) (ops : Array Oper) (Q : Exit → Act → World → Prop) (m : Nat) (L T : World → Prop) (fuel : Nat) (listed : Array Bool) (a : Act) (w : World) (rs : List Nat) : Prop :=
 ∀ i ∈ rs, wpOp P ops Q i (fun a' w' => SM m L T (listed.setIfInBounds i true) w' ∧ wpAnyM P md ops Q m L T fuel (listed.setIfInBounds i true) a' w') a w
theorem AllReadyM.nil {fuel : Nat} {listed : Array Bool} {a : Act} {w : World} : AllReadyM P md ops Q m L T fuel listed a w [] := fun _ h => by cases h
theorem AllReadyM.cons {fuel : Nat} {listed : Array Bool} {a : Act} {w : World} {i : Nat} {o : Oper} {rs : List Nat} (ho : ops[i]? = some o)
  (h : ∀ K' : Act → World → Prop, Shut (∀ a w, SM m L T (listed.setIfInBounds i true) w → wpAnyM P md ops Q m L T fuel (listed.setIfInBounds i true) a w → K' a w) → if Region.wanted o (yielded ops a.tmps) = true then Oper.wp P o a w K' Q else K' (a.put o.dst undef) w)
  (hs : AllReadyM P md ops Q m L T fuel listed a w rs) : AllReadyM P md ops Q m L T fuel listed a w (i :: rs) := fun j hj => by
 rcases List.mem_cons.1 hj with rfl | hj
 ·exact wpOp_step ho (fun K' hK => h K' (fun a w hS hW => hK a w ⟨hS, hW⟩))
 ·exact hs j hj
theorem wpAnyM_ready {rs : List Nat} {fuel : Nat} {listed : Array Bool} {a : Act} {w : World} (hr : Region.ready md ops listed = rs) (hne : rs ≠ [])
  (h : AllReadyM P md ops Q m L T fuel listed a w rs) : wpAnyM P md ops Q m L T (fuel + 1) listed a w := ⟨fun h0 => absurd (hr ▸ h0) hne, hr ▸ h⟩
theorem wpAnyM_done {listed : Array Bool} {a : Act} {w : World} (hr : Region.ready md ops listed = []) (h : Q .normal a w) : ∀ fuel, wpAnyM P md ops Q m L T fuel listed a w
 | 0 => ⟨hr, h⟩
 | _ + 1 => ⟨fun _ => h, by rw [hr]; simp⟩
theorem wp_region_M (m : Nat) (L T : World → Prop) {id : Nat} {a : Act} {w : World} (hm : P.follows .mixedOrders = true)
  (h : wpAnyM P .any ops Q m L T ops.size (Array.replicate ops.size false) a w.drew) : (Code.region id ops true).wp P Q a w :=
 wp_region_any hm (wpAny_ofM _ _ _ _ h)
end
end Go.Proofs.YtinlomcaagdbiaaGreat

/- A region that draws its order within a fence: at the wide one, and within a round. -/
namespace Go.Proofs.YtinlomcaagdbiaaGreat
open Go.RowKit Go.Shelf
attribute [local go_sem] Oper.semAt_some

theorem rows_wide {n : Nat} {P : Program} {row : String} {args : Array Value} {w : World} {R : Value → World → Prop} (h : Rows P row args w R) : RowsIn Fence.wide n P row args w R := fun c cs _ => by
 obtain ⟨v, w', q, r⟩ := h c cs
 exact ⟨v, w', q, stepsIn_wide.2 r⟩
theorem oper_wide {n : Nat} {P : Program} {o : Oper} {a : Act} {w : World} {K : Act → World → Prop} {Q : Exit → Act → World → Prop} (h : o.wp P a w K Q) : o.wpIn Fence.wide n P a w K Q := by
 unfold Oper.wp at h
 unfold Oper.wpIn
 refine ⟨fun _ _ => trivial, ?_⟩
 rw [show o.semAt Fence.wide.round a.eval = execOp a.eval o from by simp [Oper.semAt, Fence.wide]]
 generalize (execOp a.eval o).run P w = r at *
 cases r with
 | ok x w' =>
  cases x <;> simp only [Oper.upon] at h <;> simp only [Oper.uponIn]
  all_goals first
   | exact h
   | exact ⟨fun e => (by cases e), callsIn_wide.2 h⟩
   | exact ⟨fun e => (by cases e), rows_wide h⟩
 | halt x w' => cases x <;> simp only [Oper.upon] at h <;> simp only [Oper.uponIn] <;> exact h
theorem any_wide {n : Nat} {P : Program} {md : Region.Mode} {ops : Array Oper} {Q : Exit → Act → World → Prop} (nL : ∀ a w, ¬ Q .outgrown a w) :
  ∀ (fuel : Nat) (listed : Array Bool) (a : Act) (w : World), wpAny P md ops Q fuel listed a w → wpAnyIn Fence.wide n P md ops Q fuel listed a w
 | 0, _, _, _, h => h
 | fuel + 1, listed, a, w, h => by
  refine ⟨h.1, fun i hi => ?_⟩
  have h2 := wpOp_mono (K' := fun a w => wpAnyIn Fence.wide n P md ops Q fuel (listed.setIfInBounds i true) a w) (fun a w => any_wide nL fuel _ a w) (h.2 i hi)
  unfold wpOp at h2
  unfold wpOpIn
  split
  ·rename_i e; rw [e] at h2; exact h2
  ·rename_i o e
   rw [e] at h2
   dsimp only at h2
   split
   ·rename_i hw
    rw [if_pos hw] at h2
    rcases h2 with h2 | ⟨_, a', w', h2⟩
    ·exact oper_wide h2
    ·exact absurd h2 (nL _ _)
   ·rename_i hw
    rw [if_neg hw] at h2
    exact ⟨fun _ _ => trivial, h2⟩
theorem wpIn_region_wideM (m : Nat) (L T : World → Prop) {n : Nat} {P : Program} {ops : Array Oper} {Q : Exit → Act → World → Prop} {id : Nat} {a : Act} {w : World} (hm : P.follows .mixedOrders = true) (nL : ∀ a w, ¬ Q .outgrown a w)
  (h : wpAnyM P .any ops Q m L T ops.size (Array.replicate ops.size false) a w.drew) : (Code.region id ops true).wpIn Fence.wide n P Q a w :=
 wpIn_region_any hm (any_wide nL _ _ _ _ (wpAny_ofM _ _ _ _ h))
theorem wpIn_region_roundM (m : Nat) (L T : World → Prop) {n l : Nat} {P : Program} {ops : Array Oper} {Q : Exit → Act → World → Prop} {id : Nat} {a : Act} {w : World} (hm : P.follows .mixedOrders = true) (nd : ops.all noDefer = true) (nL : ∀ a w, ¬ Q .outgrown a w)
  (h : wpAnyM P .any ops Q m L T ops.size (Array.replicate ops.size false) a w.drew) : (Code.region id ops true).wpIn (Fence.wide.inRound l) n P Q a w :=
 wpIn_region_any hm (any_round (noDefer_all nd) nL _ _ _ _ (wpAny_ofM _ _ _ _ h))
end Go.Proofs.YtinlomcaagdbiaaGreat

/- A range over a function whose iterator draws an order on its way. -/
namespace Go.Proofs.YtinlomcaagdbiaaGreat
open Go.RowKit

def SeqD {σ α : Type} (F : Fence) (n : Nat) (P : Program) (g : Nat) (lb : Array Value) (enc : α → Array Value) (step : σ → α → σ → Prop) (s0 : σ) (fin : σ → Prop) (G : World → Prop) (w : World) : Prop :=
 ∀ (l : Nat) (J : σ → World → Prop) (D : World → Prop) (W : World), Below w.heap.size w W → (∀ s A, J s A → G A) → (∀ s A, J s A → J s A.drew) →
  (∀ s x s' W1, J s W1 → step s x s' → YieldAt F (n - 1) P l (enc x) W1 fun e W' => (e = .returned (.bool true) ∧ J s' W') ∨ (e = .returned (.bool false) ∧ D W')) →
  J s0 W →
  CallsIn F n P g (#[.func (.yield l) #[] #[]] ++ lb) W fun e W' => (∃ v, e = .returned v) ∧ ((∃ s, fin s ∧ J s W') ∨ D W')

structure Abv (B : Nat) (W W' : World) : Prop where
 size : W.heap.size ≤ W'.heap.size
 same : ∀ k, B ≤ k → k < W.heap.size → k < B + 2 → W'.heap[k]? = W.heap[k]?
theorem Abv.refl (B : Nat) (W : World) : Abv B W W := ⟨Nat.le_refl _, fun _ _ _ _ => rfl⟩
def findPostD {σ : Type} (B : Nat) (I : σ → World → Prop) (Dn : World → Prop) (s : σ) (W : World) : Exit → Act → World → Prop
 | .normal, _, W' => Abv B W W' ∧ I s W'
 | .ret, _, W' => Abv B W W' ∧ Dn W'
 | _, _, _ => False

variable {F : Fence} {n : Nat} {P : Program}

theorem wpIn_rangeFunc_D {σ α : Type} {g : Operand} {ps : Array Tmp} {assign body : Code} {Q : Exit → Act → World → Prop} {a : Act} {w : World}
  (hro : F.round = none) (h1 : 1 ≤ n) {gf : Nat} {lb : Array Value} (hg : a.eval g = .func (.func gf) #[] lb) (hFg : F.fn gf) (eg : ∀ args w, (callFunc gf args).run P w = .ok (.enter gf args) w)
  {enc : α → Array Value} {step : σ → α → σ → Prop} {s0 : σ} {fin : σ → Prop} {G : World → Prop} (hseq : SeqD F (n - 1) P gf lb enc step s0 fin G w) (hps : ∀ x, (enc x).size = ps.size)
  (I : σ → World → Prop) (Dn : World → Prop) (hG : ∀ s A, I s A → G A) (hI : ∀ s A L o, A.heap[w.heap.size + 1]? = some (.loop L) → I s A → I s (A.putObj (w.heap.size + 1) o)) (hIdr : ∀ s A, I s A → I s A.drew) (hD : ∀ A B, Dn A → Below w.heap.size A B → Dn B) (h0 : ∀ W1, Below w.heap.size w W1 → I s0 W1)
  (hround : ∀ (s : σ) (x : α) (s' : σ) (W : World) (K : Act → World → Prop), I s W → step s x s' → (∃ L, W.heap[w.heap.size + 1]? = some (.loop L)) →
   (∀ a' W', Abv w.heap.size W W' → (∀ o, body.wpIn (F.inRound (w.heap.size + 1)) (n - 1 - 1) P (findPostD w.heap.size I Dn s' (W'.putObj (w.heap.size + 1) o)) a' (W'.putObj (w.heap.size + 1) o)) → K a' W') →
   assign.wpIn (F.inRound (w.heap.size + 1)) (n - 1 - 1) P (Exit.then K (fun _ _ _ => False)) { tmps := (ps.zip (enc x)).foldl (fun t (p, v) => t.setIfInBounds p v) a.tmps, defers := [] } W)
  (hdone : ∀ (s : σ) (W : World), fin s → I s W → W.heap[w.heap.size]? = some (.deferred (some [])) → Q .normal { a with defers := { target := .collected w.heap.size, args := #[] } :: a.defers } W)
  (hret : ∀ (W : World), Dn W → W.heap[w.heap.size]? = some (.deferred (some [])) → Q .ret { a with defers := { target := .collected w.heap.size, args := #[] } :: a.defers } W) :
  (Code.rangeFunc g ps assign body).wpIn F n P Q a w := by
 refine wpIn_rangeFunc ?_
 intro fn hfn
 rw [hro]
 obtain ⟨rec, hrec⟩ : ∃ rec : LoopState → Option Code → Loop, rec = fun st pe => { state := st, pending := pe, fn, tmps := a.tmps, params := ps, assign, body, defers := w.heap.size } := ⟨_, rfl⟩
 obtain ⟨W1, hW1⟩ : ∃ W1, (w.alloc (.deferred (some []))).alloc (.loop (rec .ready none)) = W1 := ⟨_, rfl⟩
 have hL1 : W1.heap[w.heap.size + 1]? = some (.loop (rec .ready none)) := by
  rw [← hW1]; have := World.alloc_heap_new (w.alloc (.deferred (some []))) (.loop (rec .ready none)); rwa [World.size_alloc] at this
 have hK1 : W1.heap[w.heap.size]? = some (.deferred (some [])) := by
  rw [← hW1]; exact (Below.heap_alloc _ _ _ (by simp)).trans (World.alloc_heap_new w _)
 have hb1 : Below w.heap.size w W1 := by
  rw [← hW1]; exact ((Below.refl _ w).alloc (Nat.le_refl _) _).alloc (by simp) _
 have hI1 : I s0 W1 := h0 _ hb1
 refine ⟨w.heap.size + 1, [{ target := .collected w.heap.size, args := #[] }], W1, { target := .fn (.func gf) lb, args := #[.func (.yield (w.heap.size + 1)) #[] #[]] }, W1, gf,
  #[.func (.yield (w.heap.size + 1)) #[] #[]] ++ lb, W1, ?_, ?_, ?_, ?_, fun _ => h1, ?_⟩
 ·rw [← hW1, hrec]; exact run_enterLoop_outer _ _ _ _ _
 ·simp only [resolve, hg]
  simp [go_sem]
 ·intro f' hf'; simp [Target.leads] at hf'; subst hf'; exact hFg
 ·simp [invoke, go_sem, eg]
 ·refine (hseq (w.heap.size + 1)
   (fun s W => I s W ∧ W.heap[w.heap.size + 1]? = some (.loop (rec .ready none)) ∧ W.heap[w.heap.size]? = some (.deferred (some [])))
   (fun W => Dn W ∧ W.heap[w.heap.size + 1]? = some (.loop (rec .done (some .ret))) ∧ W.heap[w.heap.size]? = some (.deferred (some [])))
   W1 hb1 (fun s A hs => hG s A hs.1) (fun s A hs => ⟨hIdr s A hs.1, hs.2.1, hs.2.2⟩) ?_ ⟨hI1, hL1, hK1⟩).mono ?_
  ·rintro s x s' W ⟨hi, hl, hk⟩ hst
   have hlt : w.heap.size + 1 < W.heap.size := (Array.getElem?_eq_some_iff.1 hl).1
   have hy := run_yield (P := P) (args := enc x) hl (by rw [hrec]; exact hps x)
   rw [hrec] at hy
   refine ⟨fn, _, assign, body, hy, roundIn_of_wpIn hfn (hround s x s' W _ hi hst ⟨_, hl⟩ ?_)⟩
   clear hy
   intro a' Wa hab hbd
   have hla : Wa.heap[w.heap.size + 1]? = some (.loop (rec .ready none)) := (hab.same _ (by omega) (by omega) (by omega)).trans hl
   have hka : Wa.heap[w.heap.size]? = some (.deferred (some [])) := (hab.same _ (by omega) (by omega) (by omega)).trans hk
   have hlta : w.heap.size + 1 < Wa.heap.size := (Array.getElem?_eq_some_iff.1 hla).1
   refine ⟨_, run_beginRound hla (by rw [hrec]), ?_⟩
   have hl2 : (Wa.putObj (w.heap.size + 1) (.loop { rec .ready none with state := .busy })).heap[w.heap.size + 1]? = some (.loop { rec .ready none with state := .busy }) := World.putObj_heap_same hlta
   have hk2 : (Wa.putObj (w.heap.size + 1) (.loop { rec .ready none with state := .busy })).heap[w.heap.size]? = some (.deferred (some [])) := (World.putObj_heap_other (by omega)).trans hka
   refine wpIn_mono (hbd _) ?_
   rintro e a3 W3 hp
   cases e with
   | normal =>
    obtain ⟨hab3, hi3⟩ := hp
    have hl3 := (hab3.same _ (by omega) (Array.getElem?_eq_some_iff.1 hl2).1 (by omega)).trans hl2
    have hk3 := (hab3.same _ (Nat.le_refl _) (Array.getElem?_eq_some_iff.1 hk2).1 (by omega)).trans hk2
    have hr := run_endRound (P := P) none hl3
    refine ⟨_, _, hr, .inl ⟨rfl, hI _ _ _ _ hl3 hi3, ?_, (World.putObj_heap_other (by omega)).trans hk3⟩⟩
    rw [World.putObj_heap_same (Array.getElem?_eq_some_iff.1 hl3).1, hrec]
    rfl
   | ret =>
    obtain ⟨hab3, hi3⟩ := hp
    have hl3 := (hab3.same _ (by omega) (Array.getElem?_eq_some_iff.1 hl2).1 (by omega)).trans hl2
    have hk3 := (hab3.same _ (Nat.le_refl _) (Array.getElem?_eq_some_iff.1 hk2).1 (by omega)).trans hk2
    have hr := run_endRound (P := P) (some .ret) hl3
    refine ⟨_, _, hr, .inr ⟨rfl, hD _ _ hi3 (belowPut _ (by omega) _), ?_, (World.putObj_heap_other (by omega)).trans hk3⟩⟩
    rw [World.putObj_heap_same (Array.getElem?_eq_some_iff.1 hl3).1, hrec]
    rfl
   | exit id => exact hp.elim
   | goto t => exact hp.elim
   | panic ch => exact hp.elim
   | outgrown => exact hp.elim
  ·rintro e W2 ⟨⟨v, rfl⟩, ⟨s, hS, hi, hl, hk⟩ | ⟨hi, hl, hk⟩⟩
   ·exact ⟨none, _, by have := run_endLoop (P := P) hl (by rw [hrec]; simp); rw [hrec] at this; exact this, hdone s _ hS (hI _ _ _ _ hl hi) ((World.putObj_heap_other (by omega)).trans hk)⟩
   ·exact ⟨some .ret, _, by have := run_endLoop (P := P) hl (by rw [hrec]; simp); rw [hrec] at this; exact this, wpIn_ret (hret _ (hD _ _ hi (belowPut _ (by omega) _)) ((World.putObj_heap_other (by omega)).trans hk))⟩
end Go.Proofs.YtinlomcaagdbiaaGreat
