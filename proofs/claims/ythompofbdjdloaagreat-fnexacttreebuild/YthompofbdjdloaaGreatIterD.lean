/- A range over a function whose iterator draws an order on its way. -/
import Derived.Test.YthompofbdjdloaaGreatIterW
namespace Go.Proofs.YthompofbdjdloaaGreat
open Go.RowKit

/-- As SeqL; what the caller keeps abides a draw. -/
def SeqD {σ α : Type} (F : Fence) (n : Nat) (P : Program) (g : Nat) (lb : Array Value) (enc : α → Array Value) (step : σ → α → σ → Prop) (s0 : σ) (fin : σ → Prop) (G : World → Prop) (w : World) : Prop :=
  ∀ (l : Nat) (J : σ → World → Prop) (D : World → Prop) (W : World), Below w.heap.size w W → (∀ s A, J s A → G A) → (∀ s A, J s A → J s A.drew) →
    (∀ s x s' W1, J s W1 → step s x s' → YieldAt F (n - 1) P l (enc x) W1 fun e W' => (e = .returned (.bool true) ∧ J s' W') ∨ (e = .returned (.bool false) ∧ D W')) →
    J s0 W →
    CallsIn F n P g (#[.func (.yield l) #[] #[]] ++ lb) W fun e W' => (∃ v, e = .returned v) ∧ ((∃ s, fin s ∧ J s W') ∨ D W')

/-- The loop's own two blocks stay as they are. -/
structure Abv (B : Nat) (W W' : World) : Prop where
  size : W.heap.size ≤ W'.heap.size
  same : ∀ k, B ≤ k → k < W.heap.size → k < B + 2 → W'.heap[k]? = W.heap[k]?
theorem Abv.refl (B : Nat) (W : World) : Abv B W W := ⟨Nat.le_refl _, fun _ _ _ _ => rfl⟩
def findPostD {σ : Type} (B : Nat) (I : σ → World → Prop) (Dn : World → Prop) (s : σ) (W : World) : Exit → Act → World → Prop
  | .normal, _, W' => Abv B W W' ∧ I s W'
  | .ret, _, W' => Abv B W W' ∧ Dn W'
  | _, _, _ => False

variable {F : Fence} {n : Nat} {P : Program}

theorem wpIn_rangeFunc_D {σ α : Type} {g : Operand} {ps : Array Tmp} {assign body : Code} {Q : Exit → Act → World → Prop} {a : Act} {w : World}
    (hro : F.round = none) (h1 : 1 ≤ n) {gf : Nat} {lb : Array Value} (hg : a.eval g = .func (.func gf) #[] lb) (hFg : F.fn gf) (eg : ∀ args w, (callFunc gf args).run P w = .ok (.enter gf args) w)
    {enc : α → Array Value} {step : σ → α → σ → Prop} {s0 : σ} {fin : σ → Prop} {G : World → Prop} (hseq : SeqD F (n - 1) P gf lb enc step s0 fin G w) (hps : ∀ x, (enc x).size = ps.size)
    (I : σ → World → Prop) (Dn : World → Prop) (hG : ∀ s A, I s A → G A) (hI : ∀ s A L o, A.heap[w.heap.size + 1]? = some (.loop L) → I s A → I s (A.putObj (w.heap.size + 1) o)) (hIdr : ∀ s A, I s A → I s A.drew) (hD : ∀ A B, Dn A → Below w.heap.size A B → Dn B) (h0 : ∀ W1, Below w.heap.size w W1 → I s0 W1)
    (hround : ∀ (s : σ) (x : α) (s' : σ) (W : World) (K : Act → World → Prop), I s W → step s x s' → (∃ L, W.heap[w.heap.size + 1]? = some (.loop L)) →
      (∀ a' W', Abv w.heap.size W W' → (∀ o, body.wpIn (F.inRound (w.heap.size + 1)) (n - 1 - 1) P (findPostD w.heap.size I Dn s' (W'.putObj (w.heap.size + 1) o)) a' (W'.putObj (w.heap.size + 1) o)) → K a' W') →
      assign.wpIn (F.inRound (w.heap.size + 1)) (n - 1 - 1) P (Exit.then K (fun _ _ _ => False)) { tmps := (ps.zip (enc x)).foldl (fun t (p, v) => t.setIfInBounds p v) a.tmps, defers := [] } W)
    (hdone : ∀ (s : σ) (W : World), fin s → I s W → W.heap[w.heap.size]? = some (.deferred (some [])) → Q .normal { a with defers := { target := .collected w.heap.size, args := #[] } :: a.defers } W)
    (hret : ∀ (W : World), Dn W → W.heap[w.heap.size]? = some (.deferred (some [])) → Q .ret { a with defers := { target := .collected w.heap.size, args := #[] } :: a.defers } W) :
    (Code.rangeFunc g ps assign body).wpIn F n P Q a w := by
  refine wpIn_rangeFunc ?_
  intro fn hfn
  rw [hro]
  obtain ⟨rec, hrec⟩ : ∃ rec : LoopState → Option Code → Loop, rec = fun st pe => { state := st, pending := pe, fn, tmps := a.tmps, params := ps, assign, body, defers := w.heap.size } := ⟨_, rfl⟩
  obtain ⟨W1, hW1⟩ : ∃ W1, (w.alloc (.deferred (some []))).alloc (.loop (rec .ready none)) = W1 := ⟨_, rfl⟩
  have hL1 : W1.heap[w.heap.size + 1]? = some (.loop (rec .ready none)) := by
    rw [← hW1]; have := World.alloc_heap_new (w.alloc (.deferred (some []))) (.loop (rec .ready none)); rwa [World.size_alloc] at this
  have hK1 : W1.heap[w.heap.size]? = some (.deferred (some [])) := by
    rw [← hW1]; exact (Below.heap_alloc _ _ _ (by simp)).trans (World.alloc_heap_new w _)
  have hb1 : Below w.heap.size w W1 := by
    rw [← hW1]; exact ((Below.refl _ w).alloc (Nat.le_refl _) _).alloc (by simp) _
  have hI1 : I s0 W1 := h0 _ hb1
  refine ⟨w.heap.size + 1, [{ target := .collected w.heap.size, args := #[] }], W1, { target := .fn (.func gf) lb, args := #[.func (.yield (w.heap.size + 1)) #[] #[]] }, W1, gf,
    #[.func (.yield (w.heap.size + 1)) #[] #[]] ++ lb, W1, ?_, ?_, ?_, ?_, fun _ => h1, ?_⟩
  · rw [← hW1, hrec]; exact run_enterLoop_outer _ _ _ _ _
  · simp only [resolve, hg]
    simp [go_sem]
  · intro f' hf'; simp [Target.leads] at hf'; subst hf'; exact hFg
  · simp [invoke, go_sem, eg]
  · refine (hseq (w.heap.size + 1)
      (fun s W => I s W ∧ W.heap[w.heap.size + 1]? = some (.loop (rec .ready none)) ∧ W.heap[w.heap.size]? = some (.deferred (some [])))
      (fun W => Dn W ∧ W.heap[w.heap.size + 1]? = some (.loop (rec .done (some .ret))) ∧ W.heap[w.heap.size]? = some (.deferred (some [])))
      W1 hb1 (fun s A hs => hG s A hs.1) (fun s A hs => ⟨hIdr s A hs.1, hs.2.1, hs.2.2⟩) ?_ ⟨hI1, hL1, hK1⟩).mono ?_
    · rintro s x s' W ⟨hi, hl, hk⟩ hst
      have hlt : w.heap.size + 1 < W.heap.size := (Array.getElem?_eq_some_iff.1 hl).1
      have hy := run_yield (P := P) (args := enc x) hl (by rw [hrec]; exact hps x)
      rw [hrec] at hy
      refine ⟨fn, _, assign, body, hy, roundIn_of_wpIn hfn (hround s x s' W _ hi hst ⟨_, hl⟩ ?_)⟩
      clear hy
      intro a' Wa hab hbd
      have hla : Wa.heap[w.heap.size + 1]? = some (.loop (rec .ready none)) := (hab.same _ (by omega) (by omega) (by omega)).trans hl
      have hka : Wa.heap[w.heap.size]? = some (.deferred (some [])) := (hab.same _ (by omega) (by omega) (by omega)).trans hk
      have hlta : w.heap.size + 1 < Wa.heap.size := (Array.getElem?_eq_some_iff.1 hla).1
      refine ⟨_, run_beginRound hla (by rw [hrec]), ?_⟩
      have hl2 : (Wa.putObj (w.heap.size + 1) (.loop { rec .ready none with state := .busy })).heap[w.heap.size + 1]? = some (.loop { rec .ready none with state := .busy }) := World.putObj_heap_same hlta
      have hk2 : (Wa.putObj (w.heap.size + 1) (.loop { rec .ready none with state := .busy })).heap[w.heap.size]? = some (.deferred (some [])) := (World.putObj_heap_other (by omega)).trans hka
      refine wpIn_mono (hbd _) ?_
      rintro e a3 W3 hp
      cases e with
      | normal =>
        obtain ⟨hab3, hi3⟩ := hp
        have hl3 := (hab3.same _ (by omega) (Array.getElem?_eq_some_iff.1 hl2).1 (by omega)).trans hl2
        have hk3 := (hab3.same _ (Nat.le_refl _) (Array.getElem?_eq_some_iff.1 hk2).1 (by omega)).trans hk2
        have hr := run_endRound (P := P) none hl3
        refine ⟨_, _, hr, .inl ⟨rfl, hI _ _ _ _ hl3 hi3, ?_, (World.putObj_heap_other (by omega)).trans hk3⟩⟩
        rw [World.putObj_heap_same (Array.getElem?_eq_some_iff.1 hl3).1, hrec]
        rfl
      | ret =>
        obtain ⟨hab3, hi3⟩ := hp
        have hl3 := (hab3.same _ (by omega) (Array.getElem?_eq_some_iff.1 hl2).1 (by omega)).trans hl2
        have hk3 := (hab3.same _ (Nat.le_refl _) (Array.getElem?_eq_some_iff.1 hk2).1 (by omega)).trans hk2
        have hr := run_endRound (P := P) (some .ret) hl3
        refine ⟨_, _, hr, .inr ⟨rfl, hD _ _ hi3 (belowPut _ (by omega) _), ?_, (World.putObj_heap_other (by omega)).trans hk3⟩⟩
        rw [World.putObj_heap_same (Array.getElem?_eq_some_iff.1 hl3).1, hrec]
        rfl
      | exit id => exact hp.elim
      | goto t => exact hp.elim
      | panic ch => exact hp.elim
      | outgrown => exact hp.elim
    · rintro e W2 ⟨⟨v, rfl⟩, ⟨s, hS, hi, hl, hk⟩ | ⟨hi, hl, hk⟩⟩
      · exact ⟨none, _, by have := run_endLoop (P := P) hl (by rw [hrec]; simp); rw [hrec] at this; exact this, hdone s _ hS (hI _ _ _ _ hl hi) ((World.putObj_heap_other (by omega)).trans hk)⟩
      · exact ⟨some .ret, _, by have := run_endLoop (P := P) hl (by rw [hrec]; simp); rw [hrec] at this; exact this, wpIn_ret (hret _ (hD _ _ hi (belowPut _ (by omega) _)) ((World.putObj_heap_other (by omega)).trans hk))⟩
end Go.Proofs.YthompofbdjdloaaGreat
