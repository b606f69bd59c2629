import Derived.Test.YtdkhaghcnijilaaGreatTrY
import Derived.Test.YtdkhaghcnijilaaGreatTsF
import Derived.RangeFuncBound
import Derived.Shelf.Abstract
import Derived.Shelf.RegionOpen
import Derived.WalkKit
import Derived.OwnWalkIn
import Derived.TacticsInMore
import Derived.LoopNIn
import Derived.LoopIn
import Derived.Sort.OwnSortedInts
/- slices.AppendSeq and Collect at ints, over an iterator that reads memory. -/
namespace Go.Proofs.YtdkhaghcnijilaaGreat
open Go.RowKit Go.Shelf
attribute [local go_sem] Oper.semAt_some

def encI (x : Int) : Value := .int .i64 x
/-- A row stays where its block does. -/
theorem RowI.heap {base : Nat} {w w' : World} {v : Value} {ds : List Int} (h : RowI base w v ds) (q : ∀ (g : Nat) (cs : Array Value), w.heap[g]? = some (.cells cs 3 (0, 0)) → w'.heap[g]? = w.heap[g]?) : RowI base w' v ds := by
  rcases h.2 with ⟨hv, h0⟩ | ⟨g, cap', cur, hv, hb, hh, r⟩
  · exact ⟨h.1, .inl ⟨hv, h0⟩⟩
  · exact ⟨h.1, .inr ⟨g, cap', cur, hv, hb, (q g cur hh).trans hh, r⟩⟩
theorem RowI.ty {base : Nat} {w : World} {v : Value} {ds : List Int} (h : RowI base w v ds) (k : Nat) (hk : v.ownBlock = some k) : ∃ cs : Array Value, w.heap[k]? = some (.cells cs 3 (0, 0)) := by
  rcases h.2 with ⟨hv, h0⟩ | ⟨g, cap', cur, hv, hb, hh, r⟩
  · rw [hv] at hk; cases hk
  · rw [hv] at hk
    injection hk with hk
    exact ⟨cur, by rw [← hk]; exact hh⟩
theorem box_cell {W : World} {B : Nat} {v : Value} {t : TypeId} (h : W.heap[B]? = some (.cells #[v] t (0, 0))) : W.cell? ⟨B, 0, none⟩ = some v ∧ W.frozen? ⟨B, 0, none⟩ = false := by
  unfold World.cell? World.frozen?
  rw [show W.heap[B]? = _ from h]
  simp
/-- What AppendSeq keeps: its variable, and the row. -/
structure ColI (p : Nat) (w : World) (pre : List Int) (W : World) : Prop where
  v : ∃ a c, W.heap[p]? = some (.cells #[.slice a pre.length c] 27 (0, 0)) ∧ RowI (p + 1) W (.slice a pre.length c) pre
  bel : Below p w W
theorem ColI.loop {p q : Nat} {w W : World} {pre : List Int} {L : Loop} (h : ColI p w pre W) (hq : W.heap[q]? = some (.loop L)) (hp : p < q) (o : Obj) : ColI p w pre (W.putObj q o) := by
  obtain ⟨⟨a, c, h1, h2⟩, hb⟩ := h
  have ne : ∀ k (cs : Array Value) T f, W.heap[k]? = some (.cells cs T f) → k ≠ q := fun k cs T f e e2 => by rw [e2, hq] at e; cases e
  exact ⟨⟨a, c, (World.putObj_heap_other (ne _ _ _ _ h1)).trans h1, h2.heap fun g cs e => World.putObj_heap_other (ne _ _ _ _ e)⟩, hb.trans (belowPut W (by omega) o)⟩
theorem ColI.own {p : Nat} {w W W' : World} {pre : List Int} (h : ColI p w pre W) (ho : OwnT p 63 W W') : ColI p w pre W' := by
  obtain ⟨⟨a, c, h1, h2⟩, hb⟩ := h
  have lt : ∀ k (O : Obj), W.heap[k]? = some O → k < W.heap.size := fun k O e => (Array.getElem?_eq_some_iff.1 e).1
  refine ⟨⟨a, c, (ho.oth p (lt _ _ h1) (fun cs e => ?_)).trans h1, h2.heap fun g cs e => ho.oth g (lt _ _ e) (fun cs' e' => ?_)⟩, hb.trans ho.bel⟩
  · rw [h1] at e
    simp at e
  · rw [e] at e'
    simp at e'

theorem setCell_box {W : World} {B : Nat} {v : Value} {t : TypeId} (v' : Value) (h : W.heap[B]? = some (.cells #[v] t (0, 0))) : (W.setCell ⟨B, 0, none⟩ v').heap[B]? = some (.cells #[v'] t (0, 0)) := by
  simp only [World.setCell, Array.getElem?_modify, if_true, h]
  rfl
/-- What one round does: the number is appended, the variable holds the new slice. -/
theorem col_next {p q7 c7 : Nat} {w W3 W4 w7 : World} {pre : List Int} {x : Int} {V : Value} {L : Loop} (hb : Below p w W4) (h34 : Below p W3 W4) (bq : ∀ k, k < W3.heap.size → W4.heap[k]? = W3.heap[k]?) (R4 : RowI (p + 1) W4 V pre)
    (hv4 : W4.heap[p]? = some (.cells #[V] 27 (0, 0))) (G7 : W4.grownBy w7 V.ownBlock) (R7 : RowI (p + 1) w7 (.slice (some ⟨q7, 0, none⟩) (pre ++ [x]).length c7) (pre ++ [x]))
    (hl : W3.heap[p + 1 + 1]? = some (.loop L)) (hd : W3.heap[p + 1]? = some (.deferred (some []))) :
    w7.heap[p]? = some (.cells #[V] 27 (0, 0)) ∧
    ((w7.setCell ⟨p, 0, none⟩ (.slice (some ⟨q7, 0, none⟩) (pre ++ [x]).length c7)).heap[p + 1]? = W3.heap[p + 1]? ∧ (w7.setCell ⟨p, 0, none⟩ (.slice (some ⟨q7, 0, none⟩) (pre ++ [x]).length c7)).heap[p + 1 + 1]? = W3.heap[p + 1 + 1]?) ∧
    ColI p w (pre ++ [x]) (w7.setCell ⟨p, 0, none⟩ (.slice (some ⟨q7, 0, none⟩) (pre ++ [x]).length c7)) ∧ RndT p 63 W3 (w7.setCell ⟨p, 0, none⟩ (.slice (some ⟨q7, 0, none⟩) (pre ++ [x]).length c7)) := by
  have lt : ∀ k (O : Obj), W3.heap[k]? = some O → k < W3.heap.size := fun k O e => (Array.getElem?_eq_some_iff.1 e).1
  have NE : ∀ k, (∀ cs : Array Value, W4.heap[k]? ≠ some (.cells cs 3 (0, 0))) → some k ≠ V.ownBlock := fun k hk e => by
    obtain ⟨cs, h⟩ := R4.ty k e.symm
    exact hk cs h
  have hv7 : w7.heap[p]? = some (.cells #[V] 27 (0, 0)) := (G7.block p (Array.getElem?_eq_some_iff.1 hv4).1 (NE p fun cs e => by rw [hv4] at e; simp at e)).trans hv4
  have far : ∀ k (O : Obj), W3.heap[k]? = some O → k ≠ p → (∀ cs : Array Value, O ≠ .cells cs 3 (0, 0)) → (w7.setCell ⟨p, 0, none⟩ (.slice (some ⟨q7, 0, none⟩) (pre ++ [x]).length c7)).heap[k]? = W3.heap[k]? := fun k O e hk hO => by
    have e4 := (bq k (lt k O e)).trans e
    exact (Below.heap_setCell w7 ⟨p, 0, none⟩ _ k hk).trans ((G7.block k (Array.getElem?_eq_some_iff.1 e4).1 (NE k fun cs e2 => by rw [e4] at e2; exact hO cs (Option.some.inj e2))).trans (bq k (lt k O e)))
  have gb : ∀ A, Below p A W4 → Below p A (w7.setCell ⟨p, 0, none⟩ (.slice (some ⟨q7, 0, none⟩) (pre ++ [x]).length c7)) := fun A hA =>
    Below.setCell (hA.grown G7 (by have := (Array.getElem?_eq_some_iff.1 hv4).1; omega) (fun k hk => by
      rcases R4.2 with ⟨hv, h0⟩ | ⟨g, cap', cur, hv, hg, _⟩
      · rw [hv] at hk; cases hk
      · rw [hv] at hk
        injection hk with hk
        have hk : g = k := hk
        omega)) (Nat.le_refl p) _
  refine ⟨hv7, ⟨far _ _ hd (by omega) (by intro cs e; cases e), far _ _ hl (by omega) (by intro cs e; cases e)⟩, ⟨⟨_, _, setCell_box _ hv7, R7.heap fun g cs e => Below.heap_setCell w7 ⟨p, 0, none⟩ _ g (fun e2 => ?_)⟩, gb _ hb⟩, ⟨gb _ h34, fun k cs e => far k _ e (fun e2 => ?_) (by intro cs' e'; simp at e')⟩⟩
  · simp only at e2
    rw [e2, hv7] at e
    simp at e
  · rw [e2] at e
    have := (bq p (lt _ _ e)).trans e
    rw [hv4] at this
    simp at this

set_option maxRecDepth 100000 in
set_option maxHeartbeats 2000000 in
theorem appendSeq_any {gf : Nat} {lb : Array Value} {S : List Int → Prop} {N : Nat} (w : World) (eg : ∀ args w, (callFunc gf args).run Tryz.prog w = .ok (.enter gf args) w) (hseq : ∀ n, 1 ≤ n → SeqM Fence.wide n Tryz.prog gf lb encI S N 63 w) (hN : N ≤ 2000000) :
    Calls Tryz.prog 112 #[.slice none 0 0, .func (.func gf) #[] lb] w fun e w' => ∃ v xs, e = .returned v ∧ S xs ∧ RowI w.heap.size w' v xs ∧ Below w.heap.size w w' := by
  obtain ⟨iX, hiX, hx0, hx1, hx2⟩ := info_parts infoI
  have h2 := heap_alloc_new w (.cells #[.slice none 0 0] 27)
  have b1 := below1 w (.cells #[.slice none 0 0] 27)
  have zL : (w.alloc (.cells #[.slice none 0 0] 27)).heap.size = w.heap.size + 1 := by simp
  refine (callsIn_wide (n := 6)).1 ?_
  refine callsIn_of_wp_marks Tryz.func112 rfl trivial ?_ rfl
  simp only [Tryz.ntmps112, List.size_toArray, List.length_cons, List.length_nil, Nat.reduceAdd, Nat.reduceSub, Array.replicate_succ, Array.replicate_zero, List.push_toArray, List.append_toArray, List.nil_append, List.cons_append]
  gi_wp2
  generalize w.alloc (.cells #[.slice none 0 0] 27) = WL at *
  refine wpIn_rangeFunc_col rfl (by omega) (gf := gf) (lb := lb) rfl trivial eg (hseq _ (by omega)) b1 rfl
    (fun pre W => Hid (ColI w.heap.size w pre W)) (fun pre A L o hl h => by
      rw [zL] at hl ⊢
      exact h.out.loop hl (by omega) o) (fun pre A A' h ho => h.out.own ho) (fun W1 hb => ⟨⟨none, 0, (hb.block _ (by omega)).trans h2, ⟨rfl, .inl ⟨rfl, rfl⟩⟩⟩, b1.trans (hb.mono (by omega))⟩) ?round ?done
  case round =>
    rintro pre x W K HC hpre ⟨l, hl⟩ hd hK
    rw [zL] at hl hd hK ⊢
    unfold encI
    gi_wp2
    refine hK _ _ rfl ?_
    intro L
    have C3 : Hid (ColI w.heap.size w pre (W.putObj (w.heap.size + 1 + 1) (.loop L))) := HC.out.loop hl (by omega) (.loop L)
    have HL3 : Hid ((W.putObj (w.heap.size + 1 + 1) (.loop L)).heap[w.heap.size + 1 + 1]? = some (.loop L)) := World.putObj_heap_same (Array.getElem?_eq_some_iff.1 hl).1
    have HD3 : Hid ((W.putObj (w.heap.size + 1 + 1) (.loop L)).heap[w.heap.size + 1]? = some (.deferred (some []))) := (World.putObj_heap_other (by omega)).trans hd
    clear hK HC hl hd
    generalize W.putObj (w.heap.size + 1 + 1) (.loop L) = W3 at *
    obtain ⟨⟨a, c, hv, R⟩, hb⟩ := C3.out
    have c0 : W3.cell? ⟨w.heap.size, 0, none⟩ = some (.slice a pre.length c) := by
      unfold World.cell?
      rw [show W3.heap[w.heap.size]? = _ from hv]
      rfl
    have f0 : W3.frozen? ⟨w.heap.size, 0, none⟩ = false := by
      unfold World.frozen?
      rw [show W3.heap[w.heap.size]? = _ from hv]
      simp
    have ltv : w.heap.size < W3.heap.size := (Array.getElem?_eq_some_iff.1 hv).1
    have hpl : pre.length ≤ 2000000 := by omega
    have bq := below1 W3 (.cells #[.int .i64 x] 3)
    have R4 := R.below bq
    have c4 := bat bq c0
    have f4 := (World.frozen?_of_block (a := ⟨w.heap.size, 0, none⟩) (bq.block _ ltv)).trans f0
    have hv4 := (bq.block _ ltv).trans hv
    have HB4 : Hid (Below w.heap.size w (W3.alloc (.cells #[.int .i64 x] 3))) := hb.trans (bq.mono (by omega))
    have hz4 : w.heap.size + 1 ≤ (W3.alloc (.cells #[.int .i64 x] 3)).heap.size := by have := bq.size; omega
    have HQ : Hid (∀ k, k < W3.heap.size → (W3.alloc (.cells #[.int .i64 x] 3)).heap[k]? = W3.heap[k]?) := fun k hk => bq.block k hk
    have n1 := cell_new W3 #[.int .i64 x] 3 0 rfl
    have HB3 : Hid (Below w.heap.size W3 (W3.alloc (.cells #[.int .i64 x] 3))) := bq.mono (by omega)
    have HV4 : Hid ((W3.alloc (.cells #[.int .i64 x] 3)).heap[w.heap.size]? = some (.cells #[.slice a pre.length c] 27 (0, 0))) := hv4
    have HR4 : Hid (RowI (w.heap.size + 1) (W3.alloc (.cells #[.int .i64 x] 3)) (.slice a pre.length c) pre) := R4
    clear bq hv hb f0 hv4
    gi_wp2_with (gi_at_builtin; refine wpListIn_append_own _ rfl (.tmp 8) (.tmp 10) 27 rfl (w.heap.size + 1) 3 iX (.int .i64 0) 1 8 Tryz.underlying27 hiX hx0 hx1 hx2 rfl (by decide) (.slice a pre.length c) pre.length (pre.map (Value.int .i64)) rfl R4 ⟨W3.heap.size, 0, none⟩ 1 1 ([x].map (Value.int .i64)) rfl rfl (one_newI _ _ _) (onesI _) (by unfold maxLen; omega) (by omega) hz4 ?_; intro v7 w7 R7 G7 _; replace R7 := RowI.snoc R7 (rfl : 0 = 0); obtain ⟨q7, c7, e7, _, _⟩ := R7.shape (by simp); subst e7; have CN := col_next HB4.out HB3.out HQ.out HR4.out HV4.out G7 R7 HL3.out HD3.out; obtain ⟨c8, f8⟩ := box_cell CN.1; have CN2 : Hid _ := CN.2; clear CN)
    have h9 := CN2.out
    rw [show (pre ++ [x]).length = pre.length + 1 by simp] at h9
    exact h9
  case done =>
    intro xs W hS HC hk
    obtain ⟨⟨a, c, hv, R⟩, hb⟩ := HC.out
    rw [zL] at hk ⊢
    have c0 : W.cell? ⟨w.heap.size, 0, none⟩ = some (.slice a xs.length c) := by
      unfold World.cell?
      rw [show W.heap[w.heap.size]? = _ from hv]
      rfl
    have RR : Hid (RowI w.heap.size (W.putObj (w.heap.size + 1) (.deferred none)) (.slice a xs.length c) xs) := row_base (R.heap fun g cs e => World.putObj_heap_other (fun e2 => by rw [e2, hk] at e; cases e)) (Nat.le_succ _)
    have HB : Hid (Below w.heap.size w (W.putObj (w.heap.size + 1) (.deferred none))) := hb.trans (belowPut W (by omega) _)
    have hS' : Hid (S xs) := hS
    clear R hv hS HC
    gi_wp2
    refine ⟨by simp, .inl ⟨_, _, rfl, run_takeDeferred hk, ?_⟩⟩
    refine ⟨_, results_tmp rfl _ _ _, .slice a xs.length c, xs, rfl, hS'.out, RR.out, HB.out⟩
end Go.Proofs.YtdkhaghcnijilaaGreat

/- slices.Collect at ints, over an iterator that reads memory. -/
namespace Go.Proofs.YtdkhaghcnijilaaGreat
open Go.RowKit Go.Shelf
attribute [local go_sem] Oper.semAt_some

set_option maxRecDepth 100000 in
set_option maxHeartbeats 2000000 in
theorem collect_any {gf : Nat} {lb : Array Value} {S : List Int → Prop} {N : Nat} (w : World) (eg : ∀ args w, (callFunc gf args).run Tryz.prog w = .ok (.enter gf args) w) (hseq : ∀ n, 1 ≤ n → SeqM Fence.wide n Tryz.prog gf lb encI S N 63 w) (hN : N ≤ 2000000) :
    Calls Tryz.prog 70 #[.func (.func gf) #[] lb] w fun e w' => ∃ v xs, e = .returned v ∧ S xs ∧ RowI w.heap.size w' v xs ∧ Below w.heap.size w w' := by
  have hc := appendSeq_any (gf := gf) (lb := lb) w eg hseq hN
  clear hseq
  go_enter Tryz.func70, Tryz.ntmps70
  go_wp2_with fail
  refine hc.mono ?_
  rintro e w1 ⟨v, xs, rfl, hS, R, B⟩
  have HE : Hid (S xs ∧ RowI w.heap.size w1 v xs ∧ Below w.heap.size w w1) := ⟨hS, R, B⟩
  clear hS R B hc
  dsimp only
  go_wp2_with fail
  go_ret
  exact ⟨v, xs, rfl, HE.out⟩
/-- What slices.Sort does to a row of ints of a call's own. -/
def SortsI (b : Nat) : Prop := ∀ (W : World) (a : Option Addr) (c : Nat) (xs : List Int), b ≤ W.heap.size → xs.length ≤ 2000000 → RowI b W (.slice a xs.length c) xs →
  Calls Tryz.prog 71 #[.slice a xs.length c] W fun e w' => e = .returned (.tuple #[]) ∧ ∃ ys, ys.Perm xs ∧ ys.Pairwise (· ≤ ·) ∧ RowI b w' (.slice a xs.length c) ys ∧ Below b W w'

set_option maxRecDepth 100000 in
set_option maxHeartbeats 2000000 in
theorem sorted_any {gf : Nat} {lb : Array Value} {S : List Int → Prop} {N : Nat} (w : World) (eg : ∀ args w, (callFunc gf args).run Tryz.prog w = .ok (.enter gf args) w) (hseq : ∀ n, 1 ≤ n → SeqM Fence.wide n Tryz.prog gf lb encI S N 63 w) (hN : N ≤ 2000000) (hsort : SortsI w.heap.size) (hS : ∀ xs, S xs → xs.length ≤ 2000000) :
    Calls Tryz.prog 37 #[.func (.func gf) #[] lb] w fun e w' => ∃ v xs ys, e = .returned v ∧ S xs ∧ ys.Perm xs ∧ ys.Pairwise (· ≤ ·) ∧ RowI w.heap.size w' v ys ∧ Below w.heap.size w w' := by
  have hc := collect_any (gf := gf) (lb := lb) w eg hseq hN
  clear hseq
  go_enter Tryz.func37, Tryz.ntmps37
  go_wp2_with fail
  refine hc.mono ?_
  rintro e w1 ⟨v, xs, rfl, hS1, R, B⟩
  obtain ⟨a, c, rfl, _, _⟩ := R.shape'
  have HS := hsort w1 a c xs B.size (hS xs hS1) R
  have HE : Hid (S xs ∧ Below w.heap.size w w1) := ⟨hS1, B⟩
  clear hS hS1 R B hc
  dsimp only
  go_wp2_with fail
  refine HS.mono ?_
  rintro e w2 ⟨rfl, ys, hp, hs, R, B⟩
  have HE2 : Hid (ys.Perm xs ∧ ys.Pairwise (· ≤ ·) ∧ RowI w.heap.size w2 (.slice a xs.length c) ys ∧ Below w.heap.size w1 w2) := ⟨hp, hs, R, B⟩
  clear hp hs R B HS hsort
  dsimp only
  go_wp2_with fail
  go_ret
  exact ⟨_, xs, ys, rfl, HE.out.1, HE2.out.1, HE2.out.2.1, HE2.out.2.2.1, HE.out.2.trans HE2.out.2.2.2⟩
end Go.Proofs.YtdkhaghcnijilaaGreat

/- slices.Sort at rows of ints of a call's own, out of a contract on the sort. -/
namespace Go.Proofs.YtdkhaghcnijilaaGreat
open Go.RowKit

theorem sortsI_of
    (h1 : ∀ (blk off cap : Nat) (zs : List Int) (w : World), Go.Sort.Holds (Value.int .i64) w blk off zs.toArray → blk < w.heap.size → zs.length < 4611686018427387904 →
      Calls Tryz.prog 71 #[.slice (some ⟨blk, off, none⟩) zs.length cap] w fun e w' => e = .returned (.tuple #[]) ∧ ∃ n os, w' = Go.Sort.grow (Go.Sort.putRow (Value.int .i64) (Go.Sort.ahead w n) blk off (zs.mergeSort fun x y => decide (x ≤ y)).toArray) os)
    (h2 : ∀ (p : Option Addr) (cap : Nat) (w : World), Calls Tryz.prog 71 #[.slice p 0 cap] w fun e w' => e = .returned (.tuple #[]) ∧ w' = w) (b : Nat) : SortsI b := by
  intro W a c xs hb hx R
  by_cases hn : xs = []
  · subst hn
    exact (h2 a c W).mono fun e w' ⟨he, hw⟩ => ⟨he, [], List.Perm.refl _, List.Pairwise.nil, by rw [hw]; exact R, by rw [hw]; exact Below.refl _ _⟩
  · have R0 := R
    rcases R.2 with ⟨_, e0⟩ | ⟨g, cap, cur, hv, hg, hh, hf, hm, hz, ht⟩
    · exact absurd (List.length_eq_zero_iff.1 e0) hn
    · cases hv
      have hgs : g < W.heap.size := (Array.getElem?_eq_some_iff.1 hh).1
      have hH : Go.Sort.Holds (Value.int .i64) W g 0 xs.toArray := by
        intro j hj
        have hj' : j < xs.length := by simpa using hj
        have hc := R0.at' hj'
        rw [Nat.zero_add]
        refine ⟨?_, by simp [World.frozen?, hh]⟩
        rw [hc]
        simp [hj']
      refine (h1 g 0 c xs W hH hgs (by omega)).mono ?_
      rintro e w' ⟨he, m, os, hw⟩
      have hl : (xs.mergeSort fun x y => decide (x ≤ y)).length = xs.length := List.length_mergeSort _
      refine ⟨he, xs.mergeSort fun x y => decide (x ≤ y), List.mergeSort_perm _ _, (List.pairwise_mergeSort (le := fun x y : Int => decide (x ≤ y)) (fun a b c h1 h2 => by simp at *; omega) (fun a b => by simp; omega) xs).imp (fun h => by simpa using h), ?_, ?_⟩
      · have := ownsRow_sortedI (n := m) (os := os) (cap := c) hl hg hh hf hm hz
        rw [hw]
        unfold RowI
        rw [hl]
        exact this
      · rw [hw]
        exact (Below.refl b W).grown (grownBy_sortedI _) hb (fun k e => by injection e with e; omega)
end Go.Proofs.YtdkhaghcnijilaaGreat

/- The iterator that overlapping makes: two variables of its own. -/
namespace Go.Proofs.YtdkhaghcnijilaaGreat
open Go.RowKit

/-- Behind overlapping: the node's pointer in block B, the window in block B + 1. -/
structure OvIt (B : Nat) (p : Value) (y1 y2 y3 y4 : Int) (W : World) : Prop where
  nd : W.heap[B]? = some (.cells #[p] 63 (0, 0))
  bx : W.heap[B + 1]? = some (.cells #[.int .i64 y1, .int .i64 y2, .int .i64 y3, .int .i64 y4] 35 (0, 0))

set_option maxRecDepth 100000 in
set_option maxHeartbeats 2000000 in
theorem overlapping_any (p : Addr) (y1 y2 y3 y4 : Int) (w : World) :
    Calls Tryz.prog 38 #[.pointer (some p), .agg #[.int .i64 y1, .int .i64 y2, .int .i64 y3, .int .i64 y4]] w fun e w' =>
      e = .returned (.func (.func 72) #[] #[.pointer (some ⟨w.heap.size, 0, none⟩), .pointer (some ⟨w.heap.size + 1, 0, none⟩)]) ∧ OvIt w.heap.size (.pointer (some p)) y1 y2 y3 y4 w' ∧ Below w.heap.size w w' := by
  have h1 := heap_alloc_new w (.cells #[.pointer (some p)] 63)
  have b1 := below1 w (.cells #[.pointer (some p)] 63)
  have h2 := heap_alloc_new (w.alloc (.cells #[.pointer (some p)] 63)) (.cells #[.int .i64 y1, .int .i64 y2, .int .i64 y3, .int .i64 y4] 35)
  have b2 := below1 (w.alloc (.cells #[.pointer (some p)] 63)) (.cells #[.int .i64 y1, .int .i64 y2, .int .i64 y3, .int .i64 y4] 35)
  have HE : Hid (OvIt w.heap.size (.pointer (some p)) y1 y2 y3 y4 ((w.alloc (.cells #[.pointer (some p)] 63)).alloc (.cells #[.int .i64 y1, .int .i64 y2, .int .i64 y3, .int .i64 y4] 35)) ∧ Below w.heap.size w ((w.alloc (.cells #[.pointer (some p)] 63)).alloc (.cells #[.int .i64 y1, .int .i64 y2, .int .i64 y3, .int .i64 y4] 35))) := by
    refine ⟨⟨(b2.block _ (by simp)).trans h1, ?_⟩, b1.trans (b2.mono (by simp))⟩
    rw [World.size_alloc] at h2
    exact h2
  clear h1 b1 h2 b2
  go_enter Tryz.func38, Tryz.ntmps38
  go_wp2
  go_ret
  exact ⟨rfl, HE.out⟩
end Go.Proofs.YtdkhaghcnijilaaGreat
