/- The program's look-up in the queue, the last write first. -/
import Derived.Test.YtfdfcgjdigpofaaDoorTakI
import Derived.Test.YtfdfcgjdigpofaaDoorIterR
import Derived.RangeFuncBound
import Derived.Shelf.Abstract
import Derived.Shelf.RegionOpen
import Derived.WalkKit
import Derived.OwnWalkIn
import Derived.TacticsInMore
import Derived.LoopNIn
import Derived.LoopIn
namespace Go.Proofs.YtfdfcgjdigpofaaDoor
open Go.RowKit Go.Shelf
attribute [local go_sem] Oper.semAt_some

/-- What the iterator hands over: a place, and the write there. -/
def encQ (qs : List Wr) (vs : List Value) (j : Nat) : Array Value := #[.int .i64 (j : Int), .agg #[.int .i64 (wrN qs j).1, vs[j]?.getD undef]]
/-- What it reads. -/
def QueG (b lo : Nat) (a2 : Option Addr) (c2 : Nat) (vs : List Value) (qs : List Wr) (A : World) : Prop := A.cell? ⟨b, 0, none⟩ = some (.slice a2 qs.length c2) ∧ QuR lo A (.slice a2 qs.length c2) vs qs

set_option maxRecDepth 100000 in
set_option maxHeartbeats 2000000 in
theorem backward_seq (b lo : Nat) (a2 : Option Addr) (c2 : Nat) (vs : List Value) (qs : List Wr) (w : World) (n : Nat) (hn : 1 ≤ n) (hl : qs.length ≤ 2000000) :
    SeqL Fence.wide n Tryd.prog 42 #[.pointer (some ⟨b, 0, none⟩)] (encQ qs vs) (fun (s : Nat) (x : Nat) (s' : Nat) => s = x + 1 ∧ s' = x ∧ x < qs.length) qs.length (fun s => s = 0) (QueG b lo a2 c2 vs qs) w := fun l J D W hW hG hY hJ0 => by
  have g0 := (hG _ _ hJ0).1
  have HY : Hid (∀ (s x s' : Nat) (W1 : World), J s W1 → (s = x + 1 ∧ s' = x ∧ x < qs.length) → YieldAt Fence.wide (n - 1) Tryd.prog l (encQ qs vs x) W1 fun e W' => (e = .returned (.bool true) ∧ J s' W') ∨ (e = .returned (.bool false) ∧ D W')) := hY
  have HG : Hid (∀ s A, J s A → QueG b lo a2 c2 vs qs A) := hG
  clear hW hG hY
  have hz1 : wrap64 ((qs.length : Int) - 1) = (qs.length : Int) - 1 := by unfold wrap64; omega
  refine callsIn_of_wp Tryd.func42 rfl trivial ?_ rfl
  simp only [Tryd.ntmps42, List.size_toArray, List.length_cons, List.length_nil, Nat.reduceAdd, Nat.reduceSub, Array.replicate_succ, Array.replicate_zero, List.push_toArray, List.append_toArray, List.nil_append, List.cons_append]
  gi_wp2
  gi_loopw [3] (fun sh wr => ∃ s : Nat, s ≤ qs.length ∧ sh = .int .i64 ((s : Int) - 1) ∧ J s wr) (fun sh _ => (intOf sh + 1).toNat)
  case atStart => exact ⟨qs.length, Nat.le_refl _, rfl, hJ0⟩
  case round =>
    obtain ⟨s, hs, rfl, hj⟩ := hrel
    rename World => wr
    clear hJ0 g0
    cases s with
    | zero =>
      rw [show ((0 : Nat) : Int) - 1 = -1 from rfl]
      gi_wp2
      go_end0
      exact ⟨⟨_, rfl⟩, .inl ⟨_, rfl, hj⟩⟩
    | succ j =>
      rw [show ((j + 1 : Nat) : Int) - 1 = (j : Int) by omega]
      obtain ⟨g0, QR⟩ := HG.out _ _ hj
      obtain ⟨g, cq, a', c', e, hvj, g1, g2, _, _⟩ := QR.at' (i := j) (by omega)
      injection e with e1 e2 e3
      subst e1
      clear e2 e3 QR
      obtain ⟨fn, tmps, assign, body, hy1, hR⟩ := HY.out (j + 1) j j wr hj ⟨rfl, rfl, by omega⟩
      unfold encQ at hy1
      rw [hvj] at hy1
      simp only [Option.getD_some] at hy1
      generalize wrN qs j = q at *
      obtain ⟨x, ds⟩ := q
      dsimp only at g1 g2 hy1
      gi_wp2_with fail
      refine hR.mono ?_
      rintro e w2 (⟨rfl, hj2⟩ | ⟨rfl, hd⟩)
      · clear hR hy1 g1 g2 g0 hvj
        have hz2 : wrap64 ((j : Int) - 1) = (j : Int) - 1 := by unfold wrap64; omega
        gi_wp2
        go_roundw
        case rel => exact ⟨j, by omega, rfl, hj2⟩
        case measure => simp [intOf]
      · clear hR hy1 g1 g2 g0 hvj
        gi_wp2
        exact bodyPost_ret (results_none rfl _ _ _) rfl ⟨⟨_, rfl⟩, .inr hd⟩

theorem backward_any (a2 : Option Addr) (n c2 : Nat) (w : World) :
    Calls Tryd.prog 36 #[.slice a2 n c2] w fun e w' => e = .returned (.func (.func 42) #[] #[.pointer (some ⟨w.heap.size, 0, none⟩)]) ∧ w' = w.alloc (.cells #[.slice a2 n c2] 24) := by
  go_enter Tryd.func36, Tryd.ntmps36
  go_wp2
  go_ret
  exact ⟨rfl, rfl⟩

theorem wpListIn_store_row {F : Fence} {n : Nat} {P : Program} {ops : Array Oper} {rest : List Oper} {o : Oper} {a : Act} {w : World} {Q : Exit → Act → World → Prop} (hgd : o.guard = none) (ty : TypeId) (x y : Operand) (ho : o.op = .store ty x y)
    (g : Nat) (cells : Array Value) (hx : a.eval x = .pointer (some ⟨g, 0, none⟩)) (hy : a.eval y = .agg cells)
    (t : TypeId) (old : Array Value) (hg : w.heap[g]? = some (.cells old t (0, 0))) (hi : (P.info? ty).map (·.size) = some cells.size)
    (hold : old.size = cells.size) (h1 : cells.all (·.oneCell') = true)
    (h : wpListIn F n P ops Q rest (a.put o.dst undef) (w.setRow g cells)) : wpListIn F n P ops Q (o :: rest) a w := by
  refine wpListIn_plain hgd fun K hK' => ?_
  unfold Oper.wpIn
  refine ⟨?_, ?_⟩
  · simp [Oper.about, ho]
  · rw [Oper.semAt_plain F _ _ (by rw [ho]; intro c hc'; cases hc')]
    simp only [execOp, ho, hx, hy, Instr.storeAt, Instr.sureAddr, Sem.run_bind, Sem.run_pure, Result.andThen_ok, run_storeVar_row w g t ty old cells hg hi hold h1]
    exact hK' _ _ h
theorem Above.ofBelow {B : Nat} {W W' : World} (h : Below W.heap.size W W') : Above B W W' := ⟨h.size, fun k _ hk => h.block k hk⟩
theorem Above.setRow {B : Nat} {a w : World} (h : Above B a w) {g : Nat} (hg : g < B) (cs : Array Value) : Above B a (w.setRow g cs) :=
  h.trans ⟨by simp [World.setRow], fun k hk _ => setRow_other w g k cs (by omega)⟩

/-- What the caller holds while the queue is gone through. -/
structure QI (p0 pb lo : Nat) (a2 : Option Addr) (c2 : Nat) (vs : List Value) (qs : List Wr) (t : Int) (b0 : Addr) (w W : World) : Prop where
  g : QueG pb lo a2 c2 vs qs W
  ix : W.cell? ⟨p0 + 1, 0, none⟩ = some (.int .i64 t)
  arr : W.heap[p0 + 2]? = some (.cells nil64 49 (0, 0))
  er : W.cell? ⟨p0 + 3, 0, none⟩ = some .nilIface
  fr : W.frozen? ⟨p0 + 3, 0, none⟩ = false
  bel : Below p0 w W
theorem QI.under {p0 pb lo B : Nat} {a2 : Option Addr} {c2 : Nat} {vs : List Value} {qs : List Wr} {t : Int} {b0 : Addr} {w W W' : World} (h : QI p0 pb lo a2 c2 vs qs t b0 w W) (hb : Below B W W') (hp : p0 + 3 < B) (hpb : pb < B)
    (nv : ∀ k, (Value.slice a2 qs.length c2).ownBlock = some k → k < B) (nr : ∀ u ∈ vs, ∀ k, u.ownBlock = some k → k < B) : QI p0 pb lo a2 c2 vs qs t b0 w W' :=
  ⟨⟨(World.cell?_of_block (a := ⟨pb, 0, none⟩) (hb.block _ hpb)).trans h.g.1, h.g.2.under hb nv nr⟩, (World.cell?_of_block (a := ⟨p0 + 1, 0, none⟩) (hb.block _ (by show p0 + 1 < B; omega))).trans h.ix, (hb.block _ (by omega)).trans h.arr, (World.cell?_of_block (a := ⟨p0 + 3, 0, none⟩) (hb.block _ hp)).trans h.er, (World.frozen?_of_block (a := ⟨p0 + 3, 0, none⟩) (hb.block _ hp)).trans h.fr, h.bel.trans (hb.mono (by omega))⟩
/-- A write was found. -/
def Fnd (qs : List Wr) (t : Int) (i : Nat) : Prop := i < qs.length ∧ (wrN qs i).1 = t ∧ ∀ i', i < i' → i' < qs.length → (wrN qs i').1 ≠ t
structure QD (p0 : Nat) (qs : List Wr) (t : Int) (w W : World) : Prop where
  i : ∃ i, Fnd qs t i ∧ W.heap[p0 + 2]? = some (.cells (secA (wrN qs i).2) 49 (0, 0))
  er : W.cell? ⟨p0 + 3, 0, none⟩ = some .nilIface
  bel : Below p0 w W
theorem QD.under {p0 B : Nat} {qs : List Wr} {t : Int} {w W W' : World} (h : QD p0 qs t w W) (hb : Below B W W') (hp : p0 + 3 < B) : QD p0 qs t w W' := by
  obtain ⟨⟨i, h1, h2⟩, h3, h4⟩ := h
  exact ⟨⟨i, h1, (hb.block _ (by omega)).trans h2⟩, (World.cell?_of_block (a := ⟨p0 + 3, 0, none⟩) (hb.block _ hp)).trans h3, h4.trans (hb.mono (by omega))⟩
/-- What the look-up answers. -/
def QdRes (b : Addr) (qs : List Wr) (t : Int) (e : Ending) : Prop := (∃ i, Fnd qs t i ∧ e = .returned (.tuple #[.agg (secA (wrN qs i).2), .nilIface])) ∨ ((∀ i, i < qs.length → (wrN qs i).1 ≠ t) ∧ e = .returned (.tuple #[.agg nil64, noSec t b]))
theorem results_row_one {P : Program} {fn : Func} {p q : Tmp} {ty ty2 : TypeId} (h : fn.results = #[.cell p ty, .cell q ty2]) (tmps : Array Value) (w : World) (g g2 : Nat) (t : TypeId) (cs : Array Value) (fr : Nat × Nat) (d : TypeDesc) (u : Value)
    (hp : tmps.getD p undef = .pointer (some ⟨g, 0, none⟩)) (hg : w.heap[g]? = some (.cells cs t fr))
    (hu : P.underlying ty = some d) (hd : (match d with | .struct _ | .array _ _ => true | _ => false) = true) (hi : (P.info? ty).map (·.size) = some cs.size)
    (hq : tmps.getD q undef = .pointer (some ⟨g2, 0, none⟩)) (h2 : (loadVar ty2 ⟨g2, 0, none⟩).run P w = .ok u w) :
    (results fn tmps).run P w = .ok (.tuple #[.agg cs, u]) w := by
  have hp' : tmps[p]?.getD undef = .pointer (some ⟨g, 0, none⟩) := by simpa using hp
  have hq' : tmps[q]?.getD undef = .pointer (some ⟨g2, 0, none⟩) := by simpa using hq
  simp [results, h, hp', hq', asAddr, run_loadVar_row w g t ty cs fr d hg hu hd hi, h2]
theorem loadErr {w : World} {p : Nat} {u : Value} (h : w.cell? ⟨p, 0, none⟩ = some u) : (loadVar 51 ⟨p, 0, none⟩).run Tryd.prog w = .ok u w := by
  simp [go_sem, loadVar, h]

set_option maxRecDepth 100000 in
set_option maxHeartbeats 4000000 in
theorem queued_any {lo : Nat} (b0 : Addr) (a a2 : Option Addr) (n c c2 : Nat) (vs : List Value) (qs : List Wr) (t : Int) (w : World) (h : QuR lo w (.slice a2 qs.length c2) vs qs) (hok : ∀ i, i < qs.length → (wrN qs i).2.length = 64) (hl : qs.length ≤ 2000000) (E : Er b0 w) :
    Calls Tryd.prog 23 #[.agg #[.slice a n c, .slice a2 qs.length c2], .int .i64 t] w fun e w' => QdRes b0 qs t e ∧ Below w.heap.size w w' := by
  have HH : Hid (QuR lo w (.slice a2 qs.length c2) vs qs) := h
  have HO : Hid (∀ i, i < qs.length → (wrN qs i).2.length = 64) := hok
  have HE : Hid (Er b0 w) := E
  have wp := E.pos
  have NV : Hid (∀ k, (Value.slice a2 qs.length c2).ownBlock = some k → k < w.heap.size) := fun k hk => (h.lts.1 k hk).2
  have NR : Hid (∀ u ∈ vs, ∀ k, u.ownBlock = some k → k < w.heap.size) := fun u hu k hk => (h.lts.2 u hu k hk).2
  clear h hok E
  have V1 := Box2.new w (lo := w.heap.size) (Nat.le_refl _) (.slice a n c) (.slice a2 qs.length c2) 26
  have b1 := below1 w (.cells #[.slice a n c, .slice a2 qs.length c2] 26)
  have b2 := below1 (w.alloc (.cells #[.slice a n c, .slice a2 qs.length c2] 26)) (.cells #[.int .i64 t] 3)
  have b3 := below1 ((w.alloc (.cells #[.slice a n c, .slice a2 qs.length c2] 26)).alloc (.cells #[.int .i64 t] 3)) (.cells nil64 49)
  have b4 := below1 (((w.alloc (.cells #[.slice a n c, .slice a2 qs.length c2] 26)).alloc (.cells #[.int .i64 t] 3)).alloc (.cells nil64 49)) (.cells #[.nilIface] 51)
  have ix := cell_new (w.alloc (.cells #[.slice a n c, .slice a2 qs.length c2] 26)) #[.int .i64 t] 3 0 rfl
  have ar := heap_alloc_new ((w.alloc (.cells #[.slice a n c, .slice a2 qs.length c2] 26)).alloc (.cells #[.int .i64 t] 3)) (.cells nil64 49)
  have er := cell_new (((w.alloc (.cells #[.slice a n c, .slice a2 qs.length c2] 26)).alloc (.cells #[.int .i64 t] 3)).alloc (.cells nil64 49)) #[.nilIface] 51 0 rfl
  have fr := frozen_new (((w.alloc (.cells #[.slice a n c, .slice a2 qs.length c2] 26)).alloc (.cells #[.int .i64 t] 3)).alloc (.cells nil64 49)) #[.nilIface] 51 0
  replace ix := bat b4 (bat b3 ix)
  replace ar := (b4.block _ (by simp)).trans ar
  replace V1 := ((V1.below b2).below b3).below b4
  have B := ((b1.trans (b2.mono b1.size)).trans (b3.mono (Nat.le_trans b1.size b2.size))).trans (b4.mono (Nat.le_trans b1.size (Nat.le_trans b2.size b3.size)))
  simp only [World.size_alloc] at ix ar er fr
  have z4 : ((((w.alloc (.cells #[.slice a n c, .slice a2 qs.length c2] 26)).alloc (.cells #[.int .i64 t] 3)).alloc (.cells nil64 49)).alloc (.cells #[.nilIface] 51)).heap.size = w.heap.size + 4 := by simp
  clear b1 b2 b3 b4
  refine (callsIn_wide (n := 6)).1 ?_
  refine callsIn_of_wp_marks Tryd.func23 rfl trivial ?_ rfl
  simp only [Tryd.ntmps23, List.size_toArray, List.length_cons, List.length_nil, Nat.reduceAdd, Nat.reduceSub, Array.replicate_succ, Array.replicate_zero, List.push_toArray, List.append_toArray, List.nil_append, List.cons_append]
  gi_wp2_with fail
  refine ⟨trivial, ?_⟩
  rw [lit64]
  have e2 : w.heap.size + 1 + 1 = w.heap.size + 2 := rfl
  have e3 : w.heap.size + 1 + 1 + 1 = w.heap.size + 3 := rfl
  rw [e3] at er fr
  rw [e2] at ar
  rw [e3, e2]
  clear e2 e3 V1
  generalize (((w.alloc (.cells #[.slice a n c, .slice a2 qs.length c2] 26)).alloc (.cells #[.int .i64 t] 3)).alloc (.cells nil64 49)).alloc (.cells #[.nilIface] 51) = W0 at *
  refine (callsIn_wide.2 (backward_any a2 qs.length c2 _)).mono ?_
  rintro e w1 ⟨rfl, rfl⟩
  have bn := below1 W0 (.cells #[.slice a2 qs.length c2] 24)
  have pc := cell_new W0 #[.slice a2 qs.length c2] 24 0 rfl
  have B1 := B.trans (bn.mono B.size)
  have Q0 : Hid (QI w.heap.size (w.heap.size + 4) lo a2 c2 vs qs t b0 w (W0.alloc (.cells #[.slice a2 qs.length c2] 24))) := ⟨⟨by rw [z4] at pc; exact pc, HH.out.below B1⟩, bat bn ix, (bn.block _ (by omega)).trans ar, bat bn er, (World.frozen?_of_block (a := ⟨w.heap.size + 3, 0, none⟩) (bn.block _ (by show w.heap.size + 3 < _; omega))).trans fr, B1⟩
  have zL : (W0.alloc (.cells #[.slice a2 qs.length c2] 24)).heap.size = w.heap.size + 5 := by rw [World.size_alloc, z4]
  rw [z4]
  clear ix ar er fr B bn pc B1 z4
  generalize W0.alloc (.cells #[.slice a2 qs.length c2] 24) = WL at *
  gi_wp2
  refine wpIn_rangeFunc_find rfl (by omega) (gf := 42) (lb := #[.pointer (some ⟨w.heap.size + 4, 0, none⟩)]) rfl trivial (enters_of Tryd.func42 (by kernel_rfl) rfl) (backward_seq (w.heap.size + 4) lo a2 c2 vs qs _ _ (by omega) hl) (fun _ => rfl)
    (fun s W => Hid (QI w.heap.size (w.heap.size + 4) lo a2 c2 vs qs t b0 w W) ∧ Hid (∀ i, s ≤ i → i < qs.length → (wrN qs i).1 ≠ t)) (fun W => QD w.heap.size qs t w W) (fun s A hs => hs.1.out.g) ?hI (fun A B' hd hb => hd.under hb (by omega)) ⟨Q0, fun i h1 h2 => absurd h2 (by omega)⟩ ?round ?done ?ret
  case hI =>
    rintro s A B' ⟨hq, hf⟩ hb
    exact ⟨hq.out.under hb (by omega) (by omega) (fun k hk => by have := NV.out k hk; omega) (fun u hu k hk => by have := NR.out u hu k hk; omega), hf⟩
  case round =>
    rintro s x s' W K ⟨hq, hf⟩ ⟨rfl, rfl, hlt⟩ hsz hK
    unfold encQ
    obtain ⟨g, cq, a', c', e9, hvj, g9, g8, r9, f9⟩ := hq.out.g.2.at' hlt
    clear e9 g9 g8 r9 f9
    rw [hvj]
    simp only [Option.getD_some]
    have hlen := HO.out s' hlt
    rw [hlen] at hvj ⊢
    obtain ⟨q9, hq9⟩ : ∃ q, Hid (wrN qs s' = q) := ⟨_, rfl⟩
    rw [hq9.out] at hlen ⊢
    obtain ⟨x, ds⟩ := q9
    dsimp only at hlen ⊢
    have HV : Hid (vs[s']? = some (.slice a' 64 c')) := hvj
    have HDL : Hid (ds.length = 64) := hlen
    clear hvj hlen
    gi_wp2
    refine hK _ _ ((Above.refl _ _).alloc _) ?_
    intro o
    have bn := below1 W (.cells #[.int .i64 x, .slice a' 64 c'] 34)
    have Vb := Box2.new W (lo := 0) (by omega) (.int .i64 x) (.slice a' 64 c') 34
    have bp := belowPut (W.alloc (.cells #[.int .i64 x, .slice a' 64 c'] 34)) (B := WL.heap.size) (Nat.le_succ _) o
    have bo : ((W.alloc (.cells #[.int .i64 x, .slice a' 64 c'] 34)).putObj (WL.heap.size + 1) o).heap[W.heap.size]? = (W.alloc (.cells #[.int .i64 x, .slice a' 64 c'] 34)).heap[W.heap.size]? := World.putObj_heap_other (by omega)
    have u0 := (World.cell?_of_block (a := ⟨W.heap.size, 0, none⟩) bo).trans Vb.c0
    have u1 := (World.cell?_of_block (a := ⟨W.heap.size, 1, none⟩) bo).trans Vb.c1
    have q3 : Hid (QI w.heap.size (w.heap.size + 4) lo a2 c2 vs qs t b0 w ((W.alloc (.cells #[.int .i64 x, .slice a' 64 c'] 34)).putObj (WL.heap.size + 1) o)) := (hq.out.under (bn.mono (show WL.heap.size ≤ W.heap.size by omega)) (by omega) (by omega) (fun k hk => by have := NV.out k hk; omega) (fun u hu k hk => by have := NR.out u hu k hk; omega)).under bp (by omega) (by omega) (fun k hk => by have := NV.out k hk; omega) (fun u hu k hk => by have := NR.out u hu k hk; omega)
    clear hK hq bn Vb bp bo
    generalize hpW : W.heap.size = pW at *
    generalize (W.alloc (.cells #[.int .i64 x, .slice a' 64 c'] 34)).putObj (WL.heap.size + 1) o = W3 at *
    have ix := q3.out.ix
    by_cases hxt : x = t
    · have FN : Hid (Fnd qs t s') := ⟨hlt, by rw [hq9.out]; exact hxt, fun i' h1 h2 => hf.out i' (by omega) h2⟩
      subst hxt
      have SB : SeesB W3 a' c' ds := by
        have := q3.out.g.2.rows s' _ HV.out
        rw [hq9.out] at this
        have r2 : RowB lo W3 (.slice a' ds.length c') ds := by rw [HDL.out]; exact this
        exact r2.seesB
      gi_wp2_with fail
      refine ⟨trivial, ?_⟩
      refine (callsIn_wide.2 (sectorOf_any a' c' ds _ SB HDL.out)).mono ?_
      rintro e w4 ⟨rfl, hb⟩
      have q4 := q3.out.under (hb.mono (show WL.heap.size ≤ W3.heap.size by have := World.block_lt_of_cell? _ _ u0; dsimp only at this; omega)) (by omega) (by omega) (fun k hk => by have := NV.out k hk; omega) (fun u hu k hk => by have := NR.out u hu k hk; omega)
      have hab : Above WL.heap.size W3 w4 := Above.ofBelow hb
      clear hb q3 SB ix u0 u1
      obtain ⟨_, _, har, her, hfr, hbl⟩ := q4
      have hsz9 : (secA ds).size = 64 := by rw [secA_size]; exact HDL.out
      have h19 := secA_one ds
      have gq := grownBy_setRow w4 (w.heap.size + 2) (secA ds)
      have har2 := setRow_heap w4 (w.heap.size + 2) _ (secA ds) _ _ har
      have her2 := cell_drawnD gq her (by omega)
      have hfr2 : (w4.setRow (w.heap.size + 2) (secA ds)).frozen? ⟨w.heap.size + 3, 0, none⟩ = false := (World.frozen?_of_block (a := ⟨w.heap.size + 3, 0, none⟩) (setRow_other w4 (w.heap.size + 2) (w.heap.size + 3) (secA ds) (by omega))).trans hfr
      have hbl2 := hbl.grown gq hbl.size (fun k hk => by injection hk with hk; omega)
      have hab2 := hab.setRow (g := w.heap.size + 2) (by omega) (secA ds)
      gi_wp2_with (refine wpListIn_store_row rfl 49 (.tmp 4) (.tmp 19) rfl (w.heap.size + 2) (secA ds) rfl rfl 49 nil64 har (by rw [hsz9]; exact infoSec) (by rw [hsz9]; rfl) h19 ?_)
      have g9 : (w4.setRow (w.heap.size + 2) (secA ds)).grownBy ((w4.setRow (w.heap.size + 2) (secA ds)).setCell ⟨w.heap.size + 3, 0, none⟩ .nilIface) (some (w.heap.size + 3)) := grownBy_setCell (p := ⟨w.heap.size + 3, 0, none⟩) (grownBy_refl _ _) rfl _
      exact ⟨hab2.setCell (p := ⟨w.heap.size + 3, 0, none⟩) (by show w.heap.size + 3 < _; omega) _, ⟨⟨s', FN.out, by rw [hq9.out]; exact (g9.block _ (Array.getElem?_eq_some_iff.1 har2).1 (fun e => by injection e with e; omega)).trans har2⟩, cell_same her2 _, hbl2.grown g9 hbl2.size (fun k hk => by injection hk with hk; omega)⟩⟩
    · have HF2 : Hid (∀ i, s' ≤ i → i < qs.length → (wrN qs i).1 ≠ t) := fun i h1 h2 => by
        by_cases e : i = s'
        · subst e; rw [hq9.out]; exact hxt
        · exact hf.out i (by omega) h2
      have hne : (x == t) = false := by simpa using hxt
      gi_wp2
      exact ⟨Above.refl _ _, q3, HF2⟩
  case done =>
    rintro s W rfl ⟨hq, hf⟩ hk
    have bel := hq.out.bel
    have ER : Hid (Er b0 W) := HE.out.below bel wp
    have NF : Hid (∀ i, i < qs.length → (wrN qs i).1 ≠ t) := fun i h2 => hf.out i (Nat.zero_le _) h2
    gi_wp2_with fail
    refine wpIn_mono (Q := fun e a' W' => match e, a', W' with
      | .normal, a', W' => a'.defers = [{ target := .collected WL.heap.size, args := #[] }] ∧ a'.tmps.getD 4 undef = .pointer (some ⟨w.heap.size + 2, 0, none⟩) ∧ a'.tmps.getD 5 undef = .pointer (some ⟨w.heap.size + 3, 0, none⟩) ∧ W'.heap[w.heap.size + 2]? = some (.cells nil64 49 (0, 0)) ∧ W'.cell? ⟨w.heap.size + 3, 0, none⟩ = some (noSec t b0) ∧ W'.heap[WL.heap.size]? = some (.deferred (some [])) ∧ Below w.heap.size w W'
      | _, _, _ => False) (wpIn_wide.2 ?walk) ?post
    case post =>
      rintro e a' W' hq2
      cases e with
      | normal =>
        obtain ⟨h1, h2, h3, h4, h5, h6, h7⟩ := hq2
        gi_wp2_with fail
        show LeavesInM _ _ _ _ a'.tmps _ a'.defers .returning W'
        rw [h1]
        refine ⟨by simp, .inl ⟨_, _, rfl, run_takeDeferred h6, ?_⟩⟩
        have bp := belowPut W' (B := WL.heap.size) (Nat.le_refl _) (.deferred none)
        exact ⟨_, results_row_one (p := 4) (q := 5) rfl _ _ (w.heap.size + 2) (w.heap.size + 3) 49 nil64 (0, 0) _ (noSec t b0) h2 ((bp.block _ (by omega)).trans h4) Tryd.underlying49 rfl infoSec h3 (loadErr ((World.cell?_of_block (a := ⟨w.heap.size + 3, 0, none⟩) (bp.block _ (by show w.heap.size + 3 < _; omega))).trans h5)), .inr ⟨NF.out, rfl⟩, h7.trans (bp.mono (by omega))⟩
      | ret => exact hq2.elim
      | exit id => exact hq2.elim
      | goto t => exact hq2.elim
      | panic ch => exact hq2.elim
      | outgrown => exact hq2.elim
    case walk =>
      have bd := ((Below.refl W.heap.size W).drew : Below W.heap.size W _)
      have N : W.drew.cell? ⟨0, 0, none⟩ = some (.iface 93 (.pointer (some b0))) ∧ W.drew.heap[w.heap.size + 2]? = some (.cells nil64 49 (0, 0)) ∧ W.drew.cell? ⟨w.heap.size + 1, 0, none⟩ = some (.int .i64 t) := ⟨ER.out, hq.out.arr, hq.out.ix⟩
      have er := hq.out.er
      have fr := hq.out.fr
      have er9 : W.drew.cell? ⟨w.heap.size + 3, 0, none⟩ = some .nilIface := er
      have fr9 : W.drew.frozen? ⟨w.heap.size + 3, 0, none⟩ = false := fr
      have hk9 : W.drew.heap[WL.heap.size]? = some (.deferred (some [])) := hk
      have B9 := bel.trans (bd.mono bel.size)
      clear bd er fr hk bel hq hf Q0 ER
      refine wp_region_held_drew (S := fun W => W.cell? ⟨0, 0, none⟩ = some (.iface 93 (.pointer (some b0))) ∧ W.heap[w.heap.size + 2]? = some (.cells nil64 49 (0, 0)) ∧ W.cell? ⟨w.heap.size + 1, 0, none⟩ = some (.int .i64 t)) (by kernel_rfl) N (fun hHeld => ?_)
      clear hHeld
      revert N er9 fr9 hk9 B9
      generalize W.drew = ww0
      intro N er9 fr9 hk9 B9
      refine takeW (i := 0) (v := .agg nil64) (by simp only [List.getElem?_toArray, List.getElem?_cons_zero]; exact rfl) (by kernel_rfl) (by kernel_rfl) (by kernel_rfl) (by exact fun _ _ _ h => h) (by rfl) (by intro wq hSw; simp only [execOp, Act.eval, Array.map_empty]; rfl) (by assumption) ?_
      try simp only [Act.put, List.setIfInBounds_toArray, List.set_cons_zero, List.set_cons_succ]
      refine takeW (i := 1) (by simp only [List.getElem?_toArray, List.getElem?_cons_succ, List.getElem?_cons_zero]; exact rfl) (by kernel_rfl) (by kernel_rfl) (by kernel_rfl) (by exact fun _ _ _ h => h) (by rfl) (by intro wq hSw; obtain ⟨p1, p2, p4⟩ := hSw; go_simp <;> with_reducible rfl) (by assumption) ?_
      try simp only [Act.put, List.setIfInBounds_toArray, List.set_cons_zero, List.set_cons_succ]
      refine takeW (i := 2) (by simp only [List.getElem?_toArray, List.getElem?_cons_succ, List.getElem?_cons_zero]; exact rfl) (by kernel_rfl) (by kernel_rfl) (by kernel_rfl) (by exact fun _ _ _ h => h) (by rfl) (by intro wq hSw; obtain ⟨p1, p2, p4⟩ := hSw; go_simp <;> with_reducible rfl) (by assumption) ?_
      try simp only [Act.put, List.setIfInBounds_toArray, List.set_cons_zero, List.set_cons_succ]
      refine takeW (i := 3) (by simp only [List.getElem?_toArray, List.getElem?_cons_succ, List.getElem?_cons_zero]; exact rfl) (by kernel_rfl) (by kernel_rfl) (by kernel_rfl) (by exact fun _ _ _ h => h) (by rfl) (by intro wq hSw; go_simp <;> with_reducible rfl) (by assumption) ?_
      try simp only [Act.put, List.setIfInBounds_toArray, List.set_cons_zero, List.set_cons_succ]
      refine takeW (i := 4) (by simp only [List.getElem?_toArray, List.getElem?_cons_succ, List.getElem?_cons_zero]; exact rfl) (by kernel_rfl) (by kernel_rfl) (by kernel_rfl) (by exact fun _ _ _ h => h) (by rfl) (by intro wq hSw; go_simp <;> with_reducible rfl) (by assumption) ?_
      try simp only [Act.put, List.setIfInBounds_toArray, List.set_cons_zero, List.set_cons_succ]
      refine wpAnyH_ready (rs := [5]) (by kernel_rfl) (by simp) (AllReadyH.cons (by simp only [List.getElem?_toArray, List.getElem?_cons_succ, List.getElem?_cons_zero]; exact rfl) (fun K hK => ?_) AllReadyH.nil)
      have gq := grownBy_setRow ww0 (w.heap.size + 2) nil64
      refine wp_store_row 49 (.tmp 4) (.tmp 20) rfl (w.heap.size + 2) nil64 rfl rfl 49 nil64 N.2.1 infoSec rfl nil64_one ?_
      have N9 : _ ∧ _ ∧ _ := ⟨cell_drawnD gq N.1 (by omega), setRow_heap ww0 (w.heap.size + 2) _ nil64 _ _ N.2.1, cell_drawnD gq N.2.2 (by omega)⟩
      replace er9 := cell_drawnD gq er9 (by omega)
      replace fr9 := (World.frozen?_of_block (a := ⟨w.heap.size + 3, 0, none⟩) (setRow_other ww0 (w.heap.size + 2) (w.heap.size + 3) nil64 (by omega))).trans fr9
      replace hk9 := (setRow_other ww0 (w.heap.size + 2) WL.heap.size nil64 (by omega)).trans hk9
      replace B9 := B9.grown gq B9.size (fun k hk => by injection hk with hk; omega)
      generalize ww0.setRow (w.heap.size + 2) nil64 = ww9 at *
      refine hK.out _ _ N9 (fun hHeld => ?_)
      clear hK K hHeld gq N
      try simp only [Act.put]
      refine wpAnyH_ready (rs := [6]) (by kernel_rfl) (by simp) (AllReadyH.cons (by simp only [List.getElem?_toArray, List.getElem?_cons_succ, List.getElem?_cons_zero]; exact rfl) (fun K hK => ?_) AllReadyH.nil)
      go_simp
      have gq : ww9.grownBy (ww9.setCell ⟨w.heap.size + 3, 0, none⟩ (noSec t b0)) (some (w.heap.size + 3)) := grownBy_setCell (p := ⟨w.heap.size + 3, 0, none⟩) (grownBy_refl _ _) rfl _
      have N10 : _ ∧ _ ∧ _ := ⟨cell_drawnD gq N9.1 (by omega), (gq.block _ (Array.getElem?_eq_some_iff.1 N9.2.1).1 (fun e => by injection e with e; omega)).trans N9.2.1, cell_drawnD gq N9.2.2 (by omega)⟩
      have er10 := cell_same er9 (noSec t b0)
      have hk10 := (gq.block _ (Array.getElem?_eq_some_iff.1 hk9).1 (fun e => by injection e with e; omega)).trans hk9
      have B10 := B9.grown gq B9.size (fun k hk => by injection hk with hk; omega)
      refine hK.out _ _ N10 (fun hHeld => ?_)
      clear hK K hHeld gq
      try simp only [Act.put]
      refine wpAnyH_done (by kernel_rfl) ?_ _
      exact ⟨(by rw [zL]), rfl, rfl, N10.2.1, er10, hk10, B10⟩
  case ret =>
    intro W hd hk
    obtain ⟨⟨i, hi, har⟩, her, hbl⟩ := hd
    have hlen := HO.out i hi.1
    refine ⟨by simp, .inl ⟨_, _, rfl, run_takeDeferred hk, ?_⟩⟩
    have bp := belowPut W (B := WL.heap.size) (Nat.le_refl _) (.deferred none)
    exact ⟨_, results_row_one (p := 4) (q := 5) rfl _ _ (w.heap.size + 2) (w.heap.size + 3) 49 (secA (wrN qs i).2) (0, 0) _ .nilIface rfl ((bp.block _ (by omega)).trans har) Tryd.underlying49 rfl (by rw [secA_size, hlen]; exact infoSec) rfl (loadErr ((World.cell?_of_block (a := ⟨w.heap.size + 3, 0, none⟩) (bp.block _ (by show w.heap.size + 3 < _; omega))).trans her)), .inl ⟨i, hi, rfl⟩, hbl.trans (bp.mono (by omega))⟩
end Go.Proofs.YtfdfcgjdigpofaaDoor
