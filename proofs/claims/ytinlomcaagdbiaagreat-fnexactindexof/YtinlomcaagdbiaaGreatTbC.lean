/- l15Copy of the specification: a copy of a tree. -/
import Derived.Test.YtinlomcaagdbiaaGreatIxM
import Derived.Test.YtinlomcaagdbiaaGreatHeldM
import Derived.Test.YtinlomcaagdbiaaGreatTrZ
import Derived.Laws.Tables
import Derived.Deep.Cut
import Derived.Deep.DeepCutAuto
namespace Go.Proofs.YtinlomcaagdbiaaGreat
open Go.RowKit

theorem tyB {w w' : World} {p : Nat} {e : TypeId} (h : ∃ cs : Array Value, w.heap[p]? = some (.cells cs e (0, 0))) (hb : Below w.heap.size w w') : ∃ cs : Array Value, w'.heap[p]? = some (.cells cs e (0, 0)) := by
 obtain ⟨cs, h⟩ := h
 exact ⟨cs, (hb.block p (Array.getElem?_eq_some_iff.1 h).1).trans h⟩
theorem tyG {w w' : World} {p : Nat} {e : TypeId} {R : Option Nat} (h : ∃ cs : Array Value, w.heap[p]? = some (.cells cs e (0, 0))) (g : w.grownBy w' R) (ne : some p ≠ R) : ∃ cs : Array Value, w'.heap[p]? = some (.cells cs e (0, 0)) := by
 obtain ⟨cs, h⟩ := h
 exact ⟨cs, (g.block p (Array.getElem?_eq_some_iff.1 h).1 ne).trans h⟩
theorem tyS {w : World} {p : Nat} {e : TypeId} (h : ∃ cs : Array Value, w.heap[p]? = some (.cells cs e (0, 0))) (k : Nat) (u : Value) : ∃ cs : Array Value, (w.setCell ⟨p, k, none⟩ u).heap[p]? = some (.cells cs e (0, 0)) := by
 obtain ⟨cs, h⟩ := h
 refine ⟨cs.setIfInBounds k u, ?_⟩
 simp only [World.setCell]
 rw [Array.getElem?_modify, if_pos rfl, h]
 rfl
theorem keptNe {base e s n p : Nat} {e' : TypeId} {w : World} {v : Value} {xs : List Value} (h : w.ownsRow base e s v n xs) (h' : ∃ cs : Array Value, w.heap[p]? = some (.cells cs e' (0, 0))) (ne : e ≠ e') : v.ownBlock = none ∨ v.ownBlock ≠ some p := by
 cases q : v.ownBlock with
 | none => exact .inl rfl
 | some k => exact .inr (fun e2 => by injection e2 with e2; exact tyNeK (ownsTyK h k q) h' ne e2)
theorem Bx7.grownK {w w' : World} {p : Nat} {u0 u1 u2 u3 u4 u5 u6 : Value} {R : Option Nat} (h : Bx7 w p u0 u1 u2 u3 u4 u5 u6) (g : w.grownBy w' R) (ne : some p ≠ R) : Bx7 w' p u0 u1 u2 u3 u4 u5 u6 :=
 ⟨g.cell h.c0 ne, g.cell h.c1 ne, g.cell h.c2 ne, g.cell h.c3 ne, g.cell h.c4 ne, g.cell h.c5 ne, g.cell h.c6 ne, fun o => (World.frozen?_of_block (a := ⟨p, o, none⟩) (g.block p h.lt ne)).trans (h.fr o)⟩
theorem _root_.Go.World.grownBy.belowK {a w w' : World} {R : Option Nat} (h : a.grownBy w R) (hb : Below w.heap.size w w') : a.grownBy w' R :=
 ⟨hb.os.trans h.os, hb.tape.trans h.tape, hb.output.trans h.output, Nat.le_trans h.size hb.size, fun k hk n => (hb.block k (Nat.lt_of_lt_of_le hk h.size)).trans (h.block k hk n)⟩
theorem grown_own {a w w' : World} {r row : Option Nat} (h : a.grownBy w r) (g : w.grownBy w' row) (hr : ∀ k, row = some k → a.heap.size ≤ k) : a.grownBy w' r :=
 ⟨g.os.trans h.os, g.tape.trans h.tape, g.output.trans h.output, Nat.le_trans h.size g.size, fun k hk hne => (g.block k (Nat.lt_of_lt_of_le hk h.size) (fun e => by have := hr k e.symm; omega)).trans (h.block k hk hne)⟩
theorem LvE.put {rb pb : Nat} {w : World} {v : Value} {es : List Ke} {ks : List Nd} (h : LvE rb pb w v es ks) {p : Nat} (hp : p < rb ∧ p < pb) (k : Nat) (u : Value) : LvE rb pb (w.setCell ⟨p, k, none⟩ u) v es ks := by
 refine ⟨World.ownsRow.kept h.row (grownBy_setCell (row := some p) (grownBy_refl _ _) rfl u) ?_, h.len, fun i hi => ⟨(h.nd i hi).1, NdP.chg (H := fun q => q = p) (fun b j z nb e => (cell_other (.inl (fun e2 => nb e2.symm)) u).trans e) (fun q hq e => by have := hq.1; omega) _ (h.nd i hi).2⟩⟩
 cases q : v.ownBlock with
 | none => exact .inl rfl
 | some j => exact .inr (fun e => by injection e with e; have := (World.ownsRow.lt h.row j q).1; omega)
theorem rowX_apI {base base' : Nat} {w w' : World} {v v' : Value} {bs : List Bx} {ds : List Int} (h : RowBx base w v bs) (h' : RowI base' w v' ds) (g : w.grownBy w' v'.ownBlock) : RowBx base w' v bs := ownsApK (show World.ownsRow _ _ _ _ _ _ _ from h) (show World.ownsRow _ _ _ _ _ _ _ from h') (by decide) g
theorem rowI_apX {base base' : Nat} {w w' : World} {v v' : Value} {bs : List Bx} {ds : List Int} (h : RowI base w v ds) (h' : RowBx base' w v' bs) (g : w.grownBy w' v'.ownBlock) : RowI base w' v ds := ownsApK (show World.ownsRow _ _ _ _ _ _ _ from h) (show World.ownsRow _ _ _ _ _ _ _ from h') (by decide) g
theorem rowX_apN {base p : Nat} {w w' : World} {v : Value} {bs : List Bx} (h : RowBx base w v bs) (h' : ∃ cs : Array Value, w.heap[p]? = some (.cells cs 32 (0, 0))) (g : w.grownBy w' (some p)) : RowBx base w' v bs := World.ownsRow.kept h g (keptNe (show World.ownsRow _ _ _ _ _ _ _ from h) h' (by decide))
theorem rowI_apN {base p : Nat} {w w' : World} {v : Value} {ds : List Int} (h : RowI base w v ds) (h' : ∃ cs : Array Value, w.heap[p]? = some (.cells cs 32 (0, 0))) (g : w.grownBy w' (some p)) : RowI base w' v ds := World.ownsRow.kept h g (keptNe (show World.ownsRow _ _ _ _ _ _ _ from h) h' (by decide))
theorem ne_rowX {base p : Nat} {w : World} {v : Value} {bs : List Bx} (h : RowBx base w v bs) (h' : ∃ cs : Array Value, w.heap[p]? = some (.cells cs 32 (0, 0))) : some p ≠ v.ownBlock := fun e => tyNeK h' (ownsTyK (show World.ownsRow _ _ _ _ _ _ _ from h) p e.symm) (by decide) rfl
theorem ne_rowI {base p : Nat} {w : World} {v : Value} {ds : List Int} (h : RowI base w v ds) (h' : ∃ cs : Array Value, w.heap[p]? = some (.cells cs 32 (0, 0))) : some p ≠ v.ownBlock := fun e => tyNeK h' (ownsTyK (show World.ownsRow _ _ _ _ _ _ _ from h) p e.symm) (by decide) rfl
theorem RowBx.belowK {base : Nat} {w w' : World} {v : Value} {bs : List Bx} (h : RowBx base w v bs) (hb : Below w.heap.size w w') : RowBx base w' v bs := owns_below h hb
theorem Bx7.ofHeap {w : World} {p : Nat} {u0 u1 u2 u3 u4 u5 u6 : Value} {T : TypeId} (h : w.heap[p]? = some (.cells #[u0, u1, u2, u3, u4, u5, u6] T (0, 0))) : Bx7 w p u0 u1 u2 u3 u4 u5 u6 :=
 ⟨by simp [World.cell?, h], by simp [World.cell?, h], by simp [World.cell?, h], by simp [World.cell?, h], by simp [World.cell?, h], by simp [World.cell?, h], by simp [World.cell?, h], fun o => by simp [World.frozen?, h]⟩
theorem hpB {w w' : World} {p : Nat} {o : Obj} (h : w.heap[p]? = some o) (hb : Below w.heap.size w w') : w'.heap[p]? = some o := (hb.block p (Array.getElem?_eq_some_iff.1 h).1).trans h
theorem hpG {w w' : World} {p : Nat} {o : Obj} {R : Option Nat} (h : w.heap[p]? = some o) (g : w.grownBy w' R) (ne : some p ≠ R) : w'.heap[p]? = some o := (g.block p (Array.getElem?_eq_some_iff.1 h).1 ne).trans h
theorem grownRow (w : World) (g : Nat) (cs : Array Value) : w.grownBy (w.setRow g cs) (some g) := ⟨rfl, rfl, rfl, by simp, fun k _ n => setRow_other w g k cs (fun e => n (by rw [e]))⟩
theorem infoN7 : (Tryz.prog.info? 32).map (·.size) = some 7 := by kernel_rfl
theorem builtN (x1 x2 x3 x4 : Int) (a5 a9 : Option Addr) (n5 c5 n9 c9 : Nat) : Tryz.prog.built 32 [(0, .agg #[.int .i64 x1, .int .i64 x2, .int .i64 x3, .int .i64 x4]), (1, .slice a5 n5 c5), (2, .slice a9 n9 c9)] = some #[.int .i64 x1, .int .i64 x2, .int .i64 x3, .int .i64 x4, .slice a5 n5 c5, .slice a9 n9 c9, .slice none 0 0] := by kernel_rfl
theorem run_bldN (x1 x2 x3 x4 : Int) (a5 a9 : Option Addr) (n5 c5 n9 c9 : Nat) (w : World) : (Instr.build 32 #[(0, .agg #[.int .i64 x1, .int .i64 x2, .int .i64 x3, .int .i64 x4]), (1, .slice a5 n5 c5), (2, .slice a9 n9 c9)]).run Tryz.prog w = .ok (.agg #[.int .i64 x1, .int .i64 x2, .int .i64 x3, .int .i64 x4, .slice a5 n5 c5, .slice a9 n9 c9, .slice none 0 0]) w := run_build w 32 _ _ (builtN x1 x2 x3 x4 a5 a9 n5 c5 n9 c9)
def CopC (t : Nd) : Prop := ∀ (v1 v2 v3 : Value) (w : World), NdIn 0 w t v1 v2 v3 → ndSz t ≤ 1048576 →
 Calls Tryz.prog 58 #[ndV t v1 v2 v3] w fun e w' => ∃ u1 u2 u3, e = .returned (ndV t u1 u2 u3) ∧ NdP (fun q => w.heap.size ≤ q) w' t u1 u2 u3 ∧ Below w.heap.size w w'

set_option maxRecDepth 100000 in
set_option maxHeartbeats 4000000 in
theorem l15Copy_step (b : Bx) (bs : List Bx) (is : List Int) (ks : List Nd) (ih : ∀ k ∈ ks, CopC k) : CopC (.mk b bs is ks) := by
 intro v1 v2 v3 w h hs
 obtain ⟨a1, c1, a2, c2, a3, c3, rfl, rfl, rfl, X0, _, I0, _, N0⟩ := h.open
 obtain ⟨iN, hiN, hN0, hN1, hN2⟩ := info_parts infoN
 dsimp only [Nd.bs, Nd.is, Nd.ks] at X0 I0 N0 ⊢
 have HSZ : Hid (bs.length ≤ 1048576 ∧ is.length ≤ 1048576 ∧ ks.length ≤ 1048576 ∧ ∀ k ∈ ks, ndSz k ≤ 1048576) := by
  simp only [ndSz] at hs
  exact ⟨by omega, by omega, by omega, fun k hk => by have := ndsSz_mem hk; omega⟩
 have IH : Hid (∀ k ∈ ks, CopC k) := ih
 obtain ⟨x1, x2, x3, x4⟩ := b
 have hb1 := below1 w (.cells #[.int .i64 x1, .int .i64 x2, .int .i64 x3, .int .i64 x4, .slice a1 bs.length c1, .slice a2 is.length c2, .slice a3 ks.length c3] 32)
 have V1 := Bx7.new w (.int .i64 x1) (.int .i64 x2) (.int .i64 x3) (.int .i64 x4) (.slice a1 bs.length c1) (.slice a2 is.length c2) (.slice a3 ks.length c3) 32
 obtain ⟨wa, hwa⟩ : ∃ W, w.alloc (.cells #[.int .i64 x1, .int .i64 x2, .int .i64 x3, .int .i64 x4, .slice a1 bs.length c1, .slice a2 is.length c2, .slice a3 ks.length c3] 32) = W := ⟨_, rfl⟩
 have hza : wa.heap.size = w.heap.size + 1 := by rw [← hwa, World.size_alloc]
 have HWA : Hid (w.alloc (.cells #[.int .i64 x1, .int .i64 x2, .int .i64 x3, .int .i64 x4, .slice a1 bs.length c1, .slice a2 is.length c2, .slice a3 ks.length c3] 32) = wa) := hwa
 rw [hwa] at hb1 V1
 have hb2 := below1 wa (.cells #[.int .i64 0, .int .i64 0, .int .i64 0, .int .i64 0, .slice none 0 0, .slice none 0 0, .slice none 0 0] 32)
 have V2 := Bx7.new wa (.int .i64 0) (.int .i64 0) (.int .i64 0) (.int .i64 0) (.slice none 0 0) (.slice none 0 0) (.slice none 0 0) 32
 replace V1 := V1.below hb2
 have B0 := hb1.trans (hb2.mono hb1.size)
 replace X0 := X0.below B0
 replace I0 := I0.below B0
 replace N0 := N0.below B0
 have hz0 : (wa.alloc (.cells #[.int .i64 0, .int .i64 0, .int .i64 0, .int .i64 0, .slice none 0 0, .slice none 0 0, .slice none 0 0] 32)).heap.size = w.heap.size + 2 := by rw [World.size_alloc, hza]
 rw [hza] at V2
 clear hwa hb1 hb2 h hs ih
 unfold ndV
 dsimp only [Nd.b]
 go_enter Tryz.func58, Tryz.ntmps58
 go_upto_region 1 with fail
 rw [HWA.out]
 generalize wa.alloc (.cells #[.int .i64 0, .int .i64 0, .int .i64 0, .int .i64 0, .slice none 0 0, .slice none 0 0, .slice none 0 0] 32) = W0 at *
 obtain ⟨k0, k1, k2, k3, k4, k5, k6, _⟩ := id V1
 have hlb := HSZ.out.1
 have hli := HSZ.out.2.1
 have HB0 : Hid (Below w.heap.size w W0) := B0
 have HV2 : Hid (Bx7 W0 (w.heap.size + 1) (.int .i64 0) (.int .i64 0) (.int .i64 0) (.int .i64 0) (.slice none 0 0) (.slice none 0 0) (.slice none 0 0)) := V2
 clear B0 V2
 go_cut [3] (fun s3 W => ∃ (zp : Nat) (a5 : Option Addr) (c5 : Nat) (a9 : Option Addr) (c9 : Nat), s3 = .pointer (some ⟨zp, 0, none⟩) ∧ W0.heap.size ≤ zp ∧ Bx7 W zp (.int .i64 x1) (.int .i64 x2) (.int .i64 x3) (.int .i64 x4) (.slice a5 bs.length c5) (.slice a9 is.length c9) (.slice none 0 0) ∧ (∃ cs : Array Value, W.heap[zp]? = some (.cells cs 32 (0, 0))) ∧ RowBx W0.heap.size W (.slice a5 bs.length c5) bs ∧ RowI W0.heap.size W (.slice a9 is.length c9) is ∧ Below W0.heap.size W0 W)
 case first =>
  as_aux_lemma =>
   rename_i hcJ hcK
   have NT := (Below.refl W0.heap.size W0).drew
   have NL : True := trivial
   clear HV2 HB0 IH V1 N0
   refine wp_region_M 12 (fun _ => True) (fun W => Below W0.heap.size W0 W) (by kernel_rfl) ?_
   generalize W0.drew = ww0 at *
   refine takeT (i := 0) (by simp only [List.getElem?_toArray, List.getElem?_cons_zero]; exact rfl) (by kernel_rfl) (by kernel_rfl) (by kernel_rfl) (by exact fun _ _ _ h => h) (by decide) (by rfl) (by intro wq hSw; go_simp <;> with_reducible rfl) ⟨NT, .inr NL⟩ ?_
   try simp only [Act.put, pA, pB, pC]
   refine takeT (i := 1) (by simp only [List.getElem?_toArray, List.getElem?_cons_succ, List.getElem?_cons_zero]; exact rfl) (by kernel_rfl) (by kernel_rfl) (by kernel_rfl) (by exact fun _ _ _ h => h) (by decide) (by rfl) (by intro wq hSw; have y0 := bat hSw k0; have y1 := bat hSw k1; have y2 := bat hSw k2; have y3 := bat hSw k3; have y4 := bat hSw k4; have y5 := bat hSw k5; go_simp <;> with_reducible rfl) ⟨NT, .inr NL⟩ ?_
   try simp only [Act.put, pA, pB, pC]
   refine takeT (i := 3) (by simp only [List.getElem?_toArray, List.getElem?_cons_succ, List.getElem?_cons_zero]; exact rfl) (by kernel_rfl) (by kernel_rfl) (by kernel_rfl) (by exact fun _ _ _ h => h) (by decide) (by rfl) (by intro wq hSw; go_simp <;> with_reducible rfl) ⟨NT, .inr NL⟩ ?_
   try simp only [Act.put, pA, pB, pC]
   refine takeT (i := 4) (by simp only [List.getElem?_toArray, List.getElem?_cons_succ, List.getElem?_cons_zero]; exact rfl) (by kernel_rfl) (by kernel_rfl) (by kernel_rfl) (by exact fun _ _ _ h => h) (by decide) (by rfl) (by intro wq hSw; have y0 := bat hSw k0; have y1 := bat hSw k1; have y2 := bat hSw k2; have y3 := bat hSw k3; have y4 := bat hSw k4; have y5 := bat hSw k5; go_simp <;> with_reducible rfl) ⟨NT, .inr NL⟩ ?_
   try simp only [Act.put, pA, pB, pC]
   refine takeT (i := 7) (by simp only [List.getElem?_toArray, List.getElem?_cons_succ, List.getElem?_cons_zero]; exact rfl) (by kernel_rfl) (by kernel_rfl) (by kernel_rfl) (by exact fun _ _ _ h => h) (by decide) (by rfl) (by intro wq hSw; go_simp <;> with_reducible rfl) ⟨NT, .inr NL⟩ ?_
   try simp only [Act.put, pA, pB, pC]
   refine takeT (i := 8) (by simp only [List.getElem?_toArray, List.getElem?_cons_succ, List.getElem?_cons_zero]; exact rfl) (by kernel_rfl) (by kernel_rfl) (by kernel_rfl) (by exact fun _ _ _ h => h) (by decide) (by rfl) (by intro wq hSw; have y0 := bat hSw k0; have y1 := bat hSw k1; have y2 := bat hSw k2; have y3 := bat hSw k3; have y4 := bat hSw k4; have y5 := bat hSw k5; go_simp <;> with_reducible rfl) ⟨NT, .inr NL⟩ ?_
   try simp only [Act.put, pA, pB, pC]
   refine wpAnyM_ready (rs := [2, 6, 11]) (by kernel_rfl) (by simp) (AllReadyM.cons (by simp only [List.getElem?_toArray, List.getElem?_cons_succ, List.getElem?_cons_zero]; exact rfl) (fun K hK => ?_) (AllReadyM.cons (by simp only [List.getElem?_toArray, List.getElem?_cons_succ, List.getElem?_cons_zero]; exact rfl) (fun K hK => ?_) (AllReadyM.cons (by simp only [List.getElem?_toArray, List.getElem?_cons_succ, List.getElem?_cons_zero]; exact rfl) (fun K hK => ?_) AllReadyM.nil)))
   ·go_simp
    have bq := below1 ww0 (.cells #[] 27)
    have RX0 := RowBx.empty ww0 (base := W0.heap.size) NT.size
    replace NT := NT.trans (bq.mono NT.size)
    refine hK.out _ _ ⟨NT, .inr NL⟩ ?_
    clear hK K
    try simp only [Act.put, pA, pB, pC]
    clear bq
    generalize ww0.heap.size = zA at *
    generalize ww0.alloc (.cells #[] 27) = w2 at *
    refine wpAnyM_ready (rs := [5, 6, 11]) (by kernel_rfl) (by simp) (AllReadyM.cons (by simp only [List.getElem?_toArray, List.getElem?_cons_succ, List.getElem?_cons_zero]; exact rfl) (fun K hK => ?_) (AllReadyM.cons (by simp only [List.getElem?_toArray, List.getElem?_cons_succ, List.getElem?_cons_zero]; exact rfl) (fun K hK => ?_) (AllReadyM.cons (by simp only [List.getElem?_toArray, List.getElem?_cons_succ, List.getElem?_cons_zero]; exact rfl) (fun K hK => ?_) AllReadyM.nil)))
    ·refine wp_append_sX (.tmp 7) (.tmp 9) rfl W0.heap.size (.slice (some ⟨zA, 0, none⟩) 0 0) [] rfl RX0 a1 c1 bs rfl (X0.below NT) (by simp; omega) NT.size ?_
     intro v5 w2_5 RX G5
     rw [List.nil_append] at RX
     replace NT := NT.grown G5 NT.size (fun k e => (World.ownsRow.lt RX0 k e).1)
     obtain ⟨a5, c5, ev5, _⟩ := rowX_seesK RX
     subst ev5
     clear RX0 G5
     refine hK.out _ _ ⟨NT, .inr NL⟩ ?_
     clear hK K
     try simp only [Act.put, pA, pB, pC]
     refine wpAnyM_ready (rs := [6, 11]) (by kernel_rfl) (by simp) (AllReadyM.cons (by simp only [List.getElem?_toArray, List.getElem?_cons_succ, List.getElem?_cons_zero]; exact rfl) (fun K hK => ?_) (AllReadyM.cons (by simp only [List.getElem?_toArray, List.getElem?_cons_succ, List.getElem?_cons_zero]; exact rfl) (fun K hK => ?_) AllReadyM.nil))
     ·go_simp
      have bq := below1 w2_5 (.cells #[] 3)
      have RI0 := RowI.empty w2_5 (base := W0.heap.size) NT.size
      replace RX := RX.belowK bq
      replace NT := NT.trans (bq.mono NT.size)
      refine hK.out _ _ ⟨NT, .inr NL⟩ ?_
      clear hK K
      try simp only [Act.put, pA, pB, pC]
      clear bq
      generalize w2_5.heap.size = zB at *
      generalize w2_5.alloc (.cells #[] 3) = w2_5_6 at *
      refine wpAnyM_ready (rs := [9, 11]) (by kernel_rfl) (by simp) (AllReadyM.cons (by simp only [List.getElem?_toArray, List.getElem?_cons_succ, List.getElem?_cons_zero]; exact rfl) (fun K hK => ?_) (AllReadyM.cons (by simp only [List.getElem?_toArray, List.getElem?_cons_succ, List.getElem?_cons_zero]; exact rfl) (fun K hK => ?_) AllReadyM.nil))
      ·refine wp_append_sI (.tmp 11) (.tmp 13) rfl W0.heap.size (.slice (some ⟨zB, 0, none⟩) 0 0) [] rfl RI0 a2 c2 is rfl (I0.below NT) (by simp; omega) NT.size ?_
       intro v9 w2_5_6_9 RI G9
       rw [List.nil_append] at RI
       replace RX : RowBx W0.heap.size w2_5_6_9 (.slice a5 bs.length c5) bs := rowX_apI RX RI0 G9
       replace NT := NT.grown G9 NT.size (fun k e => (World.ownsRow.lt RI0 k e).1)
       obtain ⟨a9, c9, ev9, _⟩ := rowI_seesK RI
       subst ev9
       have e10 := run_bldN x1 x2 x3 x4 a5 a9 bs.length c5 is.length c9
       clear RI0 G9
       refine hK.out _ _ ⟨NT, .inr NL⟩ ?_
       clear hK K
       try simp only [Act.put, pA, pB, pC]
       refine takeT (i := 10) (v := .agg #[.int .i64 x1, .int .i64 x2, .int .i64 x3, .int .i64 x4, .slice a5 bs.length c5, .slice a9 is.length c9, .slice none 0 0]) (by simp only [List.getElem?_toArray, List.getElem?_cons_succ, List.getElem?_cons_zero]; exact rfl) (by kernel_rfl) (by kernel_rfl) (by kernel_rfl) (by exact fun _ _ _ h => h) (by decide) (by rfl) (by intro wq hSw; simp [execOp, Act.eval, e10]) ⟨NT, .inr NL⟩ ?_
       try simp only [Act.put, pA, pB, pC]
       refine wpAnyM_ready (rs := [11]) (by kernel_rfl) (by simp) (AllReadyM.cons (by simp only [List.getElem?_toArray, List.getElem?_cons_succ, List.getElem?_cons_zero]; exact rfl) (fun K hK => ?_) AllReadyM.nil)
       go_simp
       have bq := below1 w2_5_6_9 (.cells #[.int .i64 0, .int .i64 0, .int .i64 0, .int .i64 0, .slice none 0 0, .slice none 0 0, .slice none 0 0] 32)
       have TP : (w2_5_6_9.alloc (.cells #[.int .i64 0, .int .i64 0, .int .i64 0, .int .i64 0, .slice none 0 0, .slice none 0 0, .slice none 0 0] 32)).heap[w2_5_6_9.heap.size]? = some (.cells #[.int .i64 0, .int .i64 0, .int .i64 0, .int .i64 0, .slice none 0 0, .slice none 0 0, .slice none 0 0] 32 (0, 0)) := heap_alloc_new _ _
       have hzp : W0.heap.size ≤ w2_5_6_9.heap.size := NT.size
       replace RX := RX.belowK bq
       replace RI := RI.below bq
       replace NT := NT.trans (bq.mono NT.size)
       refine hK.out _ _ ⟨NT, .inr NL⟩ ?_
       clear hK K
       try simp only [Act.put, pA, pB, pC]
       clear bq
       generalize w2_5_6_9.heap.size = zp at *
       generalize w2_5_6_9.alloc (.cells #[.int .i64 0, .int .i64 0, .int .i64 0, .int .i64 0, .slice none 0 0, .slice none 0 0, .slice none 0 0] 32) = w2_5_6_9_11 at *
       refine wpAnyM_ready (rs := [12]) (by kernel_rfl) (by simp) (AllReadyM.cons (by simp only [List.getElem?_toArray, List.getElem?_cons_succ, List.getElem?_cons_zero]; exact rfl) (fun K hK => ?_) AllReadyM.nil)
       clear e10
       refine wp_store_row 32 (.tmp 3) (.tmp 15) rfl zp #[.int .i64 x1, .int .i64 x2, .int .i64 x3, .int .i64 x4, .slice a5 bs.length c5, .slice a9 is.length c9, .slice none 0 0] rfl rfl 32 _ TP infoN7 rfl (by simp [Value.oneCell']) ?_
       have TP7 := setRow_heap w2_5_6_9_11 zp _ #[.int .i64 x1, .int .i64 x2, .int .i64 x3, .int .i64 x4, .slice a5 bs.length c5, .slice a9 is.length c9, .slice none 0 0] 32 (0, 0) TP
       have G7 := grownRow w2_5_6_9_11 zp #[.int .i64 x1, .int .i64 x2, .int .i64 x3, .int .i64 x4, .slice a5 bs.length c5, .slice a9 is.length c9, .slice none 0 0]
       have V7 := Bx7.ofHeap TP7
       have RX7 : RowBx W0.heap.size _ (.slice a5 bs.length c5) bs := rowX_apN RX ⟨_, TP⟩ G7
       have RI7 : RowI W0.heap.size _ (.slice a9 is.length c9) is := rowI_apN RI ⟨_, TP⟩ G7
       replace NT := NT.grown G7 NT.size (fun k e => by injection e with e; omega)
       refine hK.out _ _ ⟨NT, .inl (by kernel_rfl)⟩ ?_
       clear hK K
       try simp only [Act.put]
       refine wpAnyM_done (by kernel_rfl) ?_ _
       refine hcK _ _ (Met.intro (hcJ _ _ ?_))
       (repeat apply Exists.intro)
       refine ⟨?rel, rfl⟩
       case rel => exact ⟨zp, a5, c5, a9, c9, rfl, hzp, V7, ⟨_, TP7⟩, RX7, RI7, NT⟩
      ·go_simp
       have bq := below1 w2_5_6 (.cells #[.int .i64 0, .int .i64 0, .int .i64 0, .int .i64 0, .slice none 0 0, .slice none 0 0, .slice none 0 0] 32)
       have TP : (w2_5_6.alloc (.cells #[.int .i64 0, .int .i64 0, .int .i64 0, .int .i64 0, .slice none 0 0, .slice none 0 0, .slice none 0 0] 32)).heap[w2_5_6.heap.size]? = some (.cells #[.int .i64 0, .int .i64 0, .int .i64 0, .int .i64 0, .slice none 0 0, .slice none 0 0, .slice none 0 0] 32 (0, 0)) := heap_alloc_new _ _
       have hzp : W0.heap.size ≤ w2_5_6.heap.size := NT.size
       replace RX := RX.belowK bq
       replace RI0 := RI0.below bq
       replace NT := NT.trans (bq.mono NT.size)
       refine hK.out _ _ ⟨NT, .inr NL⟩ ?_
       clear hK K
       try simp only [Act.put, pA, pB, pC]
       clear bq
       generalize w2_5_6.heap.size = zp at *
       generalize w2_5_6.alloc (.cells #[.int .i64 0, .int .i64 0, .int .i64 0, .int .i64 0, .slice none 0 0, .slice none 0 0, .slice none 0 0] 32) = w2_5_6_11 at *
       refine wpAnyM_ready (rs := [9]) (by kernel_rfl) (by simp) (AllReadyM.cons (by simp only [List.getElem?_toArray, List.getElem?_cons_succ, List.getElem?_cons_zero]; exact rfl) (fun K hK => ?_) AllReadyM.nil)
       refine wp_append_sI (.tmp 11) (.tmp 13) rfl W0.heap.size (.slice (some ⟨zB, 0, none⟩) 0 0) [] rfl RI0 a2 c2 is rfl (I0.below NT) (by simp; omega) NT.size ?_
       intro v9 w2_5_6_9_11 RI G9
       rw [List.nil_append] at RI
       replace RX : RowBx W0.heap.size w2_5_6_9_11 (.slice a5 bs.length c5) bs := rowX_apI RX RI0 G9
       have np : some zp ≠ (Value.slice (some ⟨zB, 0, none⟩) 0 0).ownBlock := ne_rowI RI0 ⟨_, TP⟩
       replace TP := hpG TP G9 np
       clear np
       replace NT := NT.grown G9 NT.size (fun k e => (World.ownsRow.lt RI0 k e).1)
       obtain ⟨a9, c9, ev9, _⟩ := rowI_seesK RI
       subst ev9
       have e10 := run_bldN x1 x2 x3 x4 a5 a9 bs.length c5 is.length c9
       clear RI0 G9
       refine hK.out _ _ ⟨NT, .inr NL⟩ ?_
       clear hK K
       try simp only [Act.put, pA, pB, pC]
       refine takeT (i := 10) (v := .agg #[.int .i64 x1, .int .i64 x2, .int .i64 x3, .int .i64 x4, .slice a5 bs.length c5, .slice a9 is.length c9, .slice none 0 0]) (by simp only [List.getElem?_toArray, List.getElem?_cons_succ, List.getElem?_cons_zero]; exact rfl) (by kernel_rfl) (by kernel_rfl) (by kernel_rfl) (by exact fun _ _ _ h => h) (by decide) (by rfl) (by intro wq hSw; simp [execOp, Act.eval, e10]) ⟨NT, .inr NL⟩ ?_
       try simp only [Act.put, pA, pB, pC]
       refine wpAnyM_ready (rs := [12]) (by kernel_rfl) (by simp) (AllReadyM.cons (by simp only [List.getElem?_toArray, List.getElem?_cons_succ, List.getElem?_cons_zero]; exact rfl) (fun K hK => ?_) AllReadyM.nil)
       clear e10
       refine wp_store_row 32 (.tmp 3) (.tmp 15) rfl zp #[.int .i64 x1, .int .i64 x2, .int .i64 x3, .int .i64 x4, .slice a5 bs.length c5, .slice a9 is.length c9, .slice none 0 0] rfl rfl 32 _ TP infoN7 rfl (by simp [Value.oneCell']) ?_
       have TP7 := setRow_heap w2_5_6_9_11 zp _ #[.int .i64 x1, .int .i64 x2, .int .i64 x3, .int .i64 x4, .slice a5 bs.length c5, .slice a9 is.length c9, .slice none 0 0] 32 (0, 0) TP
       have G7 := grownRow w2_5_6_9_11 zp #[.int .i64 x1, .int .i64 x2, .int .i64 x3, .int .i64 x4, .slice a5 bs.length c5, .slice a9 is.length c9, .slice none 0 0]
       have V7 := Bx7.ofHeap TP7
       have RX7 : RowBx W0.heap.size _ (.slice a5 bs.length c5) bs := rowX_apN RX ⟨_, TP⟩ G7
       have RI7 : RowI W0.heap.size _ (.slice a9 is.length c9) is := rowI_apN RI ⟨_, TP⟩ G7
       replace NT := NT.grown G7 NT.size (fun k e => by injection e with e; omega)
       refine hK.out _ _ ⟨NT, .inl (by kernel_rfl)⟩ ?_
       clear hK K
       try simp only [Act.put]
       refine wpAnyM_done (by kernel_rfl) ?_ _
       refine hcK _ _ (Met.intro (hcJ _ _ ?_))
       (repeat apply Exists.intro)
       refine ⟨?rel, rfl⟩
       case rel => exact ⟨zp, a5, c5, a9, c9, rfl, hzp, V7, ⟨_, TP7⟩, RX7, RI7, NT⟩
     ·go_simp
      have bq := below1 w2_5 (.cells #[.int .i64 0, .int .i64 0, .int .i64 0, .int .i64 0, .slice none 0 0, .slice none 0 0, .slice none 0 0] 32)
      have TP : (w2_5.alloc (.cells #[.int .i64 0, .int .i64 0, .int .i64 0, .int .i64 0, .slice none 0 0, .slice none 0 0, .slice none 0 0] 32)).heap[w2_5.heap.size]? = some (.cells #[.int .i64 0, .int .i64 0, .int .i64 0, .int .i64 0, .slice none 0 0, .slice none 0 0, .slice none 0 0] 32 (0, 0)) := heap_alloc_new _ _
      have hzp : W0.heap.size ≤ w2_5.heap.size := NT.size
      replace RX := RX.belowK bq
      replace NT := NT.trans (bq.mono NT.size)
      refine hK.out _ _ ⟨NT, .inr NL⟩ ?_
      clear hK K
      try simp only [Act.put, pA, pB, pC]
      clear bq
      generalize w2_5.heap.size = zp at *
      generalize w2_5.alloc (.cells #[.int .i64 0, .int .i64 0, .int .i64 0, .int .i64 0, .slice none 0 0, .slice none 0 0, .slice none 0 0] 32) = w2_5_11 at *
      refine wpAnyM_ready (rs := [6]) (by kernel_rfl) (by simp) (AllReadyM.cons (by simp only [List.getElem?_toArray, List.getElem?_cons_succ, List.getElem?_cons_zero]; exact rfl) (fun K hK => ?_) AllReadyM.nil)
      go_simp
      have bq := below1 w2_5_11 (.cells #[] 3)
      have RI0 := RowI.empty w2_5_11 (base := W0.heap.size) NT.size
      replace RX := RX.belowK bq
      replace TP := hpB TP bq
      replace NT := NT.trans (bq.mono NT.size)
      refine hK.out _ _ ⟨NT, .inr NL⟩ ?_
      clear hK K
      try simp only [Act.put, pA, pB, pC]
      clear bq
      generalize w2_5_11.heap.size = zB at *
      generalize w2_5_11.alloc (.cells #[] 3) = w2_5_6_11 at *
      refine wpAnyM_ready (rs := [9]) (by kernel_rfl) (by simp) (AllReadyM.cons (by simp only [List.getElem?_toArray, List.getElem?_cons_succ, List.getElem?_cons_zero]; exact rfl) (fun K hK => ?_) AllReadyM.nil)
      refine wp_append_sI (.tmp 11) (.tmp 13) rfl W0.heap.size (.slice (some ⟨zB, 0, none⟩) 0 0) [] rfl RI0 a2 c2 is rfl (I0.below NT) (by simp; omega) NT.size ?_
      intro v9 w2_5_6_9_11 RI G9
      rw [List.nil_append] at RI
      replace RX : RowBx W0.heap.size w2_5_6_9_11 (.slice a5 bs.length c5) bs := rowX_apI RX RI0 G9
      have np : some zp ≠ (Value.slice (some ⟨zB, 0, none⟩) 0 0).ownBlock := ne_rowI RI0 ⟨_, TP⟩
      replace TP := hpG TP G9 np
      clear np
      replace NT := NT.grown G9 NT.size (fun k e => (World.ownsRow.lt RI0 k e).1)
      obtain ⟨a9, c9, ev9, _⟩ := rowI_seesK RI
      subst ev9
      have e10 := run_bldN x1 x2 x3 x4 a5 a9 bs.length c5 is.length c9
      clear RI0 G9
      refine hK.out _ _ ⟨NT, .inr NL⟩ ?_
      clear hK K
      try simp only [Act.put, pA, pB, pC]
      refine takeT (i := 10) (v := .agg #[.int .i64 x1, .int .i64 x2, .int .i64 x3, .int .i64 x4, .slice a5 bs.length c5, .slice a9 is.length c9, .slice none 0 0]) (by simp only [List.getElem?_toArray, List.getElem?_cons_succ, List.getElem?_cons_zero]; exact rfl) (by kernel_rfl) (by kernel_rfl) (by kernel_rfl) (by exact fun _ _ _ h => h) (by decide) (by rfl) (by intro wq hSw; simp [execOp, Act.eval, e10]) ⟨NT, .inr NL⟩ ?_
      try simp only [Act.put, pA, pB, pC]
      refine wpAnyM_ready (rs := [12]) (by kernel_rfl) (by simp) (AllReadyM.cons (by simp only [List.getElem?_toArray, List.getElem?_cons_succ, List.getElem?_cons_zero]; exact rfl) (fun K hK => ?_) AllReadyM.nil)
      clear e10
      refine wp_store_row 32 (.tmp 3) (.tmp 15) rfl zp #[.int .i64 x1, .int .i64 x2, .int .i64 x3, .int .i64 x4, .slice a5 bs.length c5, .slice a9 is.length c9, .slice none 0 0] rfl rfl 32 _ TP infoN7 rfl (by simp [Value.oneCell']) ?_
      have TP7 := setRow_heap w2_5_6_9_11 zp _ #[.int .i64 x1, .int .i64 x2, .int .i64 x3, .int .i64 x4, .slice a5 bs.length c5, .slice a9 is.length c9, .slice none 0 0] 32 (0, 0) TP
      have G7 := grownRow w2_5_6_9_11 zp #[.int .i64 x1, .int .i64 x2, .int .i64 x3, .int .i64 x4, .slice a5 bs.length c5, .slice a9 is.length c9, .slice none 0 0]
      have V7 := Bx7.ofHeap TP7
      have RX7 : RowBx W0.heap.size _ (.slice a5 bs.length c5) bs := rowX_apN RX ⟨_, TP⟩ G7
      have RI7 : RowI W0.heap.size _ (.slice a9 is.length c9) is := rowI_apN RI ⟨_, TP⟩ G7
      replace NT := NT.grown G7 NT.size (fun k e => by injection e with e; omega)
      refine hK.out _ _ ⟨NT, .inl (by kernel_rfl)⟩ ?_
      clear hK K
      try simp only [Act.put]
      refine wpAnyM_done (by kernel_rfl) ?_ _
      refine hcK _ _ (Met.intro (hcJ _ _ ?_))
      (repeat apply Exists.intro)
      refine ⟨?rel, rfl⟩
      case rel => exact ⟨zp, a5, c5, a9, c9, rfl, hzp, V7, ⟨_, TP7⟩, RX7, RI7, NT⟩
    ·go_simp
     have bq := below1 w2 (.cells #[] 3)
     have RI0 := RowI.empty w2 (base := W0.heap.size) NT.size
     replace RX0 := RX0.belowK bq
     replace NT := NT.trans (bq.mono NT.size)
     refine hK.out _ _ ⟨NT, .inr NL⟩ ?_
     clear hK K
     try simp only [Act.put, pA, pB, pC]
     clear bq
     generalize w2.heap.size = zB at *
     generalize w2.alloc (.cells #[] 3) = w2_6 at *
     refine wpAnyM_ready (rs := [5, 11]) (by kernel_rfl) (by simp) (AllReadyM.cons (by simp only [List.getElem?_toArray, List.getElem?_cons_succ, List.getElem?_cons_zero]; exact rfl) (fun K hK => ?_) (AllReadyM.cons (by simp only [List.getElem?_toArray, List.getElem?_cons_succ, List.getElem?_cons_zero]; exact rfl) (fun K hK => ?_) AllReadyM.nil))
     ·refine wp_append_sX (.tmp 7) (.tmp 9) rfl W0.heap.size (.slice (some ⟨zA, 0, none⟩) 0 0) [] rfl RX0 a1 c1 bs rfl (X0.below NT) (by simp; omega) NT.size ?_
      intro v5 w2_5_6 RX G5
      rw [List.nil_append] at RX
      replace RI0 : RowI W0.heap.size w2_5_6 (.slice (some ⟨zB, 0, none⟩) 0 0) [] := rowI_apX RI0 RX0 G5
      replace NT := NT.grown G5 NT.size (fun k e => (World.ownsRow.lt RX0 k e).1)
      obtain ⟨a5, c5, ev5, _⟩ := rowX_seesK RX
      subst ev5
      clear RX0 G5
      refine hK.out _ _ ⟨NT, .inr NL⟩ ?_
      clear hK K
      try simp only [Act.put, pA, pB, pC]
      refine wpAnyM_ready (rs := [9, 11]) (by kernel_rfl) (by simp) (AllReadyM.cons (by simp only [List.getElem?_toArray, List.getElem?_cons_succ, List.getElem?_cons_zero]; exact rfl) (fun K hK => ?_) (AllReadyM.cons (by simp only [List.getElem?_toArray, List.getElem?_cons_succ, List.getElem?_cons_zero]; exact rfl) (fun K hK => ?_) AllReadyM.nil))
      ·refine wp_append_sI (.tmp 11) (.tmp 13) rfl W0.heap.size (.slice (some ⟨zB, 0, none⟩) 0 0) [] rfl RI0 a2 c2 is rfl (I0.below NT) (by simp; omega) NT.size ?_
       intro v9 w2_5_6_9 RI G9
       rw [List.nil_append] at RI
       replace RX : RowBx W0.heap.size w2_5_6_9 (.slice a5 bs.length c5) bs := rowX_apI RX RI0 G9
       replace NT := NT.grown G9 NT.size (fun k e => (World.ownsRow.lt RI0 k e).1)
       obtain ⟨a9, c9, ev9, _⟩ := rowI_seesK RI
       subst ev9
       have e10 := run_bldN x1 x2 x3 x4 a5 a9 bs.length c5 is.length c9
       clear RI0 G9
       refine hK.out _ _ ⟨NT, .inr NL⟩ ?_
       clear hK K
       try simp only [Act.put, pA, pB, pC]
       refine takeT (i := 10) (v := .agg #[.int .i64 x1, .int .i64 x2, .int .i64 x3, .int .i64 x4, .slice a5 bs.length c5, .slice a9 is.length c9, .slice none 0 0]) (by simp only [List.getElem?_toArray, List.getElem?_cons_succ, List.getElem?_cons_zero]; exact rfl) (by kernel_rfl) (by kernel_rfl) (by kernel_rfl) (by exact fun _ _ _ h => h) (by decide) (by rfl) (by intro wq hSw; simp [execOp, Act.eval, e10]) ⟨NT, .inr NL⟩ ?_
       try simp only [Act.put, pA, pB, pC]
       refine wpAnyM_ready (rs := [11]) (by kernel_rfl) (by simp) (AllReadyM.cons (by simp only [List.getElem?_toArray, List.getElem?_cons_succ, List.getElem?_cons_zero]; exact rfl) (fun K hK => ?_) AllReadyM.nil)
       go_simp
       have bq := below1 w2_5_6_9 (.cells #[.int .i64 0, .int .i64 0, .int .i64 0, .int .i64 0, .slice none 0 0, .slice none 0 0, .slice none 0 0] 32)
       have TP : (w2_5_6_9.alloc (.cells #[.int .i64 0, .int .i64 0, .int .i64 0, .int .i64 0, .slice none 0 0, .slice none 0 0, .slice none 0 0] 32)).heap[w2_5_6_9.heap.size]? = some (.cells #[.int .i64 0, .int .i64 0, .int .i64 0, .int .i64 0, .slice none 0 0, .slice none 0 0, .slice none 0 0] 32 (0, 0)) := heap_alloc_new _ _
       have hzp : W0.heap.size ≤ w2_5_6_9.heap.size := NT.size
       replace RX := RX.belowK bq
       replace RI := RI.below bq
       replace NT := NT.trans (bq.mono NT.size)
       refine hK.out _ _ ⟨NT, .inr NL⟩ ?_
       clear hK K
       try simp only [Act.put, pA, pB, pC]
       clear bq
       generalize w2_5_6_9.heap.size = zp at *
       generalize w2_5_6_9.alloc (.cells #[.int .i64 0, .int .i64 0, .int .i64 0, .int .i64 0, .slice none 0 0, .slice none 0 0, .slice none 0 0] 32) = w2_5_6_9_11 at *
       refine wpAnyM_ready (rs := [12]) (by kernel_rfl) (by simp) (AllReadyM.cons (by simp only [List.getElem?_toArray, List.getElem?_cons_succ, List.getElem?_cons_zero]; exact rfl) (fun K hK => ?_) AllReadyM.nil)
       clear e10
       refine wp_store_row 32 (.tmp 3) (.tmp 15) rfl zp #[.int .i64 x1, .int .i64 x2, .int .i64 x3, .int .i64 x4, .slice a5 bs.length c5, .slice a9 is.length c9, .slice none 0 0] rfl rfl 32 _ TP infoN7 rfl (by simp [Value.oneCell']) ?_
       have TP7 := setRow_heap w2_5_6_9_11 zp _ #[.int .i64 x1, .int .i64 x2, .int .i64 x3, .int .i64 x4, .slice a5 bs.length c5, .slice a9 is.length c9, .slice none 0 0] 32 (0, 0) TP
       have G7 := grownRow w2_5_6_9_11 zp #[.int .i64 x1, .int .i64 x2, .int .i64 x3, .int .i64 x4, .slice a5 bs.length c5, .slice a9 is.length c9, .slice none 0 0]
       have V7 := Bx7.ofHeap TP7
       have RX7 : RowBx W0.heap.size _ (.slice a5 bs.length c5) bs := rowX_apN RX ⟨_, TP⟩ G7
       have RI7 : RowI W0.heap.size _ (.slice a9 is.length c9) is := rowI_apN RI ⟨_, TP⟩ G7
       replace NT := NT.grown G7 NT.size (fun k e => by injection e with e; omega)
       refine hK.out _ _ ⟨NT, .inl (by kernel_rfl)⟩ ?_
       clear hK K
       try simp only [Act.put]
       refine wpAnyM_done (by kernel_rfl) ?_ _
       refine hcK _ _ (Met.intro (hcJ _ _ ?_))
       (repeat apply Exists.intro)
       refine ⟨?rel, rfl⟩
       case rel => exact ⟨zp, a5, c5, a9, c9, rfl, hzp, V7, ⟨_, TP7⟩, RX7, RI7, NT⟩
      ·go_simp
       have bq := below1 w2_5_6 (.cells #[.int .i64 0, .int .i64 0, .int .i64 0, .int .i64 0, .slice none 0 0, .slice none 0 0, .slice none 0 0] 32)
       have TP : (w2_5_6.alloc (.cells #[.int .i64 0, .int .i64 0, .int .i64 0, .int .i64 0, .slice none 0 0, .slice none 0 0, .slice none 0 0] 32)).heap[w2_5_6.heap.size]? = some (.cells #[.int .i64 0, .int .i64 0, .int .i64 0, .int .i64 0, .slice none 0 0, .slice none 0 0, .slice none 0 0] 32 (0, 0)) := heap_alloc_new _ _
       have hzp : W0.heap.size ≤ w2_5_6.heap.size := NT.size
       replace RX := RX.belowK bq
       replace RI0 := RI0.below bq
       replace NT := NT.trans (bq.mono NT.size)
       refine hK.out _ _ ⟨NT, .inr NL⟩ ?_
       clear hK K
       try simp only [Act.put, pA, pB, pC]
       clear bq
       generalize w2_5_6.heap.size = zp at *
       generalize w2_5_6.alloc (.cells #[.int .i64 0, .int .i64 0, .int .i64 0, .int .i64 0, .slice none 0 0, .slice none 0 0, .slice none 0 0] 32) = w2_5_6_11 at *
       refine wpAnyM_ready (rs := [9]) (by kernel_rfl) (by simp) (AllReadyM.cons (by simp only [List.getElem?_toArray, List.getElem?_cons_succ, List.getElem?_cons_zero]; exact rfl) (fun K hK => ?_) AllReadyM.nil)
       refine wp_append_sI (.tmp 11) (.tmp 13) rfl W0.heap.size (.slice (some ⟨zB, 0, none⟩) 0 0) [] rfl RI0 a2 c2 is rfl (I0.below NT) (by simp; omega) NT.size ?_
       intro v9 w2_5_6_9_11 RI G9
       rw [List.nil_append] at RI
       replace RX : RowBx W0.heap.size w2_5_6_9_11 (.slice a5 bs.length c5) bs := rowX_apI RX RI0 G9
       have np : some zp ≠ (Value.slice (some ⟨zB, 0, none⟩) 0 0).ownBlock := ne_rowI RI0 ⟨_, TP⟩
       replace TP := hpG TP G9 np
       clear np
       replace NT := NT.grown G9 NT.size (fun k e => (World.ownsRow.lt RI0 k e).1)
       obtain ⟨a9, c9, ev9, _⟩ := rowI_seesK RI
       subst ev9
       have e10 := run_bldN x1 x2 x3 x4 a5 a9 bs.length c5 is.length c9
       clear RI0 G9
       refine hK.out _ _ ⟨NT, .inr NL⟩ ?_
       clear hK K
       try simp only [Act.put, pA, pB, pC]
       refine takeT (i := 10) (v := .agg #[.int .i64 x1, .int .i64 x2, .int .i64 x3, .int .i64 x4, .slice a5 bs.length c5, .slice a9 is.length c9, .slice none 0 0]) (by simp only [List.getElem?_toArray, List.getElem?_cons_succ, List.getElem?_cons_zero]; exact rfl) (by kernel_rfl) (by kernel_rfl) (by kernel_rfl) (by exact fun _ _ _ h => h) (by decide) (by rfl) (by intro wq hSw; simp [execOp, Act.eval, e10]) ⟨NT, .inr NL⟩ ?_
       try simp only [Act.put, pA, pB, pC]
       refine wpAnyM_ready (rs := [12]) (by kernel_rfl) (by simp) (AllReadyM.cons (by simp only [List.getElem?_toArray, List.getElem?_cons_succ, List.getElem?_cons_zero]; exact rfl) (fun K hK => ?_) AllReadyM.nil)
       clear e10
       refine wp_store_row 32 (.tmp 3) (.tmp 15) rfl zp #[.int .i64 x1, .int .i64 x2, .int .i64 x3, .int .i64 x4, .slice a5 bs.length c5, .slice a9 is.length c9, .slice none 0 0] rfl rfl 32 _ TP infoN7 rfl (by simp [Value.oneCell']) ?_
       have TP7 := setRow_heap w2_5_6_9_11 zp _ #[.int .i64 x1, .int .i64 x2, .int .i64 x3, .int .i64 x4, .slice a5 bs.length c5, .slice a9 is.length c9, .slice none 0 0] 32 (0, 0) TP
       have G7 := grownRow w2_5_6_9_11 zp #[.int .i64 x1, .int .i64 x2, .int .i64 x3, .int .i64 x4, .slice a5 bs.length c5, .slice a9 is.length c9, .slice none 0 0]
       have V7 := Bx7.ofHeap TP7
       have RX7 : RowBx W0.heap.size _ (.slice a5 bs.length c5) bs := rowX_apN RX ⟨_, TP⟩ G7
       have RI7 : RowI W0.heap.size _ (.slice a9 is.length c9) is := rowI_apN RI ⟨_, TP⟩ G7
       replace NT := NT.grown G7 NT.size (fun k e => by injection e with e; omega)
       refine hK.out _ _ ⟨NT, .inl (by kernel_rfl)⟩ ?_
       clear hK K
       try simp only [Act.put]
       refine wpAnyM_done (by kernel_rfl) ?_ _
       refine hcK _ _ (Met.intro (hcJ _ _ ?_))
       (repeat apply Exists.intro)
       refine ⟨?rel, rfl⟩
       case rel => exact ⟨zp, a5, c5, a9, c9, rfl, hzp, V7, ⟨_, TP7⟩, RX7, RI7, NT⟩
     ·go_simp
      have bq := below1 w2_6 (.cells #[.int .i64 0, .int .i64 0, .int .i64 0, .int .i64 0, .slice none 0 0, .slice none 0 0, .slice none 0 0] 32)
      have TP : (w2_6.alloc (.cells #[.int .i64 0, .int .i64 0, .int .i64 0, .int .i64 0, .slice none 0 0, .slice none 0 0, .slice none 0 0] 32)).heap[w2_6.heap.size]? = some (.cells #[.int .i64 0, .int .i64 0, .int .i64 0, .int .i64 0, .slice none 0 0, .slice none 0 0, .slice none 0 0] 32 (0, 0)) := heap_alloc_new _ _
      have hzp : W0.heap.size ≤ w2_6.heap.size := NT.size
      replace RX0 := RX0.belowK bq
      replace RI0 := RI0.below bq
      replace NT := NT.trans (bq.mono NT.size)
      refine hK.out _ _ ⟨NT, .inr NL⟩ ?_
      clear hK K
      try simp only [Act.put, pA, pB, pC]
      clear bq
      generalize w2_6.heap.size = zp at *
      generalize w2_6.alloc (.cells #[.int .i64 0, .int .i64 0, .int .i64 0, .int .i64 0, .slice none 0 0, .slice none 0 0, .slice none 0 0] 32) = w2_6_11 at *
      refine wpAnyM_ready (rs := [5]) (by kernel_rfl) (by simp) (AllReadyM.cons (by simp only [List.getElem?_toArray, List.getElem?_cons_succ, List.getElem?_cons_zero]; exact rfl) (fun K hK => ?_) AllReadyM.nil)
      refine wp_append_sX (.tmp 7) (.tmp 9) rfl W0.heap.size (.slice (some ⟨zA, 0, none⟩) 0 0) [] rfl RX0 a1 c1 bs rfl (X0.below NT) (by simp; omega) NT.size ?_
      intro v5 w2_5_6_11 RX G5
      rw [List.nil_append] at RX
      replace RI0 : RowI W0.heap.size w2_5_6_11 (.slice (some ⟨zB, 0, none⟩) 0 0) [] := rowI_apX RI0 RX0 G5
      have np : some zp ≠ (Value.slice (some ⟨zA, 0, none⟩) 0 0).ownBlock := ne_rowX RX0 ⟨_, TP⟩
      replace TP := hpG TP G5 np
      clear np
      replace NT := NT.grown G5 NT.size (fun k e => (World.ownsRow.lt RX0 k e).1)
      obtain ⟨a5, c5, ev5, _⟩ := rowX_seesK RX
      subst ev5
      clear RX0 G5
      refine hK.out _ _ ⟨NT, .inr NL⟩ ?_
      clear hK K
      try simp only [Act.put, pA, pB, pC]
      refine wpAnyM_ready (rs := [9]) (by kernel_rfl) (by simp) (AllReadyM.cons (by simp only [List.getElem?_toArray, List.getElem?_cons_succ, List.getElem?_cons_zero]; exact rfl) (fun K hK => ?_) AllReadyM.nil)
      refine wp_append_sI (.tmp 11) (.tmp 13) rfl W0.heap.size (.slice (some ⟨zB, 0, none⟩) 0 0) [] rfl RI0 a2 c2 is rfl (I0.below NT) (by simp; omega) NT.size ?_
      intro v9 w2_5_6_9_11 RI G9
      rw [List.nil_append] at RI
      replace RX : RowBx W0.heap.size w2_5_6_9_11 (.slice a5 bs.length c5) bs := rowX_apI RX RI0 G9
      have np : some zp ≠ (Value.slice (some ⟨zB, 0, none⟩) 0 0).ownBlock := ne_rowI RI0 ⟨_, TP⟩
      replace TP := hpG TP G9 np
      clear np
      replace NT := NT.grown G9 NT.size (fun k e => (World.ownsRow.lt RI0 k e).1)
      obtain ⟨a9, c9, ev9, _⟩ := rowI_seesK RI
      subst ev9
      have e10 := run_bldN x1 x2 x3 x4 a5 a9 bs.length c5 is.length c9
      clear RI0 G9
      refine hK.out _ _ ⟨NT, .inr NL⟩ ?_
      clear hK K
      try simp only [Act.put, pA, pB, pC]
      refine takeT (i := 10) (v := .agg #[.int .i64 x1, .int .i64 x2, .int .i64 x3, .int .i64 x4, .slice a5 bs.length c5, .slice a9 is.length c9, .slice none 0 0]) (by simp only [List.getElem?_toArray, List.getElem?_cons_succ, List.getElem?_cons_zero]; exact rfl) (by kernel_rfl) (by kernel_rfl) (by kernel_rfl) (by exact fun _ _ _ h => h) (by decide) (by rfl) (by intro wq hSw; simp [execOp, Act.eval, e10]) ⟨NT, .inr NL⟩ ?_
      try simp only [Act.put, pA, pB, pC]
      refine wpAnyM_ready (rs := [12]) (by kernel_rfl) (by simp) (AllReadyM.cons (by simp only [List.getElem?_toArray, List.getElem?_cons_succ, List.getElem?_cons_zero]; exact rfl) (fun K hK => ?_) AllReadyM.nil)
      clear e10
      refine wp_store_row 32 (.tmp 3) (.tmp 15) rfl zp #[.int .i64 x1, .int .i64 x2, .int .i64 x3, .int .i64 x4, .slice a5 bs.length c5, .slice a9 is.length c9, .slice none 0 0] rfl rfl 32 _ TP infoN7 rfl (by simp [Value.oneCell']) ?_
      have TP7 := setRow_heap w2_5_6_9_11 zp _ #[.int .i64 x1, .int .i64 x2, .int .i64 x3, .int .i64 x4, .slice a5 bs.length c5, .slice a9 is.length c9, .slice none 0 0] 32 (0, 0) TP
      have G7 := grownRow w2_5_6_9_11 zp #[.int .i64 x1, .int .i64 x2, .int .i64 x3, .int .i64 x4, .slice a5 bs.length c5, .slice a9 is.length c9, .slice none 0 0]
      have V7 := Bx7.ofHeap TP7
      have RX7 : RowBx W0.heap.size _ (.slice a5 bs.length c5) bs := rowX_apN RX ⟨_, TP⟩ G7
      have RI7 : RowI W0.heap.size _ (.slice a9 is.length c9) is := rowI_apN RI ⟨_, TP⟩ G7
      replace NT := NT.grown G7 NT.size (fun k e => by injection e with e; omega)
      refine hK.out _ _ ⟨NT, .inl (by kernel_rfl)⟩ ?_
      clear hK K
      try simp only [Act.put]
      refine wpAnyM_done (by kernel_rfl) ?_ _
      refine hcK _ _ (Met.intro (hcJ _ _ ?_))
      (repeat apply Exists.intro)
      refine ⟨?rel, rfl⟩
      case rel => exact ⟨zp, a5, c5, a9, c9, rfl, hzp, V7, ⟨_, TP7⟩, RX7, RI7, NT⟩
    ·go_simp
     have bq := below1 w2 (.cells #[.int .i64 0, .int .i64 0, .int .i64 0, .int .i64 0, .slice none 0 0, .slice none 0 0, .slice none 0 0] 32)
     have TP : (w2.alloc (.cells #[.int .i64 0, .int .i64 0, .int .i64 0, .int .i64 0, .slice none 0 0, .slice none 0 0, .slice none 0 0] 32)).heap[w2.heap.size]? = some (.cells #[.int .i64 0, .int .i64 0, .int .i64 0, .int .i64 0, .slice none 0 0, .slice none 0 0, .slice none 0 0] 32 (0, 0)) := heap_alloc_new _ _
     have hzp : W0.heap.size ≤ w2.heap.size := NT.size
     replace RX0 := RX0.belowK bq
     replace NT := NT.trans (bq.mono NT.size)
     refine hK.out _ _ ⟨NT, .inr NL⟩ ?_
     clear hK K
     try simp only [Act.put, pA, pB, pC]
     clear bq
     generalize w2.heap.size = zp at *
     generalize w2.alloc (.cells #[.int .i64 0, .int .i64 0, .int .i64 0, .int .i64 0, .slice none 0 0, .slice none 0 0, .slice none 0 0] 32) = w2_11 at *
     refine wpAnyM_ready (rs := [5, 6]) (by kernel_rfl) (by simp) (AllReadyM.cons (by simp only [List.getElem?_toArray, List.getElem?_cons_succ, List.getElem?_cons_zero]; exact rfl) (fun K hK => ?_) (AllReadyM.cons (by simp only [List.getElem?_toArray, List.getElem?_cons_succ, List.getElem?_cons_zero]; exact rfl) (fun K hK => ?_) AllReadyM.nil))
     ·refine wp_append_sX (.tmp 7) (.tmp 9) rfl W0.heap.size (.slice (some ⟨zA, 0, none⟩) 0 0) [] rfl RX0 a1 c1 bs rfl (X0.below NT) (by simp; omega) NT.size ?_
      intro v5 w2_5_11 RX G5
      rw [List.nil_append] at RX
      have np : some zp ≠ (Value.slice (some ⟨zA, 0, none⟩) 0 0).ownBlock := ne_rowX RX0 ⟨_, TP⟩
      replace TP := hpG TP G5 np
      clear np
      replace NT := NT.grown G5 NT.size (fun k e => (World.ownsRow.lt RX0 k e).1)
      obtain ⟨a5, c5, ev5, _⟩ := rowX_seesK RX
      subst ev5
      clear RX0 G5
      refine hK.out _ _ ⟨NT, .inr NL⟩ ?_
      clear hK K
      try simp only [Act.put, pA, pB, pC]
      refine wpAnyM_ready (rs := [6]) (by kernel_rfl) (by simp) (AllReadyM.cons (by simp only [List.getElem?_toArray, List.getElem?_cons_succ, List.getElem?_cons_zero]; exact rfl) (fun K hK => ?_) AllReadyM.nil)
      go_simp
      have bq := below1 w2_5_11 (.cells #[] 3)
      have RI0 := RowI.empty w2_5_11 (base := W0.heap.size) NT.size
      replace RX := RX.belowK bq
      replace TP := hpB TP bq
      replace NT := NT.trans (bq.mono NT.size)
      refine hK.out _ _ ⟨NT, .inr NL⟩ ?_
      clear hK K
      try simp only [Act.put, pA, pB, pC]
      clear bq
      generalize w2_5_11.heap.size = zB at *
      generalize w2_5_11.alloc (.cells #[] 3) = w2_5_6_11 at *
      refine wpAnyM_ready (rs := [9]) (by kernel_rfl) (by simp) (AllReadyM.cons (by simp only [List.getElem?_toArray, List.getElem?_cons_succ, List.getElem?_cons_zero]; exact rfl) (fun K hK => ?_) AllReadyM.nil)
      refine wp_append_sI (.tmp 11) (.tmp 13) rfl W0.heap.size (.slice (some ⟨zB, 0, none⟩) 0 0) [] rfl RI0 a2 c2 is rfl (I0.below NT) (by simp; omega) NT.size ?_
      intro v9 w2_5_6_9_11 RI G9
      rw [List.nil_append] at RI
      replace RX : RowBx W0.heap.size w2_5_6_9_11 (.slice a5 bs.length c5) bs := rowX_apI RX RI0 G9
      have np : some zp ≠ (Value.slice (some ⟨zB, 0, none⟩) 0 0).ownBlock := ne_rowI RI0 ⟨_, TP⟩
      replace TP := hpG TP G9 np
      clear np
      replace NT := NT.grown G9 NT.size (fun k e => (World.ownsRow.lt RI0 k e).1)
      obtain ⟨a9, c9, ev9, _⟩ := rowI_seesK RI
      subst ev9
      have e10 := run_bldN x1 x2 x3 x4 a5 a9 bs.length c5 is.length c9
      clear RI0 G9
      refine hK.out _ _ ⟨NT, .inr NL⟩ ?_
      clear hK K
      try simp only [Act.put, pA, pB, pC]
      refine takeT (i := 10) (v := .agg #[.int .i64 x1, .int .i64 x2, .int .i64 x3, .int .i64 x4, .slice a5 bs.length c5, .slice a9 is.length c9, .slice none 0 0]) (by simp only [List.getElem?_toArray, List.getElem?_cons_succ, List.getElem?_cons_zero]; exact rfl) (by kernel_rfl) (by kernel_rfl) (by kernel_rfl) (by exact fun _ _ _ h => h) (by decide) (by rfl) (by intro wq hSw; simp [execOp, Act.eval, e10]) ⟨NT, .inr NL⟩ ?_
      try simp only [Act.put, pA, pB, pC]
      refine wpAnyM_ready (rs := [12]) (by kernel_rfl) (by simp) (AllReadyM.cons (by simp only [List.getElem?_toArray, List.getElem?_cons_succ, List.getElem?_cons_zero]; exact rfl) (fun K hK => ?_) AllReadyM.nil)
      clear e10
      refine wp_store_row 32 (.tmp 3) (.tmp 15) rfl zp #[.int .i64 x1, .int .i64 x2, .int .i64 x3, .int .i64 x4, .slice a5 bs.length c5, .slice a9 is.length c9, .slice none 0 0] rfl rfl 32 _ TP infoN7 rfl (by simp [Value.oneCell']) ?_
      have TP7 := setRow_heap w2_5_6_9_11 zp _ #[.int .i64 x1, .int .i64 x2, .int .i64 x3, .int .i64 x4, .slice a5 bs.length c5, .slice a9 is.length c9, .slice none 0 0] 32 (0, 0) TP
      have G7 := grownRow w2_5_6_9_11 zp #[.int .i64 x1, .int .i64 x2, .int .i64 x3, .int .i64 x4, .slice a5 bs.length c5, .slice a9 is.length c9, .slice none 0 0]
      have V7 := Bx7.ofHeap TP7
      have RX7 : RowBx W0.heap.size _ (.slice a5 bs.length c5) bs := rowX_apN RX ⟨_, TP⟩ G7
      have RI7 : RowI W0.heap.size _ (.slice a9 is.length c9) is := rowI_apN RI ⟨_, TP⟩ G7
      replace NT := NT.grown G7 NT.size (fun k e => by injection e with e; omega)
      refine hK.out _ _ ⟨NT, .inl (by kernel_rfl)⟩ ?_
      clear hK K
      try simp only [Act.put]
      refine wpAnyM_done (by kernel_rfl) ?_ _
      refine hcK _ _ (Met.intro (hcJ _ _ ?_))
      (repeat apply Exists.intro)
      refine ⟨?rel, rfl⟩
      case rel => exact ⟨zp, a5, c5, a9, c9, rfl, hzp, V7, ⟨_, TP7⟩, RX7, RI7, NT⟩
     ·go_simp
      have bq := below1 w2_11 (.cells #[] 3)
      have RI0 := RowI.empty w2_11 (base := W0.heap.size) NT.size
      replace RX0 := RX0.belowK bq
      replace TP := hpB TP bq
      replace NT := NT.trans (bq.mono NT.size)
      refine hK.out _ _ ⟨NT, .inr NL⟩ ?_
      clear hK K
      try simp only [Act.put, pA, pB, pC]
      clear bq
      generalize w2_11.heap.size = zB at *
      generalize w2_11.alloc (.cells #[] 3) = w2_6_11 at *
      refine wpAnyM_ready (rs := [5]) (by kernel_rfl) (by simp) (AllReadyM.cons (by simp only [List.getElem?_toArray, List.getElem?_cons_succ, List.getElem?_cons_zero]; exact rfl) (fun K hK => ?_) AllReadyM.nil)
      refine wp_append_sX (.tmp 7) (.tmp 9) rfl W0.heap.size (.slice (some ⟨zA, 0, none⟩) 0 0) [] rfl RX0 a1 c1 bs rfl (X0.below NT) (by simp; omega) NT.size ?_
      intro v5 w2_5_6_11 RX G5
      rw [List.nil_append] at RX
      replace RI0 : RowI W0.heap.size w2_5_6_11 (.slice (some ⟨zB, 0, none⟩) 0 0) [] := rowI_apX RI0 RX0 G5
      have np : some zp ≠ (Value.slice (some ⟨zA, 0, none⟩) 0 0).ownBlock := ne_rowX RX0 ⟨_, TP⟩
      replace TP := hpG TP G5 np
      clear np
      replace NT := NT.grown G5 NT.size (fun k e => (World.ownsRow.lt RX0 k e).1)
      obtain ⟨a5, c5, ev5, _⟩ := rowX_seesK RX
      subst ev5
      clear RX0 G5
      refine hK.out _ _ ⟨NT, .inr NL⟩ ?_
      clear hK K
      try simp only [Act.put, pA, pB, pC]
      refine wpAnyM_ready (rs := [9]) (by kernel_rfl) (by simp) (AllReadyM.cons (by simp only [List.getElem?_toArray, List.getElem?_cons_succ, List.getElem?_cons_zero]; exact rfl) (fun K hK => ?_) AllReadyM.nil)
      refine wp_append_sI (.tmp 11) (.tmp 13) rfl W0.heap.size (.slice (some ⟨zB, 0, none⟩) 0 0) [] rfl RI0 a2 c2 is rfl (I0.below NT) (by simp; omega) NT.size ?_
      intro v9 w2_5_6_9_11 RI G9
      rw [List.nil_append] at RI
      replace RX : RowBx W0.heap.size w2_5_6_9_11 (.slice a5 bs.length c5) bs := rowX_apI RX RI0 G9
      have np : some zp ≠ (Value.slice (some ⟨zB, 0, none⟩) 0 0).ownBlock := ne_rowI RI0 ⟨_, TP⟩
      replace TP := hpG TP G9 np
      clear np
      replace NT := NT.grown G9 NT.size (fun k e => (World.ownsRow.lt RI0 k e).1)
      obtain ⟨a9, c9, ev9, _⟩ := rowI_seesK RI
      subst ev9
      have e10 := run_bldN x1 x2 x3 x4 a5 a9 bs.length c5 is.length c9
      clear RI0 G9
      refine hK.out _ _ ⟨NT, .inr NL⟩ ?_
      clear hK K
      try simp only [Act.put, pA, pB, pC]
      refine takeT (i := 10) (v := .agg #[.int .i64 x1, .int .i64 x2, .int .i64 x3, .int .i64 x4, .slice a5 bs.length c5, .slice a9 is.length c9, .slice none 0 0]) (by simp only [List.getElem?_toArray, List.getElem?_cons_succ, List.getElem?_cons_zero]; exact rfl) (by kernel_rfl) (by kernel_rfl) (by kernel_rfl) (by exact fun _ _ _ h => h) (by decide) (by rfl) (by intro wq hSw; simp [execOp, Act.eval, e10]) ⟨NT, .inr NL⟩ ?_
      try simp only [Act.put, pA, pB, pC]
      refine wpAnyM_ready (rs := [12]) (by kernel_rfl) (by simp) (AllReadyM.cons (by simp only [List.getElem?_toArray, List.getElem?_cons_succ, List.getElem?_cons_zero]; exact rfl) (fun K hK => ?_) AllReadyM.nil)
      clear e10
      refine wp_store_row 32 (.tmp 3) (.tmp 15) rfl zp #[.int .i64 x1, .int .i64 x2, .int .i64 x3, .int .i64 x4, .slice a5 bs.length c5, .slice a9 is.length c9, .slice none 0 0] rfl rfl 32 _ TP infoN7 rfl (by simp [Value.oneCell']) ?_
      have TP7 := setRow_heap w2_5_6_9_11 zp _ #[.int .i64 x1, .int .i64 x2, .int .i64 x3, .int .i64 x4, .slice a5 bs.length c5, .slice a9 is.length c9, .slice none 0 0] 32 (0, 0) TP
      have G7 := grownRow w2_5_6_9_11 zp #[.int .i64 x1, .int .i64 x2, .int .i64 x3, .int .i64 x4, .slice a5 bs.length c5, .slice a9 is.length c9, .slice none 0 0]
      have V7 := Bx7.ofHeap TP7
      have RX7 : RowBx W0.heap.size _ (.slice a5 bs.length c5) bs := rowX_apN RX ⟨_, TP⟩ G7
      have RI7 : RowI W0.heap.size _ (.slice a9 is.length c9) is := rowI_apN RI ⟨_, TP⟩ G7
      replace NT := NT.grown G7 NT.size (fun k e => by injection e with e; omega)
      refine hK.out _ _ ⟨NT, .inl (by kernel_rfl)⟩ ?_
      clear hK K
      try simp only [Act.put]
      refine wpAnyM_done (by kernel_rfl) ?_ _
      refine hcK _ _ (Met.intro (hcJ _ _ ?_))
      (repeat apply Exists.intro)
      refine ⟨?rel, rfl⟩
      case rel => exact ⟨zp, a5, c5, a9, c9, rfl, hzp, V7, ⟨_, TP7⟩, RX7, RI7, NT⟩
   ·go_simp
    have bq := below1 ww0 (.cells #[] 3)
    have RI0 := RowI.empty ww0 (base := W0.heap.size) NT.size
    replace NT := NT.trans (bq.mono NT.size)
    refine hK.out _ _ ⟨NT, .inr NL⟩ ?_
    clear hK K
    try simp only [Act.put, pA, pB, pC]
    clear bq
    generalize ww0.heap.size = zB at *
    generalize ww0.alloc (.cells #[] 3) = w6 at *
    refine wpAnyM_ready (rs := [2, 11]) (by kernel_rfl) (by simp) (AllReadyM.cons (by simp only [List.getElem?_toArray, List.getElem?_cons_succ, List.getElem?_cons_zero]; exact rfl) (fun K hK => ?_) (AllReadyM.cons (by simp only [List.getElem?_toArray, List.getElem?_cons_succ, List.getElem?_cons_zero]; exact rfl) (fun K hK => ?_) AllReadyM.nil))
    ·go_simp
     have bq := below1 w6 (.cells #[] 27)
     have RX0 := RowBx.empty w6 (base := W0.heap.size) NT.size
     replace RI0 := RI0.below bq
     replace NT := NT.trans (bq.mono NT.size)
     refine hK.out _ _ ⟨NT, .inr NL⟩ ?_
     clear hK K
     try simp only [Act.put, pA, pB, pC]
     clear bq
     generalize w6.heap.size = zA at *
     generalize w6.alloc (.cells #[] 27) = w2_6 at *
     refine wpAnyM_ready (rs := [5, 11]) (by kernel_rfl) (by simp) (AllReadyM.cons (by simp only [List.getElem?_toArray, List.getElem?_cons_succ, List.getElem?_cons_zero]; exact rfl) (fun K hK => ?_) (AllReadyM.cons (by simp only [List.getElem?_toArray, List.getElem?_cons_succ, List.getElem?_cons_zero]; exact rfl) (fun K hK => ?_) AllReadyM.nil))
     ·refine wp_append_sX (.tmp 7) (.tmp 9) rfl W0.heap.size (.slice (some ⟨zA, 0, none⟩) 0 0) [] rfl RX0 a1 c1 bs rfl (X0.below NT) (by simp; omega) NT.size ?_
      intro v5 w2_5_6 RX G5
      rw [List.nil_append] at RX
      replace RI0 : RowI W0.heap.size w2_5_6 (.slice (some ⟨zB, 0, none⟩) 0 0) [] := rowI_apX RI0 RX0 G5
      replace NT := NT.grown G5 NT.size (fun k e => (World.ownsRow.lt RX0 k e).1)
      obtain ⟨a5, c5, ev5, _⟩ := rowX_seesK RX
      subst ev5
      clear RX0 G5
      refine hK.out _ _ ⟨NT, .inr NL⟩ ?_
      clear hK K
      try simp only [Act.put, pA, pB, pC]
      refine wpAnyM_ready (rs := [9, 11]) (by kernel_rfl) (by simp) (AllReadyM.cons (by simp only [List.getElem?_toArray, List.getElem?_cons_succ, List.getElem?_cons_zero]; exact rfl) (fun K hK => ?_) (AllReadyM.cons (by simp only [List.getElem?_toArray, List.getElem?_cons_succ, List.getElem?_cons_zero]; exact rfl) (fun K hK => ?_) AllReadyM.nil))
      ·refine wp_append_sI (.tmp 11) (.tmp 13) rfl W0.heap.size (.slice (some ⟨zB, 0, none⟩) 0 0) [] rfl RI0 a2 c2 is rfl (I0.below NT) (by simp; omega) NT.size ?_
       intro v9 w2_5_6_9 RI G9
       rw [List.nil_append] at RI
       replace RX : RowBx W0.heap.size w2_5_6_9 (.slice a5 bs.length c5) bs := rowX_apI RX RI0 G9
       replace NT := NT.grown G9 NT.size (fun k e => (World.ownsRow.lt RI0 k e).1)
       obtain ⟨a9, c9, ev9, _⟩ := rowI_seesK RI
       subst ev9
       have e10 := run_bldN x1 x2 x3 x4 a5 a9 bs.length c5 is.length c9
       clear RI0 G9
       refine hK.out _ _ ⟨NT, .inr NL⟩ ?_
       clear hK K
       try simp only [Act.put, pA, pB, pC]
       refine takeT (i := 10) (v := .agg #[.int .i64 x1, .int .i64 x2, .int .i64 x3, .int .i64 x4, .slice a5 bs.length c5, .slice a9 is.length c9, .slice none 0 0]) (by simp only [List.getElem?_toArray, List.getElem?_cons_succ, List.getElem?_cons_zero]; exact rfl) (by kernel_rfl) (by kernel_rfl) (by kernel_rfl) (by exact fun _ _ _ h => h) (by decide) (by rfl) (by intro wq hSw; simp [execOp, Act.eval, e10]) ⟨NT, .inr NL⟩ ?_
       try simp only [Act.put, pA, pB, pC]
       refine wpAnyM_ready (rs := [11]) (by kernel_rfl) (by simp) (AllReadyM.cons (by simp only [List.getElem?_toArray, List.getElem?_cons_succ, List.getElem?_cons_zero]; exact rfl) (fun K hK => ?_) AllReadyM.nil)
       go_simp
       have bq := below1 w2_5_6_9 (.cells #[.int .i64 0, .int .i64 0, .int .i64 0, .int .i64 0, .slice none 0 0, .slice none 0 0, .slice none 0 0] 32)
       have TP : (w2_5_6_9.alloc (.cells #[.int .i64 0, .int .i64 0, .int .i64 0, .int .i64 0, .slice none 0 0, .slice none 0 0, .slice none 0 0] 32)).heap[w2_5_6_9.heap.size]? = some (.cells #[.int .i64 0, .int .i64 0, .int .i64 0, .int .i64 0, .slice none 0 0, .slice none 0 0, .slice none 0 0] 32 (0, 0)) := heap_alloc_new _ _
       have hzp : W0.heap.size ≤ w2_5_6_9.heap.size := NT.size
       replace RX := RX.belowK bq
       replace RI := RI.below bq
       replace NT := NT.trans (bq.mono NT.size)
       refine hK.out _ _ ⟨NT, .inr NL⟩ ?_
       clear hK K
       try simp only [Act.put, pA, pB, pC]
       clear bq
       generalize w2_5_6_9.heap.size = zp at *
       generalize w2_5_6_9.alloc (.cells #[.int .i64 0, .int .i64 0, .int .i64 0, .int .i64 0, .slice none 0 0, .slice none 0 0, .slice none 0 0] 32) = w2_5_6_9_11 at *
       refine wpAnyM_ready (rs := [12]) (by kernel_rfl) (by simp) (AllReadyM.cons (by simp only [List.getElem?_toArray, List.getElem?_cons_succ, List.getElem?_cons_zero]; exact rfl) (fun K hK => ?_) AllReadyM.nil)
       clear e10
       refine wp_store_row 32 (.tmp 3) (.tmp 15) rfl zp #[.int .i64 x1, .int .i64 x2, .int .i64 x3, .int .i64 x4, .slice a5 bs.length c5, .slice a9 is.length c9, .slice none 0 0] rfl rfl 32 _ TP infoN7 rfl (by simp [Value.oneCell']) ?_
       have TP7 := setRow_heap w2_5_6_9_11 zp _ #[.int .i64 x1, .int .i64 x2, .int .i64 x3, .int .i64 x4, .slice a5 bs.length c5, .slice a9 is.length c9, .slice none 0 0] 32 (0, 0) TP
       have G7 := grownRow w2_5_6_9_11 zp #[.int .i64 x1, .int .i64 x2, .int .i64 x3, .int .i64 x4, .slice a5 bs.length c5, .slice a9 is.length c9, .slice none 0 0]
       have V7 := Bx7.ofHeap TP7
       have RX7 : RowBx W0.heap.size _ (.slice a5 bs.length c5) bs := rowX_apN RX ⟨_, TP⟩ G7
       have RI7 : RowI W0.heap.size _ (.slice a9 is.length c9) is := rowI_apN RI ⟨_, TP⟩ G7
       replace NT := NT.grown G7 NT.size (fun k e => by injection e with e; omega)
       refine hK.out _ _ ⟨NT, .inl (by kernel_rfl)⟩ ?_
       clear hK K
       try simp only [Act.put]
       refine wpAnyM_done (by kernel_rfl) ?_ _
       refine hcK _ _ (Met.intro (hcJ _ _ ?_))
       (repeat apply Exists.intro)
       refine ⟨?rel, rfl⟩
       case rel => exact ⟨zp, a5, c5, a9, c9, rfl, hzp, V7, ⟨_, TP7⟩, RX7, RI7, NT⟩
      ·go_simp
       have bq := below1 w2_5_6 (.cells #[.int .i64 0, .int .i64 0, .int .i64 0, .int .i64 0, .slice none 0 0, .slice none 0 0, .slice none 0 0] 32)
       have TP : (w2_5_6.alloc (.cells #[.int .i64 0, .int .i64 0, .int .i64 0, .int .i64 0, .slice none 0 0, .slice none 0 0, .slice none 0 0] 32)).heap[w2_5_6.heap.size]? = some (.cells #[.int .i64 0, .int .i64 0, .int .i64 0, .int .i64 0, .slice none 0 0, .slice none 0 0, .slice none 0 0] 32 (0, 0)) := heap_alloc_new _ _
       have hzp : W0.heap.size ≤ w2_5_6.heap.size := NT.size
       replace RX := RX.belowK bq
       replace RI0 := RI0.below bq
       replace NT := NT.trans (bq.mono NT.size)
       refine hK.out _ _ ⟨NT, .inr NL⟩ ?_
       clear hK K
       try simp only [Act.put, pA, pB, pC]
       clear bq
       generalize w2_5_6.heap.size = zp at *
       generalize w2_5_6.alloc (.cells #[.int .i64 0, .int .i64 0, .int .i64 0, .int .i64 0, .slice none 0 0, .slice none 0 0, .slice none 0 0] 32) = w2_5_6_11 at *
       refine wpAnyM_ready (rs := [9]) (by kernel_rfl) (by simp) (AllReadyM.cons (by simp only [List.getElem?_toArray, List.getElem?_cons_succ, List.getElem?_cons_zero]; exact rfl) (fun K hK => ?_) AllReadyM.nil)
       refine wp_append_sI (.tmp 11) (.tmp 13) rfl W0.heap.size (.slice (some ⟨zB, 0, none⟩) 0 0) [] rfl RI0 a2 c2 is rfl (I0.below NT) (by simp; omega) NT.size ?_
       intro v9 w2_5_6_9_11 RI G9
       rw [List.nil_append] at RI
       replace RX : RowBx W0.heap.size w2_5_6_9_11 (.slice a5 bs.length c5) bs := rowX_apI RX RI0 G9
       have np : some zp ≠ (Value.slice (some ⟨zB, 0, none⟩) 0 0).ownBlock := ne_rowI RI0 ⟨_, TP⟩
       replace TP := hpG TP G9 np
       clear np
       replace NT := NT.grown G9 NT.size (fun k e => (World.ownsRow.lt RI0 k e).1)
       obtain ⟨a9, c9, ev9, _⟩ := rowI_seesK RI
       subst ev9
       have e10 := run_bldN x1 x2 x3 x4 a5 a9 bs.length c5 is.length c9
       clear RI0 G9
       refine hK.out _ _ ⟨NT, .inr NL⟩ ?_
       clear hK K
       try simp only [Act.put, pA, pB, pC]
       refine takeT (i := 10) (v := .agg #[.int .i64 x1, .int .i64 x2, .int .i64 x3, .int .i64 x4, .slice a5 bs.length c5, .slice a9 is.length c9, .slice none 0 0]) (by simp only [List.getElem?_toArray, List.getElem?_cons_succ, List.getElem?_cons_zero]; exact rfl) (by kernel_rfl) (by kernel_rfl) (by kernel_rfl) (by exact fun _ _ _ h => h) (by decide) (by rfl) (by intro wq hSw; simp [execOp, Act.eval, e10]) ⟨NT, .inr NL⟩ ?_
       try simp only [Act.put, pA, pB, pC]
       refine wpAnyM_ready (rs := [12]) (by kernel_rfl) (by simp) (AllReadyM.cons (by simp only [List.getElem?_toArray, List.getElem?_cons_succ, List.getElem?_cons_zero]; exact rfl) (fun K hK => ?_) AllReadyM.nil)
       clear e10
       refine wp_store_row 32 (.tmp 3) (.tmp 15) rfl zp #[.int .i64 x1, .int .i64 x2, .int .i64 x3, .int .i64 x4, .slice a5 bs.length c5, .slice a9 is.length c9, .slice none 0 0] rfl rfl 32 _ TP infoN7 rfl (by simp [Value.oneCell']) ?_
       have TP7 := setRow_heap w2_5_6_9_11 zp _ #[.int .i64 x1, .int .i64 x2, .int .i64 x3, .int .i64 x4, .slice a5 bs.length c5, .slice a9 is.length c9, .slice none 0 0] 32 (0, 0) TP
       have G7 := grownRow w2_5_6_9_11 zp #[.int .i64 x1, .int .i64 x2, .int .i64 x3, .int .i64 x4, .slice a5 bs.length c5, .slice a9 is.length c9, .slice none 0 0]
       have V7 := Bx7.ofHeap TP7
       have RX7 : RowBx W0.heap.size _ (.slice a5 bs.length c5) bs := rowX_apN RX ⟨_, TP⟩ G7
       have RI7 : RowI W0.heap.size _ (.slice a9 is.length c9) is := rowI_apN RI ⟨_, TP⟩ G7
       replace NT := NT.grown G7 NT.size (fun k e => by injection e with e; omega)
       refine hK.out _ _ ⟨NT, .inl (by kernel_rfl)⟩ ?_
       clear hK K
       try simp only [Act.put]
       refine wpAnyM_done (by kernel_rfl) ?_ _
       refine hcK _ _ (Met.intro (hcJ _ _ ?_))
       (repeat apply Exists.intro)
       refine ⟨?rel, rfl⟩
       case rel => exact ⟨zp, a5, c5, a9, c9, rfl, hzp, V7, ⟨_, TP7⟩, RX7, RI7, NT⟩
     ·go_simp
      have bq := below1 w2_6 (.cells #[.int .i64 0, .int .i64 0, .int .i64 0, .int .i64 0, .slice none 0 0, .slice none 0 0, .slice none 0 0] 32)
      have TP : (w2_6.alloc (.cells #[.int .i64 0, .int .i64 0, .int .i64 0, .int .i64 0, .slice none 0 0, .slice none 0 0, .slice none 0 0] 32)).heap[w2_6.heap.size]? = some (.cells #[.int .i64 0, .int .i64 0, .int .i64 0, .int .i64 0, .slice none 0 0, .slice none 0 0, .slice none 0 0] 32 (0, 0)) := heap_alloc_new _ _
      have hzp : W0.heap.size ≤ w2_6.heap.size := NT.size
      replace RX0 := RX0.belowK bq
      replace RI0 := RI0.below bq
      replace NT := NT.trans (bq.mono NT.size)
      refine hK.out _ _ ⟨NT, .inr NL⟩ ?_
      clear hK K
      try simp only [Act.put, pA, pB, pC]
      clear bq
      generalize w2_6.heap.size = zp at *
      generalize w2_6.alloc (.cells #[.int .i64 0, .int .i64 0, .int .i64 0, .int .i64 0, .slice none 0 0, .slice none 0 0, .slice none 0 0] 32) = w2_6_11 at *
      refine wpAnyM_ready (rs := [5]) (by kernel_rfl) (by simp) (AllReadyM.cons (by simp only [List.getElem?_toArray, List.getElem?_cons_succ, List.getElem?_cons_zero]; exact rfl) (fun K hK => ?_) AllReadyM.nil)
      refine wp_append_sX (.tmp 7) (.tmp 9) rfl W0.heap.size (.slice (some ⟨zA, 0, none⟩) 0 0) [] rfl RX0 a1 c1 bs rfl (X0.below NT) (by simp; omega) NT.size ?_
      intro v5 w2_5_6_11 RX G5
      rw [List.nil_append] at RX
      replace RI0 : RowI W0.heap.size w2_5_6_11 (.slice (some ⟨zB, 0, none⟩) 0 0) [] := rowI_apX RI0 RX0 G5
      have np : some zp ≠ (Value.slice (some ⟨zA, 0, none⟩) 0 0).ownBlock := ne_rowX RX0 ⟨_, TP⟩
      replace TP := hpG TP G5 np
      clear np
      replace NT := NT.grown G5 NT.size (fun k e => (World.ownsRow.lt RX0 k e).1)
      obtain ⟨a5, c5, ev5, _⟩ := rowX_seesK RX
      subst ev5
      clear RX0 G5
      refine hK.out _ _ ⟨NT, .inr NL⟩ ?_
      clear hK K
      try simp only [Act.put, pA, pB, pC]
      refine wpAnyM_ready (rs := [9]) (by kernel_rfl) (by simp) (AllReadyM.cons (by simp only [List.getElem?_toArray, List.getElem?_cons_succ, List.getElem?_cons_zero]; exact rfl) (fun K hK => ?_) AllReadyM.nil)
      refine wp_append_sI (.tmp 11) (.tmp 13) rfl W0.heap.size (.slice (some ⟨zB, 0, none⟩) 0 0) [] rfl RI0 a2 c2 is rfl (I0.below NT) (by simp; omega) NT.size ?_
      intro v9 w2_5_6_9_11 RI G9
      rw [List.nil_append] at RI
      replace RX : RowBx W0.heap.size w2_5_6_9_11 (.slice a5 bs.length c5) bs := rowX_apI RX RI0 G9
      have np : some zp ≠ (Value.slice (some ⟨zB, 0, none⟩) 0 0).ownBlock := ne_rowI RI0 ⟨_, TP⟩
      replace TP := hpG TP G9 np
      clear np
      replace NT := NT.grown G9 NT.size (fun k e => (World.ownsRow.lt RI0 k e).1)
      obtain ⟨a9, c9, ev9, _⟩ := rowI_seesK RI
      subst ev9
      have e10 := run_bldN x1 x2 x3 x4 a5 a9 bs.length c5 is.length c9
      clear RI0 G9
      refine hK.out _ _ ⟨NT, .inr NL⟩ ?_
      clear hK K
      try simp only [Act.put, pA, pB, pC]
      refine takeT (i := 10) (v := .agg #[.int .i64 x1, .int .i64 x2, .int .i64 x3, .int .i64 x4, .slice a5 bs.length c5, .slice a9 is.length c9, .slice none 0 0]) (by simp only [List.getElem?_toArray, List.getElem?_cons_succ, List.getElem?_cons_zero]; exact rfl) (by kernel_rfl) (by kernel_rfl) (by kernel_rfl) (by exact fun _ _ _ h => h) (by decide) (by rfl) (by intro wq hSw; simp [execOp, Act.eval, e10]) ⟨NT, .inr NL⟩ ?_
      try simp only [Act.put, pA, pB, pC]
      refine wpAnyM_ready (rs := [12]) (by kernel_rfl) (by simp) (AllReadyM.cons (by simp only [List.getElem?_toArray, List.getElem?_cons_succ, List.getElem?_cons_zero]; exact rfl) (fun K hK => ?_) AllReadyM.nil)
      clear e10
      refine wp_store_row 32 (.tmp 3) (.tmp 15) rfl zp #[.int .i64 x1, .int .i64 x2, .int .i64 x3, .int .i64 x4, .slice a5 bs.length c5, .slice a9 is.length c9, .slice none 0 0] rfl rfl 32 _ TP infoN7 rfl (by simp [Value.oneCell']) ?_
      have TP7 := setRow_heap w2_5_6_9_11 zp _ #[.int .i64 x1, .int .i64 x2, .int .i64 x3, .int .i64 x4, .slice a5 bs.length c5, .slice a9 is.length c9, .slice none 0 0] 32 (0, 0) TP
      have G7 := grownRow w2_5_6_9_11 zp #[.int .i64 x1, .int .i64 x2, .int .i64 x3, .int .i64 x4, .slice a5 bs.length c5, .slice a9 is.length c9, .slice none 0 0]
      have V7 := Bx7.ofHeap TP7
      have RX7 : RowBx W0.heap.size _ (.slice a5 bs.length c5) bs := rowX_apN RX ⟨_, TP⟩ G7
      have RI7 : RowI W0.heap.size _ (.slice a9 is.length c9) is := rowI_apN RI ⟨_, TP⟩ G7
      replace NT := NT.grown G7 NT.size (fun k e => by injection e with e; omega)
      refine hK.out _ _ ⟨NT, .inl (by kernel_rfl)⟩ ?_
      clear hK K
      try simp only [Act.put]
      refine wpAnyM_done (by kernel_rfl) ?_ _
      refine hcK _ _ (Met.intro (hcJ _ _ ?_))
      (repeat apply Exists.intro)
      refine ⟨?rel, rfl⟩
      case rel => exact ⟨zp, a5, c5, a9, c9, rfl, hzp, V7, ⟨_, TP7⟩, RX7, RI7, NT⟩
    ·go_simp
     have bq := below1 w6 (.cells #[.int .i64 0, .int .i64 0, .int .i64 0, .int .i64 0, .slice none 0 0, .slice none 0 0, .slice none 0 0] 32)
     have TP : (w6.alloc (.cells #[.int .i64 0, .int .i64 0, .int .i64 0, .int .i64 0, .slice none 0 0, .slice none 0 0, .slice none 0 0] 32)).heap[w6.heap.size]? = some (.cells #[.int .i64 0, .int .i64 0, .int .i64 0, .int .i64 0, .slice none 0 0, .slice none 0 0, .slice none 0 0] 32 (0, 0)) := heap_alloc_new _ _
     have hzp : W0.heap.size ≤ w6.heap.size := NT.size
     replace RI0 := RI0.below bq
     replace NT := NT.trans (bq.mono NT.size)
     refine hK.out _ _ ⟨NT, .inr NL⟩ ?_
     clear hK K
     try simp only [Act.put, pA, pB, pC]
     clear bq
     generalize w6.heap.size = zp at *
     generalize w6.alloc (.cells #[.int .i64 0, .int .i64 0, .int .i64 0, .int .i64 0, .slice none 0 0, .slice none 0 0, .slice none 0 0] 32) = w6_11 at *
     refine wpAnyM_ready (rs := [2]) (by kernel_rfl) (by simp) (AllReadyM.cons (by simp only [List.getElem?_toArray, List.getElem?_cons_succ, List.getElem?_cons_zero]; exact rfl) (fun K hK => ?_) AllReadyM.nil)
     go_simp
     have bq := below1 w6_11 (.cells #[] 27)
     have RX0 := RowBx.empty w6_11 (base := W0.heap.size) NT.size
     replace RI0 := RI0.below bq
     replace TP := hpB TP bq
     replace NT := NT.trans (bq.mono NT.size)
     refine hK.out _ _ ⟨NT, .inr NL⟩ ?_
     clear hK K
     try simp only [Act.put, pA, pB, pC]
     clear bq
     generalize w6_11.heap.size = zA at *
     generalize w6_11.alloc (.cells #[] 27) = w2_6_11 at *
     refine wpAnyM_ready (rs := [5]) (by kernel_rfl) (by simp) (AllReadyM.cons (by simp only [List.getElem?_toArray, List.getElem?_cons_succ, List.getElem?_cons_zero]; exact rfl) (fun K hK => ?_) AllReadyM.nil)
     refine wp_append_sX (.tmp 7) (.tmp 9) rfl W0.heap.size (.slice (some ⟨zA, 0, none⟩) 0 0) [] rfl RX0 a1 c1 bs rfl (X0.below NT) (by simp; omega) NT.size ?_
     intro v5 w2_5_6_11 RX G5
     rw [List.nil_append] at RX
     replace RI0 : RowI W0.heap.size w2_5_6_11 (.slice (some ⟨zB, 0, none⟩) 0 0) [] := rowI_apX RI0 RX0 G5
     have np : some zp ≠ (Value.slice (some ⟨zA, 0, none⟩) 0 0).ownBlock := ne_rowX RX0 ⟨_, TP⟩
     replace TP := hpG TP G5 np
     clear np
     replace NT := NT.grown G5 NT.size (fun k e => (World.ownsRow.lt RX0 k e).1)
     obtain ⟨a5, c5, ev5, _⟩ := rowX_seesK RX
     subst ev5
     clear RX0 G5
     refine hK.out _ _ ⟨NT, .inr NL⟩ ?_
     clear hK K
     try simp only [Act.put, pA, pB, pC]
     refine wpAnyM_ready (rs := [9]) (by kernel_rfl) (by simp) (AllReadyM.cons (by simp only [List.getElem?_toArray, List.getElem?_cons_succ, List.getElem?_cons_zero]; exact rfl) (fun K hK => ?_) AllReadyM.nil)
     refine wp_append_sI (.tmp 11) (.tmp 13) rfl W0.heap.size (.slice (some ⟨zB, 0, none⟩) 0 0) [] rfl RI0 a2 c2 is rfl (I0.below NT) (by simp; omega) NT.size ?_
     intro v9 w2_5_6_9_11 RI G9
     rw [List.nil_append] at RI
     replace RX : RowBx W0.heap.size w2_5_6_9_11 (.slice a5 bs.length c5) bs := rowX_apI RX RI0 G9
     have np : some zp ≠ (Value.slice (some ⟨zB, 0, none⟩) 0 0).ownBlock := ne_rowI RI0 ⟨_, TP⟩
     replace TP := hpG TP G9 np
     clear np
     replace NT := NT.grown G9 NT.size (fun k e => (World.ownsRow.lt RI0 k e).1)
     obtain ⟨a9, c9, ev9, _⟩ := rowI_seesK RI
     subst ev9
     have e10 := run_bldN x1 x2 x3 x4 a5 a9 bs.length c5 is.length c9
     clear RI0 G9
     refine hK.out _ _ ⟨NT, .inr NL⟩ ?_
     clear hK K
     try simp only [Act.put, pA, pB, pC]
     refine takeT (i := 10) (v := .agg #[.int .i64 x1, .int .i64 x2, .int .i64 x3, .int .i64 x4, .slice a5 bs.length c5, .slice a9 is.length c9, .slice none 0 0]) (by simp only [List.getElem?_toArray, List.getElem?_cons_succ, List.getElem?_cons_zero]; exact rfl) (by kernel_rfl) (by kernel_rfl) (by kernel_rfl) (by exact fun _ _ _ h => h) (by decide) (by rfl) (by intro wq hSw; simp [execOp, Act.eval, e10]) ⟨NT, .inr NL⟩ ?_
     try simp only [Act.put, pA, pB, pC]
     refine wpAnyM_ready (rs := [12]) (by kernel_rfl) (by simp) (AllReadyM.cons (by simp only [List.getElem?_toArray, List.getElem?_cons_succ, List.getElem?_cons_zero]; exact rfl) (fun K hK => ?_) AllReadyM.nil)
     clear e10
     refine wp_store_row 32 (.tmp 3) (.tmp 15) rfl zp #[.int .i64 x1, .int .i64 x2, .int .i64 x3, .int .i64 x4, .slice a5 bs.length c5, .slice a9 is.length c9, .slice none 0 0] rfl rfl 32 _ TP infoN7 rfl (by simp [Value.oneCell']) ?_
     have TP7 := setRow_heap w2_5_6_9_11 zp _ #[.int .i64 x1, .int .i64 x2, .int .i64 x3, .int .i64 x4, .slice a5 bs.length c5, .slice a9 is.length c9, .slice none 0 0] 32 (0, 0) TP
     have G7 := grownRow w2_5_6_9_11 zp #[.int .i64 x1, .int .i64 x2, .int .i64 x3, .int .i64 x4, .slice a5 bs.length c5, .slice a9 is.length c9, .slice none 0 0]
     have V7 := Bx7.ofHeap TP7
     have RX7 : RowBx W0.heap.size _ (.slice a5 bs.length c5) bs := rowX_apN RX ⟨_, TP⟩ G7
     have RI7 : RowI W0.heap.size _ (.slice a9 is.length c9) is := rowI_apN RI ⟨_, TP⟩ G7
     replace NT := NT.grown G7 NT.size (fun k e => by injection e with e; omega)
     refine hK.out _ _ ⟨NT, .inl (by kernel_rfl)⟩ ?_
     clear hK K
     try simp only [Act.put]
     refine wpAnyM_done (by kernel_rfl) ?_ _
     refine hcK _ _ (Met.intro (hcJ _ _ ?_))
     (repeat apply Exists.intro)
     refine ⟨?rel, rfl⟩
     case rel => exact ⟨zp, a5, c5, a9, c9, rfl, hzp, V7, ⟨_, TP7⟩, RX7, RI7, NT⟩
   ·go_simp
    have bq := below1 ww0 (.cells #[.int .i64 0, .int .i64 0, .int .i64 0, .int .i64 0, .slice none 0 0, .slice none 0 0, .slice none 0 0] 32)
    have TP : (ww0.alloc (.cells #[.int .i64 0, .int .i64 0, .int .i64 0, .int .i64 0, .slice none 0 0, .slice none 0 0, .slice none 0 0] 32)).heap[ww0.heap.size]? = some (.cells #[.int .i64 0, .int .i64 0, .int .i64 0, .int .i64 0, .slice none 0 0, .slice none 0 0, .slice none 0 0] 32 (0, 0)) := heap_alloc_new _ _
    have hzp : W0.heap.size ≤ ww0.heap.size := NT.size
    replace NT := NT.trans (bq.mono NT.size)
    refine hK.out _ _ ⟨NT, .inr NL⟩ ?_
    clear hK K
    try simp only [Act.put, pA, pB, pC]
    clear bq
    generalize ww0.heap.size = zp at *
    generalize ww0.alloc (.cells #[.int .i64 0, .int .i64 0, .int .i64 0, .int .i64 0, .slice none 0 0, .slice none 0 0, .slice none 0 0] 32) = w11 at *
    refine wpAnyM_ready (rs := [2, 6]) (by kernel_rfl) (by simp) (AllReadyM.cons (by simp only [List.getElem?_toArray, List.getElem?_cons_succ, List.getElem?_cons_zero]; exact rfl) (fun K hK => ?_) (AllReadyM.cons (by simp only [List.getElem?_toArray, List.getElem?_cons_succ, List.getElem?_cons_zero]; exact rfl) (fun K hK => ?_) AllReadyM.nil))
    ·go_simp
     have bq := below1 w11 (.cells #[] 27)
     have RX0 := RowBx.empty w11 (base := W0.heap.size) NT.size
     replace TP := hpB TP bq
     replace NT := NT.trans (bq.mono NT.size)
     refine hK.out _ _ ⟨NT, .inr NL⟩ ?_
     clear hK K
     try simp only [Act.put, pA, pB, pC]
     clear bq
     generalize w11.heap.size = zA at *
     generalize w11.alloc (.cells #[] 27) = w2_11 at *
     refine wpAnyM_ready (rs := [5, 6]) (by kernel_rfl) (by simp) (AllReadyM.cons (by simp only [List.getElem?_toArray, List.getElem?_cons_succ, List.getElem?_cons_zero]; exact rfl) (fun K hK => ?_) (AllReadyM.cons (by simp only [List.getElem?_toArray, List.getElem?_cons_succ, List.getElem?_cons_zero]; exact rfl) (fun K hK => ?_) AllReadyM.nil))
     ·refine wp_append_sX (.tmp 7) (.tmp 9) rfl W0.heap.size (.slice (some ⟨zA, 0, none⟩) 0 0) [] rfl RX0 a1 c1 bs rfl (X0.below NT) (by simp; omega) NT.size ?_
      intro v5 w2_5_11 RX G5
      rw [List.nil_append] at RX
      have np : some zp ≠ (Value.slice (some ⟨zA, 0, none⟩) 0 0).ownBlock := ne_rowX RX0 ⟨_, TP⟩
      replace TP := hpG TP G5 np
      clear np
      replace NT := NT.grown G5 NT.size (fun k e => (World.ownsRow.lt RX0 k e).1)
      obtain ⟨a5, c5, ev5, _⟩ := rowX_seesK RX
      subst ev5
      clear RX0 G5
      refine hK.out _ _ ⟨NT, .inr NL⟩ ?_
      clear hK K
      try simp only [Act.put, pA, pB, pC]
      refine wpAnyM_ready (rs := [6]) (by kernel_rfl) (by simp) (AllReadyM.cons (by simp only [List.getElem?_toArray, List.getElem?_cons_succ, List.getElem?_cons_zero]; exact rfl) (fun K hK => ?_) AllReadyM.nil)
      go_simp
      have bq := below1 w2_5_11 (.cells #[] 3)
      have RI0 := RowI.empty w2_5_11 (base := W0.heap.size) NT.size
      replace RX := RX.belowK bq
      replace TP := hpB TP bq
      replace NT := NT.trans (bq.mono NT.size)
      refine hK.out _ _ ⟨NT, .inr NL⟩ ?_
      clear hK K
      try simp only [Act.put, pA, pB, pC]
      clear bq
      generalize w2_5_11.heap.size = zB at *
      generalize w2_5_11.alloc (.cells #[] 3) = w2_5_6_11 at *
      refine wpAnyM_ready (rs := [9]) (by kernel_rfl) (by simp) (AllReadyM.cons (by simp only [List.getElem?_toArray, List.getElem?_cons_succ, List.getElem?_cons_zero]; exact rfl) (fun K hK => ?_) AllReadyM.nil)
      refine wp_append_sI (.tmp 11) (.tmp 13) rfl W0.heap.size (.slice (some ⟨zB, 0, none⟩) 0 0) [] rfl RI0 a2 c2 is rfl (I0.below NT) (by simp; omega) NT.size ?_
      intro v9 w2_5_6_9_11 RI G9
      rw [List.nil_append] at RI
      replace RX : RowBx W0.heap.size w2_5_6_9_11 (.slice a5 bs.length c5) bs := rowX_apI RX RI0 G9
      have np : some zp ≠ (Value.slice (some ⟨zB, 0, none⟩) 0 0).ownBlock := ne_rowI RI0 ⟨_, TP⟩
      replace TP := hpG TP G9 np
      clear np
      replace NT := NT.grown G9 NT.size (fun k e => (World.ownsRow.lt RI0 k e).1)
      obtain ⟨a9, c9, ev9, _⟩ := rowI_seesK RI
      subst ev9
      have e10 := run_bldN x1 x2 x3 x4 a5 a9 bs.length c5 is.length c9
      clear RI0 G9
      refine hK.out _ _ ⟨NT, .inr NL⟩ ?_
      clear hK K
      try simp only [Act.put, pA, pB, pC]
      refine takeT (i := 10) (v := .agg #[.int .i64 x1, .int .i64 x2, .int .i64 x3, .int .i64 x4, .slice a5 bs.length c5, .slice a9 is.length c9, .slice none 0 0]) (by simp only [List.getElem?_toArray, List.getElem?_cons_succ, List.getElem?_cons_zero]; exact rfl) (by kernel_rfl) (by kernel_rfl) (by kernel_rfl) (by exact fun _ _ _ h => h) (by decide) (by rfl) (by intro wq hSw; simp [execOp, Act.eval, e10]) ⟨NT, .inr NL⟩ ?_
      try simp only [Act.put, pA, pB, pC]
      refine wpAnyM_ready (rs := [12]) (by kernel_rfl) (by simp) (AllReadyM.cons (by simp only [List.getElem?_toArray, List.getElem?_cons_succ, List.getElem?_cons_zero]; exact rfl) (fun K hK => ?_) AllReadyM.nil)
      clear e10
      refine wp_store_row 32 (.tmp 3) (.tmp 15) rfl zp #[.int .i64 x1, .int .i64 x2, .int .i64 x3, .int .i64 x4, .slice a5 bs.length c5, .slice a9 is.length c9, .slice none 0 0] rfl rfl 32 _ TP infoN7 rfl (by simp [Value.oneCell']) ?_
      have TP7 := setRow_heap w2_5_6_9_11 zp _ #[.int .i64 x1, .int .i64 x2, .int .i64 x3, .int .i64 x4, .slice a5 bs.length c5, .slice a9 is.length c9, .slice none 0 0] 32 (0, 0) TP
      have G7 := grownRow w2_5_6_9_11 zp #[.int .i64 x1, .int .i64 x2, .int .i64 x3, .int .i64 x4, .slice a5 bs.length c5, .slice a9 is.length c9, .slice none 0 0]
      have V7 := Bx7.ofHeap TP7
      have RX7 : RowBx W0.heap.size _ (.slice a5 bs.length c5) bs := rowX_apN RX ⟨_, TP⟩ G7
      have RI7 : RowI W0.heap.size _ (.slice a9 is.length c9) is := rowI_apN RI ⟨_, TP⟩ G7
      replace NT := NT.grown G7 NT.size (fun k e => by injection e with e; omega)
      refine hK.out _ _ ⟨NT, .inl (by kernel_rfl)⟩ ?_
      clear hK K
      try simp only [Act.put]
      refine wpAnyM_done (by kernel_rfl) ?_ _
      refine hcK _ _ (Met.intro (hcJ _ _ ?_))
      (repeat apply Exists.intro)
      refine ⟨?rel, rfl⟩
      case rel => exact ⟨zp, a5, c5, a9, c9, rfl, hzp, V7, ⟨_, TP7⟩, RX7, RI7, NT⟩
     ·go_simp
      have bq := below1 w2_11 (.cells #[] 3)
      have RI0 := RowI.empty w2_11 (base := W0.heap.size) NT.size
      replace RX0 := RX0.belowK bq
      replace TP := hpB TP bq
      replace NT := NT.trans (bq.mono NT.size)
      refine hK.out _ _ ⟨NT, .inr NL⟩ ?_
      clear hK K
      try simp only [Act.put, pA, pB, pC]
      clear bq
      generalize w2_11.heap.size = zB at *
      generalize w2_11.alloc (.cells #[] 3) = w2_6_11 at *
      refine wpAnyM_ready (rs := [5]) (by kernel_rfl) (by simp) (AllReadyM.cons (by simp only [List.getElem?_toArray, List.getElem?_cons_succ, List.getElem?_cons_zero]; exact rfl) (fun K hK => ?_) AllReadyM.nil)
      refine wp_append_sX (.tmp 7) (.tmp 9) rfl W0.heap.size (.slice (some ⟨zA, 0, none⟩) 0 0) [] rfl RX0 a1 c1 bs rfl (X0.below NT) (by simp; omega) NT.size ?_
      intro v5 w2_5_6_11 RX G5
      rw [List.nil_append] at RX
      replace RI0 : RowI W0.heap.size w2_5_6_11 (.slice (some ⟨zB, 0, none⟩) 0 0) [] := rowI_apX RI0 RX0 G5
      have np : some zp ≠ (Value.slice (some ⟨zA, 0, none⟩) 0 0).ownBlock := ne_rowX RX0 ⟨_, TP⟩
      replace TP := hpG TP G5 np
      clear np
      replace NT := NT.grown G5 NT.size (fun k e => (World.ownsRow.lt RX0 k e).1)
      obtain ⟨a5, c5, ev5, _⟩ := rowX_seesK RX
      subst ev5
      clear RX0 G5
      refine hK.out _ _ ⟨NT, .inr NL⟩ ?_
      clear hK K
      try simp only [Act.put, pA, pB, pC]
      refine wpAnyM_ready (rs := [9]) (by kernel_rfl) (by simp) (AllReadyM.cons (by simp only [List.getElem?_toArray, List.getElem?_cons_succ, List.getElem?_cons_zero]; exact rfl) (fun K hK => ?_) AllReadyM.nil)
      refine wp_append_sI (.tmp 11) (.tmp 13) rfl W0.heap.size (.slice (some ⟨zB, 0, none⟩) 0 0) [] rfl RI0 a2 c2 is rfl (I0.below NT) (by simp; omega) NT.size ?_
      intro v9 w2_5_6_9_11 RI G9
      rw [List.nil_append] at RI
      replace RX : RowBx W0.heap.size w2_5_6_9_11 (.slice a5 bs.length c5) bs := rowX_apI RX RI0 G9
      have np : some zp ≠ (Value.slice (some ⟨zB, 0, none⟩) 0 0).ownBlock := ne_rowI RI0 ⟨_, TP⟩
      replace TP := hpG TP G9 np
      clear np
      replace NT := NT.grown G9 NT.size (fun k e => (World.ownsRow.lt RI0 k e).1)
      obtain ⟨a9, c9, ev9, _⟩ := rowI_seesK RI
      subst ev9
      have e10 := run_bldN x1 x2 x3 x4 a5 a9 bs.length c5 is.length c9
      clear RI0 G9
      refine hK.out _ _ ⟨NT, .inr NL⟩ ?_
      clear hK K
      try simp only [Act.put, pA, pB, pC]
      refine takeT (i := 10) (v := .agg #[.int .i64 x1, .int .i64 x2, .int .i64 x3, .int .i64 x4, .slice a5 bs.length c5, .slice a9 is.length c9, .slice none 0 0]) (by simp only [List.getElem?_toArray, List.getElem?_cons_succ, List.getElem?_cons_zero]; exact rfl) (by kernel_rfl) (by kernel_rfl) (by kernel_rfl) (by exact fun _ _ _ h => h) (by decide) (by rfl) (by intro wq hSw; simp [execOp, Act.eval, e10]) ⟨NT, .inr NL⟩ ?_
      try simp only [Act.put, pA, pB, pC]
      refine wpAnyM_ready (rs := [12]) (by kernel_rfl) (by simp) (AllReadyM.cons (by simp only [List.getElem?_toArray, List.getElem?_cons_succ, List.getElem?_cons_zero]; exact rfl) (fun K hK => ?_) AllReadyM.nil)
      clear e10
      refine wp_store_row 32 (.tmp 3) (.tmp 15) rfl zp #[.int .i64 x1, .int .i64 x2, .int .i64 x3, .int .i64 x4, .slice a5 bs.length c5, .slice a9 is.length c9, .slice none 0 0] rfl rfl 32 _ TP infoN7 rfl (by simp [Value.oneCell']) ?_
      have TP7 := setRow_heap w2_5_6_9_11 zp _ #[.int .i64 x1, .int .i64 x2, .int .i64 x3, .int .i64 x4, .slice a5 bs.length c5, .slice a9 is.length c9, .slice none 0 0] 32 (0, 0) TP
      have G7 := grownRow w2_5_6_9_11 zp #[.int .i64 x1, .int .i64 x2, .int .i64 x3, .int .i64 x4, .slice a5 bs.length c5, .slice a9 is.length c9, .slice none 0 0]
      have V7 := Bx7.ofHeap TP7
      have RX7 : RowBx W0.heap.size _ (.slice a5 bs.length c5) bs := rowX_apN RX ⟨_, TP⟩ G7
      have RI7 : RowI W0.heap.size _ (.slice a9 is.length c9) is := rowI_apN RI ⟨_, TP⟩ G7
      replace NT := NT.grown G7 NT.size (fun k e => by injection e with e; omega)
      refine hK.out _ _ ⟨NT, .inl (by kernel_rfl)⟩ ?_
      clear hK K
      try simp only [Act.put]
      refine wpAnyM_done (by kernel_rfl) ?_ _
      refine hcK _ _ (Met.intro (hcJ _ _ ?_))
      (repeat apply Exists.intro)
      refine ⟨?rel, rfl⟩
      case rel => exact ⟨zp, a5, c5, a9, c9, rfl, hzp, V7, ⟨_, TP7⟩, RX7, RI7, NT⟩
    ·go_simp
     have bq := below1 w11 (.cells #[] 3)
     have RI0 := RowI.empty w11 (base := W0.heap.size) NT.size
     replace TP := hpB TP bq
     replace NT := NT.trans (bq.mono NT.size)
     refine hK.out _ _ ⟨NT, .inr NL⟩ ?_
     clear hK K
     try simp only [Act.put, pA, pB, pC]
     clear bq
     generalize w11.heap.size = zB at *
     generalize w11.alloc (.cells #[] 3) = w6_11 at *
     refine wpAnyM_ready (rs := [2]) (by kernel_rfl) (by simp) (AllReadyM.cons (by simp only [List.getElem?_toArray, List.getElem?_cons_succ, List.getElem?_cons_zero]; exact rfl) (fun K hK => ?_) AllReadyM.nil)
     go_simp
     have bq := below1 w6_11 (.cells #[] 27)
     have RX0 := RowBx.empty w6_11 (base := W0.heap.size) NT.size
     replace RI0 := RI0.below bq
     replace TP := hpB TP bq
     replace NT := NT.trans (bq.mono NT.size)
     refine hK.out _ _ ⟨NT, .inr NL⟩ ?_
     clear hK K
     try simp only [Act.put, pA, pB, pC]
     clear bq
     generalize w6_11.heap.size = zA at *
     generalize w6_11.alloc (.cells #[] 27) = w2_6_11 at *
     refine wpAnyM_ready (rs := [5]) (by kernel_rfl) (by simp) (AllReadyM.cons (by simp only [List.getElem?_toArray, List.getElem?_cons_succ, List.getElem?_cons_zero]; exact rfl) (fun K hK => ?_) AllReadyM.nil)
     refine wp_append_sX (.tmp 7) (.tmp 9) rfl W0.heap.size (.slice (some ⟨zA, 0, none⟩) 0 0) [] rfl RX0 a1 c1 bs rfl (X0.below NT) (by simp; omega) NT.size ?_
     intro v5 w2_5_6_11 RX G5
     rw [List.nil_append] at RX
     replace RI0 : RowI W0.heap.size w2_5_6_11 (.slice (some ⟨zB, 0, none⟩) 0 0) [] := rowI_apX RI0 RX0 G5
     have np : some zp ≠ (Value.slice (some ⟨zA, 0, none⟩) 0 0).ownBlock := ne_rowX RX0 ⟨_, TP⟩
     replace TP := hpG TP G5 np
     clear np
     replace NT := NT.grown G5 NT.size (fun k e => (World.ownsRow.lt RX0 k e).1)
     obtain ⟨a5, c5, ev5, _⟩ := rowX_seesK RX
     subst ev5
     clear RX0 G5
     refine hK.out _ _ ⟨NT, .inr NL⟩ ?_
     clear hK K
     try simp only [Act.put, pA, pB, pC]
     refine wpAnyM_ready (rs := [9]) (by kernel_rfl) (by simp) (AllReadyM.cons (by simp only [List.getElem?_toArray, List.getElem?_cons_succ, List.getElem?_cons_zero]; exact rfl) (fun K hK => ?_) AllReadyM.nil)
     refine wp_append_sI (.tmp 11) (.tmp 13) rfl W0.heap.size (.slice (some ⟨zB, 0, none⟩) 0 0) [] rfl RI0 a2 c2 is rfl (I0.below NT) (by simp; omega) NT.size ?_
     intro v9 w2_5_6_9_11 RI G9
     rw [List.nil_append] at RI
     replace RX : RowBx W0.heap.size w2_5_6_9_11 (.slice a5 bs.length c5) bs := rowX_apI RX RI0 G9
     have np : some zp ≠ (Value.slice (some ⟨zB, 0, none⟩) 0 0).ownBlock := ne_rowI RI0 ⟨_, TP⟩
     replace TP := hpG TP G9 np
     clear np
     replace NT := NT.grown G9 NT.size (fun k e => (World.ownsRow.lt RI0 k e).1)
     obtain ⟨a9, c9, ev9, _⟩ := rowI_seesK RI
     subst ev9
     have e10 := run_bldN x1 x2 x3 x4 a5 a9 bs.length c5 is.length c9
     clear RI0 G9
     refine hK.out _ _ ⟨NT, .inr NL⟩ ?_
     clear hK K
     try simp only [Act.put, pA, pB, pC]
     refine takeT (i := 10) (v := .agg #[.int .i64 x1, .int .i64 x2, .int .i64 x3, .int .i64 x4, .slice a5 bs.length c5, .slice a9 is.length c9, .slice none 0 0]) (by simp only [List.getElem?_toArray, List.getElem?_cons_succ, List.getElem?_cons_zero]; exact rfl) (by kernel_rfl) (by kernel_rfl) (by kernel_rfl) (by exact fun _ _ _ h => h) (by decide) (by rfl) (by intro wq hSw; simp [execOp, Act.eval, e10]) ⟨NT, .inr NL⟩ ?_
     try simp only [Act.put, pA, pB, pC]
     refine wpAnyM_ready (rs := [12]) (by kernel_rfl) (by simp) (AllReadyM.cons (by simp only [List.getElem?_toArray, List.getElem?_cons_succ, List.getElem?_cons_zero]; exact rfl) (fun K hK => ?_) AllReadyM.nil)
     clear e10
     refine wp_store_row 32 (.tmp 3) (.tmp 15) rfl zp #[.int .i64 x1, .int .i64 x2, .int .i64 x3, .int .i64 x4, .slice a5 bs.length c5, .slice a9 is.length c9, .slice none 0 0] rfl rfl 32 _ TP infoN7 rfl (by simp [Value.oneCell']) ?_
     have TP7 := setRow_heap w2_5_6_9_11 zp _ #[.int .i64 x1, .int .i64 x2, .int .i64 x3, .int .i64 x4, .slice a5 bs.length c5, .slice a9 is.length c9, .slice none 0 0] 32 (0, 0) TP
     have G7 := grownRow w2_5_6_9_11 zp #[.int .i64 x1, .int .i64 x2, .int .i64 x3, .int .i64 x4, .slice a5 bs.length c5, .slice a9 is.length c9, .slice none 0 0]
     have V7 := Bx7.ofHeap TP7
     have RX7 : RowBx W0.heap.size _ (.slice a5 bs.length c5) bs := rowX_apN RX ⟨_, TP⟩ G7
     have RI7 : RowI W0.heap.size _ (.slice a9 is.length c9) is := rowI_apN RI ⟨_, TP⟩ G7
     replace NT := NT.grown G7 NT.size (fun k e => by injection e with e; omega)
     refine hK.out _ _ ⟨NT, .inl (by kernel_rfl)⟩ ?_
     clear hK K
     try simp only [Act.put]
     refine wpAnyM_done (by kernel_rfl) ?_ _
     refine hcK _ _ (Met.intro (hcJ _ _ ?_))
     (repeat apply Exists.intro)
     refine ⟨?rel, rfl⟩
     case rel => exact ⟨zp, a5, c5, a9, c9, rfl, hzp, V7, ⟨_, TP7⟩, RX7, RI7, NT⟩
 rename World => w1
 obtain ⟨zp, a5, c5, a9, c9, rfl, hzp, V7, TP, RX, RI, B1⟩ := hcut
 have HV7 : Hid (Bx7 w1 zp (.int .i64 x1) (.int .i64 x2) (.int .i64 x3) (.int .i64 x4) (.slice a5 bs.length c5) (.slice a9 is.length c9) (.slice none 0 0)) := V7
 have hw1 : Hid (W0.heap.size ≤ w1.heap.size ∧ zp < w1.heap.size) := ⟨B1.size, V7.lt⟩
 have L0 : Hid (LvE w1.heap.size w1.heap.size w1 (.slice none 0 0) [] (ks.take 0)) := by show LvE _ _ _ _ _ _; rw [List.take_zero]; exact LvE.nil _ _ _ (RowK.nil _ _)
 have K6 : Hid (W0.cell? ⟨w.heap.size, 6, none⟩ = some (.slice a3 ks.length c3)) := k6
 have HB1 : Hid (Below W0.heap.size W0 w1) := B1
 have hm3 := N0.max
 have hf3 := N0.fits
 unfold maxLen at hm3
 have hlk := HSZ.out.2.2.1
 clear k0 k1 k2 k3 k4 k5 k6 V7 B1 V1
 have G0 : Hid (w1.grownBy w1 (some zp)) := grownBy_refl _ _
 go_wp2
 go_loopw [4] (fun s4 wr => ∃ (j : Nat) (v6 : Value) (es : List Ke), j ≤ ks.length ∧ s4 = .int .i64 j ∧ Hid (LvE w1.heap.size w1.heap.size wr v6 es (ks.take j)) ∧ Hid (Bx7 wr zp (.int .i64 x1) (.int .i64 x2) (.int .i64 x3) (.int .i64 x4) (.slice a5 bs.length c5) (.slice a9 is.length c9) v6) ∧ Hid (w1.grownBy wr (some zp))) (fun s4 _ => ks.length - (intOf s4).toNat)
 case atStart => exact ⟨0, _, _, Nat.zero_le _, rfl, L0, HV7, G0⟩
 case round =>
  clear L0 HV7 G0
  obtain ⟨j, v6, es, hj, rfl, LH, VH, GH⟩ := hrel
  rename World => wr
  have BW : Below W0.heap.size W0 wr := HB1.out.grown GH.out HB1.out.size (fun k e => by injection e with e; omega)
  have y6 := bat BW K6.out
  have hzw : zp < w1.heap.size := hw1.out.2
  by_cases hlt : j < ks.length
  ·have hlt' : (j : Int) < (ks.length : Int) := by omega
   obtain ⟨p, o, ea, hcell⟩ := N0.cells (by intro e; simp [e] at hlt)
   obtain ⟨z1, z2, z3, SV, ND⟩ := hcell j hlt
   obtain ⟨⟨s0, s1, s2, s3⟩, s4, s5, s6⟩ := SV
   have CK := fun (W : World) (hb : Below W0.heap.size W0 W) => IH.out _ (ndA_mem hlt) z1 z2 z3 W (NdIn.keep hb _ ND) (HSZ.out.2.2.2 _ (ndA_mem hlt))
   have HKT : Hid (ks.take (j + 1) = ks.take j ++ [ndA ks j]) := by
    show _ = _
    rw [List.take_succ_eq_append_getElem hlt]
    unfold ndA
    rw [List.getElem?_eq_getElem hlt]
    rfl
   have HEL : Hid (es.length ≤ 1048576) := by
    have e := LH.out.len
    rw [List.length_take] at e
    show _ ≤ _
    omega
   obtain ⟨m1, n1, m2, n2, m3, n3, rfl, rfl, rfl, _⟩ := ND.open
   subst ea
   clear hcell ND
   go_upto_region 5 with fail
   clear y6
   have NT : Below W0.heap.size W0 wr.drew := BW.trans ((Below.refl wr.heap.size wr).drew.mono BW.size)
   have LE := LH.out.below (Below.refl wr.heap.size wr).drew
   have VP := VH.out.below (Below.refl wr.heap.size wr).drew
   have GG := GH.out.belowK (Below.refl wr.heap.size wr).drew
   have NL := VP.c6
   clear LH VH GH BW
   unfold ndV at CK
   refine wp_region_M 11 (fun W => W.cell? ⟨zp, 6, none⟩ = some v6) (fun W => Below W0.heap.size W0 W) (by kernel_rfl) ?_
   generalize wr.drew = ww0 at *
   refine takeT (i := 0) (by simp only [List.getElem?_toArray, List.getElem?_cons_zero]; exact rfl) (by kernel_rfl) (by kernel_rfl) (by kernel_rfl) (by exact fun _ _ _ h => h) (by decide) (by rfl) (by intro wq hSw; go_simp <;> with_reducible rfl) ⟨NT, .inr NL⟩ ?_
   try simp only [Act.put, pA, pB, pC]
   refine takeL (i := 1) (by simp only [List.getElem?_toArray, List.getElem?_cons_succ, List.getElem?_cons_zero]; exact rfl) (by kernel_rfl) (by kernel_rfl) (by kernel_rfl) (by exact fun _ _ _ h => h) (by decide) (by kernel_rfl) (by kernel_rfl) (by rfl) (by intro wq hSw; obtain ⟨_, y4⟩ := hSw; go_simp <;> with_reducible rfl) ⟨NT, .inr NL⟩ ?_
   try simp only [Act.put, pA, pB, pC]
   refine takeT (i := 2) (by simp only [List.getElem?_toArray, List.getElem?_cons_succ, List.getElem?_cons_zero]; exact rfl) (by kernel_rfl) (by kernel_rfl) (by kernel_rfl) (by exact fun _ _ _ h => h) (by decide) (by rfl) (by intro wq hSw; go_simp <;> with_reducible rfl) ⟨NT, .inr NL⟩ ?_
   try simp only [Act.put, pA, pB, pC]
   refine takeT (i := 3) (by simp only [List.getElem?_toArray, List.getElem?_cons_succ, List.getElem?_cons_zero]; exact rfl) (by kernel_rfl) (by kernel_rfl) (by kernel_rfl) (by exact fun _ _ _ h => h) (by decide) (by rfl) (by intro wq hSw; have y6 := bat hSw K6.out; have z0 := bat hSw s0; have z1 := bat hSw s1; have z2 := bat hSw s2; have z3 := bat hSw s3; have z4 := bat hSw s4; have z5 := bat hSw s5; have z6 := bat hSw s6; go_simp <;> with_reducible rfl) ⟨NT, .inr NL⟩ ?_
   try simp only [Act.put, pA, pB, pC]
   refine takeT (i := 4) (by simp only [List.getElem?_toArray, List.getElem?_cons_succ, List.getElem?_cons_zero]; exact rfl) (by kernel_rfl) (by kernel_rfl) (by kernel_rfl) (by exact fun _ _ _ h => h) (by decide) (by rfl) (by intro wq hSw; go_simp <;> with_reducible rfl) ⟨NT, .inr NL⟩ ?_
   try simp only [Act.put, pA, pB, pC]
   refine takeT (i := 5) (by simp only [List.getElem?_toArray, List.getElem?_cons_succ, List.getElem?_cons_zero]; exact rfl) (by kernel_rfl) (by kernel_rfl) (by kernel_rfl) (by exact fun _ _ _ h => h) (by decide) (by rfl) (by intro wq hSw; go_simp <;> with_reducible rfl) ⟨NT, .inr NL⟩ ?_
   try simp only [Act.put, pA, pB, pC]
   refine takeT (i := 6) (by simp only [List.getElem?_toArray, List.getElem?_cons_succ, List.getElem?_cons_zero]; exact rfl) (by kernel_rfl) (by kernel_rfl) (by kernel_rfl) (by exact fun _ _ _ h => h) (by decide) (by rfl) (by intro wq hSw; have y6 := bat hSw K6.out; have z0 := bat hSw s0; have z1 := bat hSw s1; have z2 := bat hSw s2; have z3 := bat hSw s3; have z4 := bat hSw s4; have z5 := bat hSw s5; have z6 := bat hSw s6; go_simp <;> with_reducible rfl) ⟨NT, .inr NL⟩ ?_
   try simp only [Act.put, pA, pB, pC]
   refine wpAnyM_ready (rs := [7]) (by kernel_rfl) (by simp) (AllReadyM.cons (by simp only [List.getElem?_toArray, List.getElem?_cons_succ, List.getElem?_cons_zero]; exact rfl) (fun K hK => ?_) AllReadyM.nil)
   go_simp
   refine (CK ww0 NT).mono ?_
   rintro e w5 ⟨u1, u2, u3, rfl, NK, hb⟩
   obtain ⟨e1, d1, e2, d2, e3, d3, ev1, ev2, ev3, _⟩ := (NdP.toIn _ NK).open
   subst ev1 ev2 ev3
   have NK2 : NdP (fun q => w1.heap.size ≤ q ∧ v6.ownBlock ≠ some q) w5 (ndA ks j) _ _ _ := NdP.mono (fun q hq => ⟨by have := GG.size; omega, fun e => by have := (World.ownsRow.lt LE.row q e).2; omega⟩) _ NK
   replace LE := LE.below hb
   replace VP := VP.below hb
   replace NL := bat hb NL
   replace GG := GG.belowK hb
   replace NT := NT.trans (hb.mono NT.size)
   clear NK CK
   refine hK.out _ _ ⟨NT, .inr NL⟩ ?_
   clear hK K
   try simp only [Act.put, pA, pB, pC]
   refine wpAnyM_ready (rs := [8]) (by kernel_rfl) (by simp) (AllReadyM.cons (by simp only [List.getElem?_toArray, List.getElem?_cons_succ, List.getElem?_cons_zero]; exact rfl) (fun K hK => ?_) AllReadyM.nil)
   go_simp
   have bq := below1 w5 (.cells #[.int .i64 (ndA ks j).b.1, .int .i64 (ndA ks j).b.2.1, .int .i64 (ndA ks j).b.2.2.1, .int .i64 (ndA ks j).b.2.2.2, .slice e1 (ndA ks j).bs.length d1, .slice e2 (ndA ks j).is.length d2, .slice e3 (ndA ks j).ks.length d3] 32)
   have NW := k_new w5 32 ((ndA ks j).b, (e1, (ndA ks j).bs.length, d1), (e2, (ndA ks j).is.length, d2), (e3, (ndA ks j).ks.length, d3))
   dsimp only [slV] at NW
   replace NK2 := NK2.keep bq
   replace LE := LE.below bq
   replace VP := VP.below bq
   replace NL := bat bq NL
   replace GG := GG.belowK bq
   replace NT := NT.trans (bq.mono NT.size)
   refine hK.out _ _ ⟨NT, .inr NL⟩ ?_
   clear hK K
   try simp only [Act.put, pA, pB, pC]
   clear bq
   generalize w5.heap.size = zA at *
   generalize w5.alloc (.cells #[.int .i64 (ndA ks j).b.1, .int .i64 (ndA ks j).b.2.1, .int .i64 (ndA ks j).b.2.2.1, .int .i64 (ndA ks j).b.2.2.2, .slice e1 (ndA ks j).bs.length d1, .slice e2 (ndA ks j).is.length d2, .slice e3 (ndA ks j).ks.length d3] 32) = w6 at *
   refine wpAnyM_ready (rs := [9]) (by kernel_rfl) (by simp) (AllReadyM.cons (by simp only [List.getElem?_toArray, List.getElem?_cons_succ, List.getElem?_cons_zero]; exact rfl) (fun K hK => ?_) AllReadyM.nil)
   refine wp_append_at (.tmp 24) (.tmp 31) 30 rfl w1.heap.size 32 iN (.agg #[.int .i64 0, .int .i64 0, .int .i64 0, .int .i64 0, .slice none 0 0, .slice none 0 0, .slice none 0 0]) 7 104 Tryz.underlying30 hiN hN0 hN1 hN2 rfl (by decide) v6 es.length (kC es) rfl LE.row ⟨zA, 0, none⟩ 1 _ (kC [((ndA ks j).b, (e1, (ndA ks j).bs.length, d1), (e2, (ndA ks j).is.length, d2), (e3, (ndA ks j).ks.length, d3))]) rfl rfl NW (kC_ones _) (by have := HEL.out; unfold maxLen; omega) (by have := HEL.out; omega) GG.size ?_
   intro v7 w7 R7 G7 A7
   have R8 := RowK.snoc R7
   have LF0 := LE.snoc (t := ndA ks j) G7 R8 A7 rfl NK2
   have nz : some zp ≠ v6.ownBlock := fun e => by have := (World.ownsRow.lt LE.row zp e.symm).1; omega
   replace VP := VP.grownK G7 nz
   replace NL := G7.cell NL nz
   replace GG := grown_own GG G7 (fun k e => (World.ownsRow.lt LE.row k e).1)
   replace NT := NT.grown G7 NT.size (fun k e => by have := (World.ownsRow.lt LE.row k e).1; have := hw1.out; omega)
   obtain ⟨a7, c7, ev7, _⟩ := RowK.sees R8
   obtain ⟨n7, hn7⟩ : ∃ n, (es ++ [((ndA ks j).b, ((e1, (ndA ks j).bs.length, d1) : Sl), ((e2, (ndA ks j).is.length, d2) : Sl), ((e3, (ndA ks j).ks.length, d3) : Sl))]).length = n := ⟨_, rfl⟩
   rw [hn7] at ev7
   subst ev7
   obtain ⟨es2, LF⟩ : ∃ es2, LvE w1.heap.size w1.heap.size w7 (.slice a7 n7 c7) es2 (ks.take j ++ [ndA ks j]) := ⟨_, LF0⟩
   clear hn7 R7 R8 NW NK2 nz A7 LE G7 LF0
   refine hK.out _ _ ⟨NT, .inr NL⟩ ?_
   clear hK K
   try simp only [Act.put, pA, pB, pC]
   refine takeT (i := 10) (by simp only [List.getElem?_toArray, List.getElem?_cons_succ, List.getElem?_cons_zero]; exact rfl) (by kernel_rfl) (by kernel_rfl) (by kernel_rfl) (by exact fun _ _ _ h => h) (by decide) (by rfl) (by intro wq hSw; go_simp <;> with_reducible rfl) ⟨NT, .inr NL⟩ ?_
   try simp only [Act.put, pA, pB, pC]
   refine wpAnyM_ready (rs := [11]) (by kernel_rfl) (by simp) (AllReadyM.cons (by simp only [List.getElem?_toArray, List.getElem?_cons_succ, List.getElem?_cons_zero]; exact rfl) (fun K hK => ?_) AllReadyM.nil)
   have y6 := VP.c6
   have yf := VP.fr
   go_simp
   clear y6 yf
   have L9 : Hid (LvE w1.heap.size w1.heap.size (w7.setCell ⟨zp, 6, none⟩ (.slice a7 n7 c7)) (.slice a7 n7 c7) es2 (ks.take j ++ [ndA ks j])) := LF.put (by omega) 6 _
   have V9 : Hid (Bx7 (w7.setCell ⟨zp, 6, none⟩ (.slice a7 n7 c7)) zp (.int .i64 x1) (.int .i64 x2) (.int .i64 x3) (.int .i64 x4) (.slice a5 bs.length c5) (.slice a9 is.length c9) (.slice a7 n7 c7)) := VP.set6 _
   have G9 : Hid (w1.grownBy (w7.setCell ⟨zp, 6, none⟩ (.slice a7 n7 c7)) (some zp)) := grownBy_setCell GG rfl _
   replace NT : Below W0.heap.size W0 (w7.setCell ⟨zp, 6, none⟩ (.slice a7 n7 c7)) := NT.setCell (p := ⟨zp, 6, none⟩) (by show W0.heap.size ≤ zp; omega) _
   refine hK.out _ _ ⟨NT, .inl (by kernel_rfl)⟩ ?_
   clear hK K
   try simp only [Act.put, pA, pB, pC]
   clear LF VP GG NL
   refine wpAnyM_done (by kernel_rfl) ?_ _
   have L8 : Hid (LvE w1.heap.size w1.heap.size (w7.setCell ⟨zp, 6, none⟩ (.slice a7 n7 c7)) (.slice a7 n7 c7) es2 (ks.take (j + 1))) := by show LvE _ _ _ _ _ _; rw [HKT.out]; exact L9.out
   clear NT L9 HKT HEL
   go_wp2
   go_roundw
   case rel => exact ⟨j + 1, _, _, by omega, by go_num, L8, V9, G9⟩
   case measure => simp [intOf]; omega
  ·obtain rfl : j = ks.length := by omega
   have LF := LH.out
   rw [List.take_length] at LF
   have G1 := GH.out
   have RXw : RowBx W0.heap.size wr (.slice a5 bs.length c5) bs := rowX_apN RX TP G1
   have RIw : RowI W0.heap.size wr (.slice a9 is.length c9) is := rowI_apN RI TP G1
   have V2w : Bx7 wr (w.heap.size + 1) (.int .i64 0) (.int .i64 0) (.int .i64 0) (.int .i64 0) (.slice none 0 0) (.slice none 0 0) (.slice none 0 0) := HV2.out.below BW
   obtain ⟨a7, c7, ev7, hf7, hm7, hc7⟩ := RowK.sees LF.row
   rw [LF.len] at ev7 hf7
   subst ev7
   have NF : NdP (fun q => W0.heap.size ≤ q) wr (.mk (x1, x2, x3, x4) bs is ks) (.slice a5 bs.length c5) (.slice a9 is.length c9) (.slice a7 ks.length c7) := by
    obtain ⟨b5, d5, e5, s5, f5⟩ := rowX_seesK RXw
    obtain ⟨b9, d9, e9, s9, f9⟩ := rowI_seesK RIw
    injection e5 with e51 _ e53
    injection e9 with e91 _ e93
    subst e51 e53 e91 e93
    obtain ⟨g, hg⟩ : ∃ g, ks ≠ [] → a7 = some ⟨g, 0, none⟩ ∧ w1.heap.size ≤ g ∧ ∀ i, i < es.length → Sev wr g (i * 7) (keAt es i).1 (slV (keAt es i).2.1) (slV (keAt es i).2.2.1) (slV (keAt es i).2.2.2) := by
     by_cases e : es = []
     ·exact ⟨0, fun hn => absurd (List.eq_nil_of_length_eq_zero (by rw [← LF.len, e]; rfl)) hn⟩
     ·obtain ⟨g, h⟩ := hc7 e
      exact ⟨g, fun _ => h⟩
    refine .mk (p := g) (o := 0) (g1 := fun i => slV (keAt es i).2.1) (g2 := fun i => slV (keAt es i).2.2.1) (g3 := fun i => slV (keAt es i).2.2.2) s5 (fun q o e _ => (f5 q o e).1) s9 (fun q o e _ => (f9 q o e).1) hf7 hm7 (fun q o e n => ?_) (fun hn => (hg hn).1) (fun i hi => ?_) (fun i hi => NdP.mono (fun q hq => by have := hq.1; have := hw1.out.1; omega) _ (LF.nd i hi).2)
    ·obtain ⟨e1, e2, _⟩ := hg (List.length_pos_iff.1 n)
     rw [e] at e1
     injection e1 with e1
     injection e1 with e1 _
     have := hw1.out.1
     omega
    ·obtain ⟨_, _, h3⟩ := hg (by intro e; rw [e] at hi; simp at hi)
     have := h3 i (by rw [LF.len]; exact hi)
     rw [Nat.zero_add, ← (LF.nd i hi).1]
     exact this
   have VHw := VH.out
   obtain ⟨t0, t1, t2, t3, t4, t5, t6, tf⟩ := id VHw
   obtain ⟨r0, r1, r2, r3, r4, r5, r6, rf⟩ := id V2w
   have R3 := ((((((V2w.set0 (.int .i64 x1)).set1 (.int .i64 x2)).set2 (.int .i64 x3)).set3 (.int .i64 x4)).set4 (.slice a5 bs.length c5)).set5 (.slice a9 is.length c9)).set6 (.slice a7 ks.length c7)
   have C3 : ChC (fun q => q = w.heap.size + 1) wr _ := fun b' k' z nb e => (cell_other (o := 6) (.inl (fun e2 => nb e2.symm)) (.slice a7 ks.length c7)).trans ((cell_other (o := 5) (.inl (fun e2 => nb e2.symm)) (.slice a9 is.length c9)).trans ((cell_other (o := 4) (.inl (fun e2 => nb e2.symm)) (.slice a5 bs.length c5)).trans ((cell_other (o := 3) (.inl (fun e2 => nb e2.symm)) (.int .i64 x4)).trans ((cell_other (o := 2) (.inl (fun e2 => nb e2.symm)) (.int .i64 x3)).trans ((cell_other (o := 1) (.inl (fun e2 => nb e2.symm)) (.int .i64 x2)).trans ((cell_other (o := 0) (.inl (fun e2 => nb e2.symm)) (.int .i64 x1)).trans e))))))
   have N3 : Hid _ := NdP.mono (P' := fun q => w.heap.size ≤ q) (fun q hq => by omega) _ (NdP.chg C3 (fun q hq e => by omega) _ NF)
   have BF := HB0.out.trans (BW.mono HB0.out.size)
   have B3 := ((((((BF.setCell (p := ⟨w.heap.size + 1, 0, none⟩) (Nat.le_succ _) (.int .i64 x1)).setCell (p := ⟨w.heap.size + 1, 1, none⟩) (Nat.le_succ _) (.int .i64 x2)).setCell (p := ⟨w.heap.size + 1, 2, none⟩) (Nat.le_succ _) (.int .i64 x3)).setCell (p := ⟨w.heap.size + 1, 3, none⟩) (Nat.le_succ _) (.int .i64 x4)).setCell (p := ⟨w.heap.size + 1, 4, none⟩) (Nat.le_succ _) (.slice a5 bs.length c5)).setCell (p := ⟨w.heap.size + 1, 5, none⟩) (Nat.le_succ _) (.slice a9 is.length c9)).setCell (p := ⟨w.heap.size + 1, 6, none⟩) (Nat.le_succ _) (.slice a7 ks.length c7)
   have HB3 : Hid _ := B3
   obtain ⟨q0, q1, q2, q3, q4, q5, q6, _⟩ := R3
   clear C3 NF BF B3 V2w VHw LF G1 RXw RIw LH VH GH RX RI TP hc7 HV2 BW
   go_wp2
   exact bodyPost_ret (v := .agg #[.int .i64 x1, .int .i64 x2, .int .i64 x3, .int .i64 x4, .slice a5 bs.length c5, .slice a9 is.length c9, .slice a7 ks.length c7]) (by simp [results, Tryz.results58, go_sem, q0, q1, q2, q3, q4, q5, q6]) rfl ⟨_, _, _, rfl, N3.out, HB3.out⟩
theorem l15Copy_any : ∀ t, CopC t := Nd.ind l15Copy_step
end Go.Proofs.YtinlomcaagdbiaaGreat
