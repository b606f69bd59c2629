/- The index of a map: of the program (shapesOf, indexOf, IndexOf). -/
import Derived.Test.YtinlomcaagdbiaaGreatIxM
import Derived.Test.YtinlomcaagdbiaaGreatTrZ
import Derived.Test.YtinlomcaagdbiaaGreatParM
import Derived.Test.YtinlomcaagdbiaaGreatFormI
import Derived.Maps.Own
namespace Go.Proofs.YtinlomcaagdbiaaGreat
open Go.RowKit

theorem Box3.grownIx {lo q : Nat} {w w' : World} {x0 x1 x2 : Value} {row : Option Nat} (h : Box3 lo w q x0 x1 x2) (g : w.grownBy w' row) (ne : some q ≠ row) : Box3 lo w' q x0 x1 x2 := by
 have e := g.block q h.lt ne
 exact ⟨(World.cell?_of_block (a := ⟨q, 0, none⟩) e).trans h.c0, (World.cell?_of_block (a := ⟨q, 1, none⟩) e).trans h.c1, (World.cell?_of_block (a := ⟨q, 2, none⟩) e).trans h.c2, fun o => (World.frozen?_of_block (a := ⟨q, o, none⟩) e).trans (h.fr o), h.lo⟩
theorem Box2.grownIx2 {lo q : Nat} {w w' : World} {x0 x1 : Value} {row : Option Nat} (h : Box2 lo w q x0 x1) (g : w.grownBy w' row) (ne : some q ≠ row) : Box2 lo w' q x0 x1 := by
 have e := g.block q h.lt ne
 exact ⟨(World.cell?_of_block (a := ⟨q, 0, none⟩) e).trans h.c0, (World.cell?_of_block (a := ⟨q, 1, none⟩) e).trans h.c1, fun o => (World.frozen?_of_block (a := ⟨q, o, none⟩) e).trans (h.fr o), h.lo⟩
theorem rowX_apIx {base base' : Nat} {w w' : World} {v v' : Value} {bs : List Bx} {ds : List Int} (h : RowBx base w v bs) (h' : RowI base' w v' ds) (g : w.grownBy w' v'.ownBlock) : RowBx base w' v bs := ownsApK (show World.ownsRow _ _ _ _ _ _ _ from h) h' (by decide) g
theorem rowI_apXx {base base' : Nat} {w w' : World} {v v' : Value} {bs : List Bx} {ds : List Int} (h : RowI base w v ds) (h' : RowBx base' w v' bs) (g : w.grownBy w' v'.ownBlock) : RowI base w' v ds := ownsApK (show World.ownsRow _ _ _ _ _ _ _ from h) h' (by decide) g
theorem plainFr {w : World} {p : Nat} (h : Plain w p) (o : Nat) : w.frozen? ⟨p, o, none⟩ = false := by
 obtain ⟨cs, T, e⟩ := h
 unfold World.frozen?
 rw [e]
 simp
def Tv : Value → Prop
 | .int _ _ => True
 | .slice _ _ _ => True
 | .pointer (some _) => True
 | _ => False
structure Kt (w w' : World) : Prop where
 c : ∀ b k v, w.cell? ⟨b, k, none⟩ = some v → Tv v → w'.cell? ⟨b, k, none⟩ = some v
 p : ∀ b, Plain w b → Plain w' b
theorem Kt.two {lo q : Nat} {w : World} (h : Box2 lo w q (.pointer none) (.map none)) (u0 u1 : Value) : Kt w ((w.setCell ⟨q, 0, none⟩ u0).setCell ⟨q, 1, none⟩ u1) := by
 refine ⟨fun b k v e nv => ?_, fun b hb => (hb.put u0).put u1⟩
 by_cases hb : q = b
 ·subst hb
  rcases k with _ | _ | k
  ·rw [h.c0] at e; injection e with e; subst e; exact absurd nv (by simp [Tv])
  ·rw [h.c1] at e; injection e with e; subst e; exact absurd nv (by simp [Tv])
  ·exact (cell_other (.inr (by omega)) u1).trans ((cell_other (.inr (by omega)) u0).trans e)
 ·exact (cell_other (.inl hb) u1).trans ((cell_other (.inl hb) u0).trans e)
theorem Wk6.kt {w w' : World} {p : Nat} {x : Bx} {v1 v2 : Value} (h : Wk6 w p x v1 v2) (k : Kt w w') (t1 : Tv v1) (t2 : Tv v2) : Wk6 w' p x v1 v2 := by
 obtain ⟨g1, g2, g3, g4⟩ := h.four
 exact ⟨⟨k.c _ _ _ g1 trivial, k.c _ _ _ g2 trivial, k.c _ _ _ g3 trivial, k.c _ _ _ g4 trivial⟩, k.c _ _ _ h.c4 t1, k.c _ _ _ h.c5 t2, plainFr (k.p _ h.pl), k.p _ h.pl⟩
theorem SeesIt.kt {w w' : World} {a : Option Addr} {c : Nat} {bs : List Bx} {is : List Int} (h : SeesIt w a c bs is) (k : Kt w w') : SeesIt w' a c bs is :=
 ⟨h.len, h.fits, h.max, fun hn => by
  obtain ⟨b, off, ha, hc⟩ := h.cells hn
  exact ⟨b, off, ha, fun i hi => by
   obtain ⟨⟨g1, g2, g3, g4⟩, g5⟩ := hc i hi
   exact ⟨⟨k.c _ _ _ g1 trivial, k.c _ _ _ g2 trivial, k.c _ _ _ g3 trivial, k.c _ _ _ g4 trivial⟩, k.c _ _ _ g5 trivial⟩⟩⟩
theorem SeesTp.kt {w w' : World} {a : Option Addr} {c : Nat} {qs : List Ptr} (h : SeesTp w a c qs) (k : Kt w w') : SeesTp w' a c qs :=
 ⟨h.fits, h.max, fun hn => by
  obtain ⟨b, off, ha, hc⟩ := h.cells hn
  exact ⟨b, off, ha, fun i hi => k.c _ _ _ (hc i hi) trivial⟩⟩
theorem WkAt.kt {w w' : World} (k : Kt w w') : ∀ (t : Nd) {p : Nat}, WkAt w p t → WkAt w' p t := by
 refine Nd.ind (P := fun t => ∀ {p : Nat}, WkAt w p t → WkAt w' p t) ?_
 intro b bs is ks ih p h
 cases h with
 | mk K I Q hl hz h0 hlt hN => exact .mk (K.kt k trivial trivial) (I.kt k) (Q.kt k) hl hz h0 hlt (fun i hi => ih _ (ndA_mem hi) (hN i hi))
def rdNo : Value → Option (DataW Unit × List MemPlace) := fun _ => some (.held (), [])
theorem id_key {n : Int} (h : inB n 1 1000000 = true) : keyOf Tryz.prog 3 (.int .i64 n) = some (.int .i64 n) := by
 obtain ⟨h1, h2⟩ := inB_true.1 h
 refine Maps.keyOf_int_mk Tryz.underlying3 ?_
 show (decide (IntKind.i64.min ≤ n) && decide (n ≤ IntKind.i64.max)) = true
 have e1 : IntKind.i64.min = -9223372036854775808 := by decide
 have e2 : IntKind.i64.max = 9223372036854775807 := by decide
 rw [e1, e2]
 simp
 omega
theorem mp_id {es : List En} (h : mpB es = true) {j : Nat} (hj : j < es.length) : inB (enA es j).1 1 1000000 = true := by
 cases g : inB (enA es j).1 1 1000000
 ·unfold mpB at h
  rw [mpTo_no hj (by unfold atE; rw [g]; rfl), Bool.and_false] at h
  cases h
 ·rfl

set_option maxRecDepth 20000 in
set_option maxHeartbeats 2000000 in
theorem shapesOf_any (a : Option Addr) (c : Nat) (es : List En) (w : World) (h : SeesEn w a c es) (hp : mpB es = true) :
  Calls Tryz.prog 47 #[.slice a es.length c] w fun e w' => ∃ b, e = .returned (.map (some b)) ∧ Below w.heap.size w w' := by
 have hm := h.max
 have hf := h.fits
 unfold maxLen at hm
 have h5 := mp_few hp
 have HP : Hid (mpB es = true) := hp
 have H : Hid (SeesEn w a c es) := h
 have hb := below1 w (.map #[] 0)
 have OM := World.ownsMap_made w Tryz.prog 3 rdNo
 clear h hp
 have hmm := @run_makeMap Tryz.prog
 go_enter Tryz.func47, Tryz.ntmps47
 go_wp2
 go_loopw [9] (fun s9 wr => ∃ (j : Nat) (D : DataW Unit), j ≤ es.length ∧ s9 = .int .i64 j ∧ Hid (wr.ownsMap Tryz.prog 3 rdNo w.heap.size j D) ∧ Hid (Below w.heap.size w wr)) (fun s9 _ => es.length - (intOf s9).toNat)
 case atStart => exact ⟨0, _, Nat.zero_le _, rfl, OM, hb⟩
 case round =>
  clear OM hb
  obtain ⟨j, D, hj, rfl, OM, B⟩ := hrel
  rename World => wr
  by_cases hlt : j < es.length
  ·obtain ⟨b0, off, rfl, hc⟩ := H.out.cells (by intro e; simp [e] at hlt)
   obtain ⟨g0, g1, a', c', g2, _⟩ := hc j hlt
   have hid := id_key (mp_id HP.out hlt)
   clear hc
   generalize enA es j = en at *
   obtain ⟨ix, n, ts⟩ := en
   dsimp only at g0 g1 g2 hid
   replace g0 := (B.out.cell (World.block_lt_of_cell? _ _ g0)).trans g0
   replace g1 := (B.out.cell (World.block_lt_of_cell? _ _ g1)).trans g1
   replace g2 := (B.out.cell (World.block_lt_of_cell? _ _ g2)).trans g2
   have hlt' : (j : Int) < (es.length : Int) := by omega
   have OM2 := OM.out.alloc (.cells #[.int .i64 ix, .int .i64 n, .slice a' ts.length c'] 52)
   have B2 : Hid (Below w.heap.size w (wr.alloc (.cells #[.int .i64 ix, .int .i64 n, .slice a' ts.length c'] 52))) := B.out.trans ((below1 wr _).mono B.out.size)
   clear OM B
   go_wp2_with (at_mapUpdate; refine wpList_mapUpdate_own _ rfl _ _ _ 60 rfl 3 50 (Maps.int_keyed Tryz.underlying3) Tryz.underlying60 rdNo w.heap.size j D rfl OM2 (by unfold maxLen; omega) _ _ (.int .i64 ix) rfl rfl hid (.held ()) [] rfl ?_; intro w5 OM5 G5)
   have B5 : Hid (Below w.heap.size w w5) := B2.out.grown G5 B2.out.size (fun q hq => by injection hq with hq; omega)
   have OM6 : Hid _ := OM5
   clear OM2 B2 OM5 G5 g0 g1 g2
   go_wp2
   go_roundw
   case rel => exact ⟨j + 1, _, by omega, by go_num, OM6, B5⟩
   case measure => simp [intOf]; omega
  ·obtain rfl : j = es.length := by omega
   have hlt' : ¬ (es.length : Int) < (es.length : Int) := by omega
   clear OM
   go_wp2
   go_ret
   exact ⟨⟨w.heap.size, rfl⟩, B.out⟩

set_option maxRecDepth 20000 in
set_option maxHeartbeats 4000000 in
theorem indexOf_any (a : Option Addr) (c : Nat) (es : List En) (w : World) (h : SeesEn w a c es) (hp : mpB es = true) :
  Calls Tryz.prog 20 #[.slice a es.length c] w fun e w' => ∃ p b, e = .returned (.agg #[.pointer (some ⟨p, 0, none⟩), .map (some b)]) ∧ WkAt w' p (tbT (ixI es) (ixX es)) ∧ ndSz (tbT (ixI es) (ixX es)) ≤ 1048576 ∧ Below w.heap.size w w' := by
 have hm := h.max
 have hf := h.fits
 unfold maxLen at hm
 have h5 := mp_few hp
 have HP : Hid (mpB es = true) := hp
 have H : Hid (SeesEn w a c es) := h
 obtain ⟨iI, hiI, hI0, hI1, hI2⟩ := info_parts infoI
 obtain ⟨iX, hiX, hX0, hX1, hX2⟩ := info_parts infoX
 have hb := below1 w (.cells #[.pointer none, .map none] 62)
 have V0 := Box2.new w (Nat.le_refl _) (.pointer none) (.map none) 62
 have r0 : Hid (RowI (w.heap.size + 1) (w.alloc (.cells #[.pointer none, .map none] 62)) (.slice none 0 0) (ixI (es.take 0))) := ⟨rfl, .inl ⟨rfl, rfl⟩⟩
 have r1 : Hid (RowBx (w.heap.size + 1) (w.alloc (.cells #[.pointer none, .map none] 62)) (.slice none 0 0) (ixX (es.take 0))) := ⟨rfl, .inl ⟨rfl, rfl⟩⟩
 clear h hp
 go_enter Tryz.func20, Tryz.ntmps20
 go_wp2
 generalize w.alloc (.cells #[.pointer none, .map none] 62) = W0 at *
 go_loopw [3, 4, 9] (fun s3 s4 s9 wr => ∃ (j : Nat), j ≤ es.length ∧ s9 = .int .i64 j ∧ Hid (RowI (w.heap.size + 1) wr s3 (ixI (es.take j))) ∧ Hid (RowBx (w.heap.size + 1) wr s4 (ixX (es.take j))) ∧ Hid (Box2 w.heap.size wr w.heap.size (.pointer none) (.map none)) ∧ Hid (Below w.heap.size w wr)) (fun _ _ s9 _ => es.length - (intOf s9).toNat)
 case atStart => exact ⟨0, Nat.zero_le _, rfl, r0, r1, V0, hb⟩
 case round =>
  clear r0 r1 V0 hb
  obtain ⟨j, hj, rfl, RR1, RR2, VV, BB⟩ := hrel
  rename World => wr
  by_cases hlt : j < es.length
  ·obtain ⟨b0, off, rfl, hc⟩ := H.out.cells (by intro e; simp [e] at hlt)
   obtain ⟨g0, g1, a', c', g2, sp⟩ := hc j hlt
   have HG := mp_good HP.out hlt
   have HT := ix_take hlt
   clear hc
   generalize enA es j = en at *
   obtain ⟨ix, n, ts⟩ := en
   dsimp only at g0 g1 g2 sp HG HT
   replace g0 := (BB.out.cell (World.block_lt_of_cell? _ _ g0)).trans g0
   replace g1 := (BB.out.cell (World.block_lt_of_cell? _ _ g1)).trans g1
   replace g2 := (BB.out.cell (World.block_lt_of_cell? _ _ g2)).trans g2
   have SP0 : Hid (SeesS w a' c' ts) := sp
   replace HG : Hid (goodB n ts = true) := HG
   obtain ⟨A1, e1⟩ : ∃ x, bA ts.flatten = x := ⟨_, rfl⟩
   obtain ⟨A2, e2⟩ : ∃ x, bB ts.flatten = x := ⟨_, rfl⟩
   obtain ⟨A3, e3⟩ : ∃ x, bC ts.flatten = x := ⟨_, rfl⟩
   obtain ⟨A4, e4⟩ : ∃ x, bD ts.flatten = x := ⟨_, rfl⟩
   have HA : Hid (bA ts.flatten = A1 ∧ bB ts.flatten = A2 ∧ bC ts.flatten = A3 ∧ bD ts.flatten = A4) := ⟨e1, e2, e3, e4⟩
   rw [show ixB ts = (A1, A2, A3, A4) by unfold ixB; rw [e1, e2, e3, e4]] at HT
   replace HT : Hid (_ ∧ _) := HT
   clear sp e1 e2 e3 e4
   obtain ⟨is, hI⟩ : ∃ x, Hid (ixI (es.take j) = x) := ⟨_, rfl⟩
   obtain ⟨bs, hX⟩ : ∃ x, Hid (ixX (es.take j) = x) := ⟨_, rfl⟩
   have li : is.length ≤ 500 := by rw [← hI.out, ixI_len, List.length_take]; omega
   have lx : bs.length ≤ 500 := by rw [← hX.out, ixX_len, List.length_take]; omega
   rw [hI.out] at RR1
   rw [hX.out] at RR2
   rw [hI.out, hX.out] at HT
   have hlt' : (j : Int) < (es.length : Int) := by omega
   have R10 : Hid (∀ k, u3.ownBlock = some k → k < wr.heap.size) := fun k hk => (World.ownsRow.lt RR1.out k hk).2
   have R20 : Hid (∀ k, u4.ownBlock = some k → k < wr.heap.size) := fun k hk => (World.ownsRow.lt RR2.out k hk).2
   have hb := below1 wr (.cells #[.int .i64 ix, .int .i64 n, .slice a' ts.length c'] 52)
   have VE := Box3.new wr (Nat.le_refl _) (.int .i64 ix) (.int .i64 n) (.slice a' ts.length c') 52
   have V := VV.out.below hb
   have R1 : RowI (w.heap.size + 1) _ _ _ := owns_below RR1.out hb
   have R2 : RowBx (w.heap.size + 1) _ _ _ := owns_below RR2.out hb
   have B := BB.out.trans (hb.mono BB.out.size)
   clear hb VV RR1 RR2 BB
   go_upto_region 6 with fail
   clear g0 g1 g2
   generalize wr.alloc (.cells #[.int .i64 ix, .int .i64 n, .slice a' ts.length c'] 52) = W5 at *
   refine wp_region_held_drew (S := fun W' => Box3 wr.heap.size W' wr.heap.size (.int .i64 ix) (.int .i64 n) (.slice a' ts.length c')) (by kernel_rfl) (VE.below (Below.refl _ _).drew) (fun hHeld => ?_)
   have hb : Below W5.heap.size W5 W5.drew := (Below.refl _ _).drew
   replace VE := VE.below hb
   replace V := V.below hb
   replace R1 : RowI (w.heap.size + 1) _ _ _ := owns_below R1 hb
   replace R2 : RowBx (w.heap.size + 1) _ _ _ := owns_below R2 hb
   replace B := B.trans (hb.mono B.size)
   clear hb
   revert hHeld VE V R1 R2 B
   generalize W5.drew = ww0
   intro hHeld VE V R1 R2 B
   refine takeA (i := 0) (h := ?_)
   refine takeA (i := 1) (h := ?_)
   refine takeA (i := 2) (hy := by intro wq hSw; obtain ⟨q0, q1, q2, _, _⟩ := hSw; go_simp <;> with_reducible rfl) (h := ?_)
   refine takeA (i := 5) (h := ?_)
   refine takeA (i := 6) (h := ?_)
   refine takeA (i := 7) (hy := by intro wq hSw; obtain ⟨q0, q1, q2, _, _⟩ := hSw; go_simp <;> with_reducible rfl) (h := ?_)
   refine rdA (i := 3) (h := fun K hK => ?_)
   go_simp
   have hb := below1 ww0 (.cells #[.int .i64 ix] 3)
   have NW := one_newI ww0 3 ix
   have nz : w.heap.size + 1 ≤ (ww0.alloc (.cells #[.int .i64 ix] 3)).heap.size := Nat.le_trans V.lt hb.size
   replace VE := VE.below hb
   replace V := V.below hb
   replace R1 : RowI (w.heap.size + 1) _ _ _ := owns_below R1 hb
   replace R2 : RowBx (w.heap.size + 1) _ _ _ := owns_below R2 hb
   replace B := B.trans (hb.mono B.size)
   clear hb
   refine hK.out _ _ VE (fun hHeld => ?_)
   clear hK K
   try simp only [Act.put, sA, sB, sC]
   refine rdA (i := 4) (h := fun K hK => ?_)
   refine wp_append_own _ (.tmp 13) (.tmp 16) 29 rfl (w.heap.size + 1) 3 iI (.int .i64 0) 1 8 Tryz.underlying29 hiI hI0 hI1 hI2 rfl (by decide) u3 is.length (is.map (Value.int .i64)) rfl R1 ⟨ww0.heap.size, 0, none⟩ 1 _ ([ix].map (Value.int .i64)) rfl rfl NW (onesI _) (by unfold maxLen; omega) (by omega) nz ?_
   intro v7 w7 R8 G7 _
   have r1lt := World.ownsRow.lt R1
   have R2' := rowX_apIx R2 R1 G7
   have B' := B.grown G7 (by omega) (fun q hq => by have := (r1lt q hq).1; omega)
   have VE' := VE.grownIx G7 (fun e => by have := R10.out _ e.symm; omega)
   have V' := V.grownIx2 G7 (fun e => by have := (r1lt _ e.symm).1; omega)
   have R9 : RowI (w.heap.size + 1) w7 v7 (is ++ [ix]) := RowI.snoc (n := 0) R8 rfl
   clear VE V R1 R2 B R8 G7 NW nz r1lt
   have VE := VE'
   have V := V'
   have R1 := R9
   have R2 := R2'
   have B := B'
   clear VE' V' R9 R2' B'
   refine hK.out _ _ VE (fun hHeld => ?_)
   clear hK K
   try simp only [Act.put, sA, sB, sC]
   refine rdA (i := 8) (h := fun K hK => ?_)
   go_simp
   refine (boxAround_any n a' c' ts _ (SP0.out.below B) HG.out).mono ?_
   rintro e w8 ⟨rfl, hb⟩
   rw [HA.out.1, HA.out.2.1, HA.out.2.2.1, HA.out.2.2.2]
   replace VE := VE.below hb
   replace V := V.below hb
   replace R1 : RowI (w.heap.size + 1) _ _ _ := owns_below R1 hb
   replace R2 : RowBx (w.heap.size + 1) _ _ _ := owns_below R2 hb
   replace B := B.trans (hb.mono B.size)
   clear hb
   refine hK.out _ _ VE (fun hHeld => ?_)
   clear hK K
   try simp only [Act.put, sA, sB, sC]
   refine rdA (i := 9) (h := fun K hK => ?_)
   go_simp
   have hb := below1 w8 (.cells #[.int .i64 A1, .int .i64 A2, .int .i64 A3, .int .i64 A4] 27)
   have NW := box_new w8 27 A1 A2 A3 A4
   have nz : w.heap.size + 1 ≤ (w8.alloc (.cells #[.int .i64 A1, .int .i64 A2, .int .i64 A3, .int .i64 A4] 27)).heap.size := Nat.le_trans V.lt hb.size
   replace VE := VE.below hb
   replace V := V.below hb
   replace R1 : RowI (w.heap.size + 1) _ _ _ := owns_below R1 hb
   replace R2 : RowBx (w.heap.size + 1) _ _ _ := owns_below R2 hb
   replace B := B.trans (hb.mono B.size)
   clear hb
   refine hK.out _ _ VE (fun hHeld => ?_)
   clear hK K
   try simp only [Act.put, sA, sB, sC]
   refine rdA (i := 10) (h := fun K hK => ?_)
   refine wp_append_own _ (.tmp 18) (.tmp 22) 28 rfl (w.heap.size + 1) 27 iX (.agg #[.int .i64 0, .int .i64 0, .int .i64 0, .int .i64 0]) 4 32 Tryz.underlying28 hiX hX0 hX1 hX2 rfl (by decide) u4 bs.length (boxC bs) rfl R2 ⟨w8.heap.size, 0, none⟩ 1 _ (boxC [(A1, A2, A3, A4)]) rfl rfl NW (boxC_ones _) (by unfold maxLen; omega) (by omega) nz ?_
   intro v9 w9 R8 G7 _
   have r2lt := World.ownsRow.lt R2
   have R1' := rowI_apXx R1 R2 G7
   have B' := B.grown G7 (by omega) (fun q hq => by have := (r2lt q hq).1; omega)
   have VE' := VE.grownIx G7 (fun e => by have := R20.out _ e.symm; omega)
   have V' := V.grownIx2 G7 (fun e => by have := (r2lt _ e.symm).1; omega)
   have R9 : RowBx (w.heap.size + 1) w9 v9 (bs ++ [(A1, A2, A3, A4)]) := RowBx.snoc R8
   clear VE V R1 R2 B R8 G7 NW nz r2lt
   have VE := VE'
   have V := V'
   clear VE' V'
   refine hK.out _ _ VE (fun hHeld => ?_)
   clear hK K
   try simp only [Act.put, sA, sB, sC]
   refine takeA (i := 11) (h := ?_)
   refine takeA (i := 12) (h := ?_)
   refine wpAnyH_done (by kernel_rfl) ?_ _
   have HV2 : Hid (Box2 w.heap.size w9 w.heap.size (.pointer none) (.map none)) := V
   have HB2 : Hid (Below w.heap.size w w9) := B'
   have HR1 : Hid (RowI (w.heap.size + 1) w9 v7 (ixI (es.take (j + 1)))) := by show RowI _ _ _ _; rw [HT.out.1]; exact R1'
   have HR2 : Hid (RowBx (w.heap.size + 1) w9 v9 (ixX (es.take (j + 1)))) := by show RowBx _ _ _ _; rw [HT.out.2]; exact R9
   clear VE V B' R1' R9 hHeld
   go_wp2
   go_roundw
   case rel => exact ⟨j + 1, by omega, by go_num, HR1, HR2, HV2, HB2⟩
   case measure => simp [intOf]; omega
  ·obtain rfl : j = es.length := by omega
   have hlt' : ¬ (es.length : Int) < (es.length : Int) := by omega
   have RI := RR1.out
   have RX := RR2.out
   rw [List.take_length] at RI RX
   obtain ⟨a1, c1, rfl, SI, _⟩ := rowI_seesK RI
   obtain ⟨a2, c2, rfl, SX⟩ := RowBx.sees RX
   have C1 := builtOf_any a1 a2 c1 c2 (ixI es) (ixX es) wr SI SX (by rw [ixX_len]; omega) (by rw [ixI_len, ixX_len]) (ix_ok HP.out)
   rw [ixI_len, ixX_len] at C1
   rw [ixI_len, ixX_len]
   clear RR1 RR2 RI RX SI SX
   go_wp2_with fail
   refine C1.mono ?_
   rintro e w3 ⟨p, rfl, K3, ho, hb⟩
   have hsz : Hid (ndSz (tbT (ixI es) (ixX es)) ≤ 1048576) := sz_tbT (is := ixI es) (by rw [ixX_len]; omega) ho
   have V := VV.out.below hb
   have B := BB.out.trans (hb.mono BB.out.size)
   clear hb C1 ho VV BB
   go_wp2_with fail
   refine (shapesOf_any a c es _ (H.out.below B) HP.out).mono ?_
   rintro e w4 ⟨b, rfl, hb⟩
   replace V := V.below hb
   replace B := B.trans (hb.mono B.size)
   replace K3 := WkAt.keep hb _ K3
   clear hb
   have B4 : Hid _ := Box2.chain B V (.pointer (some ⟨p, 0, none⟩)) (.map (some b))
   obtain ⟨s0, s1, _, _⟩ := V.put (.pointer (some ⟨p, 0, none⟩)) (.map (some b))
   obtain ⟨r0, r1, rf, _⟩ := id V
   have K4 : Hid _ := WkAt.kt (Kt.two V (.pointer (some ⟨p, 0, none⟩)) (.map (some b))) _ K3
   clear V B K3
   go_wp2
   exact bodyPost_ret (v := .agg #[.pointer (some ⟨p, 0, none⟩), .map (some b)]) (by simp [results, Tryz.results20, go_sem, s0, s1]) rfl ⟨p, b, rfl, K4.out, hsz.out, B4.out⟩

set_option maxRecDepth 100000 in
set_option maxHeartbeats 2000000 in
theorem implIndexOf (a : Option Addr) (c : Nat) (es : List En) (w : World) (h : SeesEn w a c es) :
  Calls Tryz.prog 7 #[.slice a es.length c] w fun e w' => ∃ u1 u2 u3 F, e = .returned (ndV (ixV es) u1 u2 u3) ∧ NdFp w' F (ixV es) u1 u2 u3 ∧ (∀ q, F q → w.heap.size ≤ q) ∧ ndSz (ixV es) ≤ 1048576 ∧ Below w.heap.size w w' := by
 have hb1 := below1 w (.cells #[.int .i64 0, .int .i64 0, .int .i64 0, .int .i64 0, .slice none 0 0, .slice none 0 0, .slice none 0 0] 32)
 have V := Bx7.new w (.int .i64 0) (.int .i64 0) (.int .i64 0) (.int .i64 0) (.slice none 0 0) (.slice none 0 0) (.slice none 0 0) 32
 have H : Hid (SeesEn (w.alloc (.cells #[.int .i64 0, .int .i64 0, .int .i64 0, .int .i64 0, .slice none 0 0, .slice none 0 0, .slice none 0 0] 32)) a c es) := h.below hb1
 have HN : Hid (mpB es = false → ∀ W, NdFp W (fun _ => False) (ixV es) (.slice none 0 0) (.slice none 0 0) (.slice none 0 0) ∧ ndV (ixV es) (.slice none 0 0) (.slice none 0 0) (.slice none 0 0) = .agg #[.int .i64 0, .int .i64 0, .int .i64 0, .int .i64 0, .slice none 0 0, .slice none 0 0, .slice none 0 0] ∧ ndSz (ixV es) ≤ 1048576) := fun hno W => by
  have e : ixV es = .mk (0, 0, 0, 0) [] [] [] := by unfold ixV; rw [if_neg (by rw [hno]; exact Bool.false_ne_true)]
  rw [e]
  exact ⟨.mk (bs := []) (is := []) (ks := []) (q1 := 0) (q2 := 0) (q3 := 0) (G := fun _ _ => False) (g1 := fun _ => undef) (g2 := fun _ => undef) (g3 := fun _ => undef) ⟨Nat.le_refl _, by simp [maxLen], fun h => absurd rfl h⟩ ⟨Nat.le_refl _, by simp [maxLen], fun h => absurd rfl h⟩ (Nat.le_refl _) (by simp [maxLen]) ⟨fun h => absurd h (Nat.lt_irrefl _), fun h => absurd h (Nat.lt_irrefl _), fun h => absurd h (Nat.lt_irrefl _), fun h => absurd h (Nat.lt_irrefl _)⟩ ⟨fun h => absurd h (Nat.lt_irrefl _), fun h => absurd h (Nat.lt_irrefl _), fun h => absurd h (Nat.lt_irrefl _), fun h => absurd h (Nat.lt_irrefl _)⟩ ⟨fun h => absurd h (Nat.lt_irrefl _), fun h => absurd h (Nat.lt_irrefl _), fun h => absurd h (Nat.lt_irrefl _), fun h => absurd h (Nat.lt_irrefl _)⟩ ⟨fun h => absurd h (Nat.lt_irrefl _), fun h => absurd h (Nat.lt_irrefl _), fun h => absurd h (Nat.lt_irrefl _), fun h => absurd h (Nat.lt_irrefl _), fun h => absurd h (Nat.lt_irrefl _), fun i hi => absurd hi (Nat.not_lt_zero _), fun i j q hi => absurd hi (Nat.not_lt_zero _)⟩ (fun i q hi => absurd hi (Nat.not_lt_zero _)) (fun i hi => absurd hi (Nat.not_lt_zero _)) (fun i hi => absurd hi (Nat.not_lt_zero _)), rfl, by simp [ndSz, ndSz.ndsSz]⟩
 have HC : Hid (∀ W, SeesEn W a c es → Calls Tryz.prog 18 #[.slice a es.length c] W fun e w' => e = .returned (.bool (mpB es)) ∧ Below W.heap.size W w') := fun W k => implMapOk a c es W k
 have HI : Hid (mpB es = true → ∀ W, SeesEn W a c es → Calls Tryz.prog 20 #[.slice a es.length c] W fun e w' => ∃ p b, e = .returned (.agg #[.pointer (some ⟨p, 0, none⟩), .map (some b)]) ∧ WkAt w' p (ixV es) ∧ ndSz (ixV es) ≤ 1048576 ∧ Below W.heap.size W w') := fun hp W k => by
  have e : ixV es = tbT (ixI es) (ixX es) := by unfold ixV; rw [if_pos hp]
  rw [e]
  exact indexOf_any a c es W k hp
 clear h
 generalize mpB es = ok at *
 generalize ixV es = t at *
 go_enter Tryz.func7, Tryz.ntmps7
 go_wp2_with fail
 generalize w.alloc (.cells #[.int .i64 0, .int .i64 0, .int .i64 0, .int .i64 0, .slice none 0 0, .slice none 0 0, .slice none 0 0] 32) = W1 at *
 refine Calls.mono (HC.out _ H.out) ?_
 rintro e w2 ⟨rfl, hb⟩
 replace V := V.below hb
 replace H : Hid _ := H.out.below hb
 replace hb1 := hb1.trans (hb.mono hb1.size)
 clear hb HC
 cases ok
 ·obtain ⟨r0, r1, r2, r3, r4, r5, r6, rf⟩ := id V
  have V3 := ((((((V.set0 (.int .i64 0)).set1 (.int .i64 0)).set2 (.int .i64 0)).set3 (.int .i64 0)).set4 (.slice none 0 0)).set5 (.slice none 0 0)).set6 (.slice none 0 0)
  have B3 : Hid _ := ((((((hb1.setCell (p := ⟨w.heap.size, 0, none⟩) (Nat.le_refl _) (.int .i64 0)).setCell (p := ⟨w.heap.size, 1, none⟩) (Nat.le_refl _) (.int .i64 0)).setCell (p := ⟨w.heap.size, 2, none⟩) (Nat.le_refl _) (.int .i64 0)).setCell (p := ⟨w.heap.size, 3, none⟩) (Nat.le_refl _) (.int .i64 0)).setCell (p := ⟨w.heap.size, 4, none⟩) (Nat.le_refl _) (.slice none 0 0)).setCell (p := ⟨w.heap.size, 5, none⟩) (Nat.le_refl _) (.slice none 0 0)).setCell (p := ⟨w.heap.size, 6, none⟩) (Nat.le_refl _) (.slice none 0 0)
  obtain ⟨q0, q1, q2, q3, q4, q5, q6, _⟩ := id V3
  have HQ := HN.out rfl
  replace HQ : Hid _ := HQ
  clear HN HI hb1 V V3 H
  go_wp2
  exact bodyPost_ret (v := .agg #[.int .i64 0, .int .i64 0, .int .i64 0, .int .i64 0, .slice none 0 0, .slice none 0 0, .slice none 0 0]) (by simp [results, Tryz.results7, go_sem, q0, q1, q2, q3, q4, q5, q6]) rfl ⟨_, _, _, _, by rw [(HQ.out w).2.1], (HQ.out _).1, fun q f => f.elim, (HQ.out w).2.2, B3.out⟩
 ·have CI := HI.out rfl w2 H.out
  clear HN HI H
  go_wp2_with fail
  refine CI.mono ?_
  rintro e w3 ⟨p, b, rfl, K3, hsz, hb⟩
  have HSZ : Hid (ndSz t ≤ 1048576) := hsz
  replace V := V.below hb
  have hwl3 := V.lt
  have C3 := nodeOf_any p t w3 K3 hsz
  replace hb1 := hb1.trans (hb.mono hb1.size)
  have hF9 : (Instr.field 62 (.agg #[.pointer (some ⟨p, 0, none⟩), .map (some b)]) 0).run Tryz.prog w3 = .ok (.pointer (some ⟨p, 0, none⟩)) w3 := by kernel_rfl
  clear CI K3 hb hsz
  go_wp2_with fail
  refine C3.mono ?_
  rintro e w4 ⟨u1, u2, u3, F, rfl, N4, hF, hb⟩
  replace V := V.below hb
  replace hb1 := hb1.trans (hb.mono hb1.size)
  obtain ⟨b1, d1, b2, d2, b3, d3, _, _, _, _, _, _, _, _, ev1, ev2, ev3, _⟩ := N4.open
  have HN4 : Hid (NdFp w4 F t u1 u2 u3) := N4
  obtain ⟨⟨x1, x2, x3, x4⟩, ux⟩ : ∃ x, Hid (t.b = x) := ⟨_, rfl⟩
  have HVV : Hid (ndV t u1 u2 u3 = .agg #[.int .i64 x1, .int .i64 x2, .int .i64 x3, .int .i64 x4, u1, u2, u3]) := by show _ = _; unfold ndV; rw [ux.out]
  rw [HVV.out]
  obtain ⟨m1, hm1⟩ : ∃ m, t.bs.length = m := ⟨_, rfl⟩
  obtain ⟨m2, hm2⟩ : ∃ m, t.is.length = m := ⟨_, rfl⟩
  obtain ⟨m3, hm3⟩ : ∃ m, t.ks.length = m := ⟨_, rfl⟩
  rw [hm1] at ev1
  rw [hm2] at ev2
  rw [hm3] at ev3
  subst ev1 ev2 ev3
  obtain ⟨r0, r1, r2, r3, r4, r5, r6, rf⟩ := id V
  have V3 := ((((((V.set0 (.int .i64 x1)).set1 (.int .i64 x2)).set2 (.int .i64 x3)).set3 (.int .i64 x4)).set4 (.slice b1 m1 d1)).set5 (.slice b2 m2 d2)).set6 (.slice b3 m3 d3)
  have B3 := ((((((hb1.setCell (p := ⟨w.heap.size, 0, none⟩) (Nat.le_refl _) (.int .i64 x1)).setCell (p := ⟨w.heap.size, 1, none⟩) (Nat.le_refl _) (.int .i64 x2)).setCell (p := ⟨w.heap.size, 2, none⟩) (Nat.le_refl _) (.int .i64 x3)).setCell (p := ⟨w.heap.size, 3, none⟩) (Nat.le_refl _) (.int .i64 x4)).setCell (p := ⟨w.heap.size, 4, none⟩) (Nat.le_refl _) (.slice b1 m1 d1)).setCell (p := ⟨w.heap.size, 5, none⟩) (Nat.le_refl _) (.slice b2 m2 d2)).setCell (p := ⟨w.heap.size, 6, none⟩) (Nat.le_refl _) (.slice b3 m3 d3)
  have C9 := ((((((((Chg.refl (fun q => q = w.heap.size) w4).put (p := w.heap.size) (k := 0) rfl (.int .i64 x1)).put (p := w.heap.size) (k := 1) rfl (.int .i64 x2)).put (p := w.heap.size) (k := 2) rfl (.int .i64 x3)).put (p := w.heap.size) (k := 3) rfl (.int .i64 x4)).put (p := w.heap.size) (k := 4) rfl (.slice b1 m1 d1)).put (p := w.heap.size) (k := 5) rfl (.slice b2 m2 d2)).put (p := w.heap.size) (k := 6) rfl (.slice b3 m3 d3))
  have N9 : Hid _ := NdFp.chg C9 _ (fun q f e => by have := hF q f; omega) HN4.out
  have HF : Hid (∀ q, F q → w.heap.size ≤ q) := fun q f => by have := hF q f; omega
  obtain ⟨q0, q1, q2, q3, q4, q5, q6, _⟩ := id V3
  clear C3 C9 hb hb1 V V3 N4 HN4 hF hm1 hm2 hm3
  have HB3 : Hid _ := B3
  clear B3
  go_wp2
  exact bodyPost_ret (v := .agg #[.int .i64 x1, .int .i64 x2, .int .i64 x3, .int .i64 x4, .slice b1 m1 d1, .slice b2 m2 d2, .slice b3 m3 d3]) (by simp [results, Tryz.results7, go_sem, q0, q1, q2, q3, q4, q5, q6]) rfl ⟨_, _, _, F, by rw [HVV.out], N9.out, HF.out, HSZ.out, HB3.out⟩
end Go.Proofs.YtinlomcaagdbiaaGreat
