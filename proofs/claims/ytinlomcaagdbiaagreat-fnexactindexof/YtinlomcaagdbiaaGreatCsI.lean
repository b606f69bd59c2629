import Derived.Test.YtinlomcaagdbiaaGreatCurT
import Derived.Test.YtinlomcaagdbiaaGreatCsM
import Derived.Test.YtinlomcaagdbiaaGreatParM
import Derived.Deep.DeepCutAuto
import Derived.Test.YtinlomcaagdbiaaGreatPtG
import Derived.Test.YtinlomcaagdbiaaGreatPtB
import Derived.Sort.Grow
import Derived.Deep.Cut
/- CurveSort of the program: the keys and the places, ahead of the sort. -/
namespace Go.Proofs.YtinlomcaagdbiaaGreat
open Go.RowKit

structure CsSt (lo : Nat) (w wr : World) (vk v4 : Value) (ks ps : List Int) : Prop where
 box : Box1 lo wr lo vk
 rk : RowI (lo + 1) wr vk ks
 rp : RowI (lo + 1) wr v4 ps
 ap : ∀ q, vk.ownBlock = some q → v4.ownBlock ≠ some q
 be : Below lo w wr
theorem RowI.kept {base : Nat} {w w' : World} {v : Value} {ds : List Int} {row : Option Nat} (h : RowI base w v ds) (g : w.grownBy w' row) (ne : v.ownBlock = none ∨ v.ownBlock ≠ row) : RowI base w' v ds := World.ownsRow.kept h g ne
theorem CsSt.below {lo : Nat} {w wr wr' : World} {vk v4 : Value} {ks ps : List Int} (h : CsSt lo w wr vk v4 ks ps) (hb : Below wr.heap.size wr wr') : CsSt lo w wr' vk v4 ks ps :=
 ⟨h.box.below hb, h.rk.below hb, h.rp.below hb, h.ap, h.be.trans (hb.mono (Nat.le_of_lt h.box.lt))⟩
theorem CsSt.app {lo : Nat} {w wr w5 : World} {vk v4 v' : Value} {ks ps : List Int} {k : Int} (h : CsSt lo w wr vk v4 ks ps) (own : w5.ownsRow (lo + 1) 3 1 v' (ks.length + 1) (ks.map (Value.int .i64) ++ [k].map (Value.int .i64)))
  (g : wr.grownBy w5 vk.ownBlock) (e : v'.ownBlock = vk.ownBlock ∨ v'.ownBlock = some wr.heap.size) :
  Box1 lo w5 lo vk ∧ RowI (lo + 1) w5 v' (ks ++ [k]) ∧ RowI (lo + 1) w5 v4 ps ∧ (∀ q, v'.ownBlock = some q → v4.ownBlock ≠ some q) ∧ Below lo w w5 := by
 have nb : vk.ownBlock ≠ some lo := fun e => by have := (World.ownsRow.lt h.rk lo e).1; omega
 refine ⟨?_, RowI.snoc (n := 0) own rfl, ?_, ?_, ?_⟩
 ·have eb := g.block lo h.box.lt (fun e => nb e.symm)
  exact ⟨(World.cell?_of_block (a := ⟨lo, 0, none⟩) eb).trans h.box.c0, (World.frozen?_of_block (a := ⟨lo, 0, none⟩) eb).trans h.box.fr, h.box.lo⟩
 ·refine h.rp.kept g ?_
  cases e4 : v4.ownBlock with
  | none => exact .inl rfl
  | some q => exact .inr (fun e' => h.ap q e'.symm e4)
 ·intro q hq e4
  rcases e with e | e
  ·exact h.ap q (e.symm.trans hq) e4
  ·have : q = wr.heap.size := by rw [e] at hq; injection hq with hq; exact hq.symm
   have := (World.ownsRow.lt h.rp q e4).2
   omega
 ·exact h.be.grown g (Nat.le_of_lt h.box.lt) (fun q hq => by have := (World.ownsRow.lt h.rk q hq).1; omega)
theorem CsSt.put {lo : Nat} {w w5 : World} {vk v4 v' : Value} {ks ps : List Int} (h : Box1 lo w5 lo vk ∧ RowI (lo + 1) w5 v' ks ∧ RowI (lo + 1) w5 v4 ps ∧ (∀ q, v'.ownBlock = some q → v4.ownBlock ≠ some q) ∧ Below lo w w5) :
  CsSt lo w (w5.setCell ⟨lo, 0, none⟩ v') v' v4 ks ps := by
 obtain ⟨h1, h2, h3, h4, h5⟩ := h
 have g : w5.grownBy (w5.setCell ⟨lo, 0, none⟩ v') (some lo) := grownBy_setCell (p := ⟨lo, 0, none⟩) (grownBy_refl _ _) rfl _
 exact ⟨h1.put v', h2.kept g (.inr fun e => by have := (World.ownsRow.lt h2 lo e).1; omega), h3.kept g (.inr fun e => by have := (World.ownsRow.lt h3 lo e).1; omega), h4, h5.setCell (p := ⟨lo, 0, none⟩) (Nat.le_refl _) v'⟩
theorem CsSt.more {lo : Nat} {w wr w5 : World} {vk v4 v' : Value} {ks ps : List Int} {k : Int} (h : CsSt lo w wr vk v4 ks ps) (own : w5.ownsRow (lo + 1) 3 1 v' (ps.length + 1) (ps.map (Value.int .i64) ++ [k].map (Value.int .i64)))
  (g : wr.grownBy w5 v4.ownBlock) (e : v'.ownBlock = v4.ownBlock ∨ v'.ownBlock = some wr.heap.size) : CsSt lo w w5 vk v' ks (ps ++ [k]) := by
 have nb : v4.ownBlock ≠ some lo := fun e => by have := (World.ownsRow.lt h.rp lo e).1; omega
 refine ⟨?_, ?_, RowI.snoc (n := 0) own rfl, ?_, ?_⟩
 ·have eb := g.block lo h.box.lt (fun e => nb e.symm)
  exact ⟨(World.cell?_of_block (a := ⟨lo, 0, none⟩) eb).trans h.box.c0, (World.frozen?_of_block (a := ⟨lo, 0, none⟩) eb).trans h.box.fr, h.box.lo⟩
 ·refine h.rk.kept g ?_
  cases e4 : vk.ownBlock with
  | none => exact .inl rfl
  | some q => exact .inr (fun e' => h.ap q e4 e'.symm)
 ·intro q hq e4
  rcases e with e | e
  ·exact h.ap q hq (e.symm.trans e4)
  ·have : q = wr.heap.size := by rw [e] at e4; injection e4 with e4; exact e4.symm
   have := (World.ownsRow.lt h.rk q hq).2
   omega
 ·exact h.be.grown g (Nat.le_of_lt h.box.lt) (fun q hq => by have := (World.ownsRow.lt h.rp q hq).1; omega)
theorem Box4.grownO {lo q : Nat} {w w' : World} {x0 x1 x2 x3 : Value} {row : Option Nat} (h : Box4 lo w q x0 x1 x2 x3) (g : w.grownBy w' row) (ne : row ≠ some q) : Box4 lo w' q x0 x1 x2 x3 := by
 have e := g.block q h.lt (fun e => ne e.symm)
 exact ⟨(World.cell?_of_block (a := ⟨q, 0, none⟩) e).trans h.c0, (World.cell?_of_block (a := ⟨q, 1, none⟩) e).trans h.c1, (World.cell?_of_block (a := ⟨q, 2, none⟩) e).trans h.c2, (World.cell?_of_block (a := ⟨q, 3, none⟩) e).trans h.c3, fun o => (World.frozen?_of_block (a := ⟨q, o, none⟩) e).trans (h.fr o), h.lo⟩
theorem SV {lo p : Nat} {W : World} {x0 x1 x2 x3 : Value} (h : Box4 lo W p x0 x1 x2 x3) : W.cell? ⟨p, 0, none⟩ = some x0 ∧ W.cell? ⟨p, 1, none⟩ = some x1 ∧ W.cell? ⟨p, 2, none⟩ = some x2 ∧ W.cell? ⟨p, 3, none⟩ = some x3 := ⟨h.c0, h.c1, h.c2, h.c3⟩

def ksL (bs : List Bx) (k : Nat) : List Int := (List.range k).map (csK bs)
def psL (k : Nat) : List Int := (List.range k).map Int.ofNat
theorem ksL_succ (bs : List Bx) (k : Nat) : ksL bs (k + 1) = ksL bs k ++ [csK bs k] := by simp [ksL, List.range_succ]
theorem psL_succ (k : Nat) : psL (k + 1) = psL k ++ [(k : Int)] := by simp [psL, List.range_succ]
theorem ksL_len (bs : List Bx) (k : Nat) : (ksL bs k).length = k := by simp [ksL]
theorem ksL_at {bs : List Bx} {n j : Nat} (h : j < n) : (ksL bs n)[j]?.getD 0 = csK bs j := by simp [ksL, h]
theorem psL_at {n j : Nat} (h : j < n) : (psL n)[j]?.getD 0 = (j : Int) := by simp [psL, h]
theorem psL_len (k : Nat) : (psL k).length = k := by simp [psL]

set_option maxRecDepth 20000 in
set_option maxHeartbeats 8000000 in
theorem implCurveSort_upto (a : Option Addr) (cap : Nat) (bs : List Bx) (w : World) (h : SeesX w a cap bs) (hs : bs.length ≤ 500)
  (hsort : ∀ (vk v4 : Value) (W : World), CsSt w.heap.size w W vk v4 (ksL bs bs.length) (psL bs.length) →
   Calls Tryz.prog 105 #[v4, .func (.func 106) #[] #[.pointer (some ⟨w.heap.size, 0, none⟩)]] W fun e w' => e = .returned (.tuple #[]) ∧ ∃ l, RowI w.heap.size w' v4 (List.map Int.ofNat l) ∧ csOk bs l ∧ Below w.heap.size w w') :
  Calls Tryz.prog 81 #[.slice a bs.length cap] w fun e w' => ∃ v, e = .returned v ∧ ∃ l, RowI w.heap.size w' v (List.map Int.ofNat l) ∧ csOk bs l ∧ Below w.heap.size w w' := by
 have HS : Hid (∀ (vk v4 : Value) (W : World), CsSt w.heap.size w W vk v4 (ksL bs bs.length) (psL bs.length) →
   Calls Tryz.prog 105 #[v4, .func (.func 106) #[] #[.pointer (some ⟨w.heap.size, 0, none⟩)]] W fun e w' => e = .returned (.tuple #[]) ∧ ∃ l, RowI w.heap.size w' v4 (List.map Int.ofNat l) ∧ csOk bs l ∧ Below w.heap.size w w') := hsort
 clear hsort
 have hm := h.max
 have hf := h.fits
 unfold maxLen at hm
 have B0 := below1 w (.cells #[.slice none 0 0] 29)
 have X0 := Box1.new w (lo := w.heap.size) (Nat.le_refl _) (.slice none 0 0) 29
 have ST0 : CsSt w.heap.size w (w.alloc (.cells #[.slice none 0 0] 29)) (.slice none 0 0) (.slice none 0 0) (ksL bs 0) (psL 0) := ⟨X0, RowI.nil _ _, RowI.nil _ _, (fun q e => by cases e), B0⟩
 clear B0 X0
 obtain ⟨i8, hi8, hy0, hy1, hy2⟩ := info_parts infoI
 go_enter Tryz.func81, Tryz.ntmps81
 go_wp2
 go_loopw [4, 12] (fun s4 s12 wr => ∃ (k : Nat) (vk : Value), k ≤ bs.length ∧ s12 = .int .i64 k ∧ CsSt w.heap.size w wr vk s4 (ksL bs k) (psL k)) (fun _ s12 _ => bs.length - (intOf s12).toNat)
 case atStart => exact ⟨0, _, Nat.zero_le _, rfl, ST0⟩
 case round =>
  clear ST0
  obtain ⟨k, vk, hk, rfl, ST⟩ := hrel
  rename World => wr
  by_cases hlt : k < bs.length
  ·obtain ⟨xx, HX⟩ : ∃ x, Hid (bxAt bs k = x) := ⟨_, rfl⟩
   obtain ⟨x1, x2, x3, x4⟩ := xx
   have KI : Hid (csK bs k = cvKey x1 x2 x3 x4) := by show _ = _; unfold csK; rw [HX.out]
   obtain ⟨b1, o1, rfl, hc⟩ := (h.below ST.be).cells (by intro e; rw [e] at hlt; simp at hlt)
   have F2 := hc k hlt
   rw [HX.out] at F2
   obtain ⟨g0, g1, g2, g3⟩ := F2
   dsimp only at g0 g1 g2 g3
   clear hc
   have KL := ksL_len bs k
   have PL := psL_len k
   have NK : Hid (ksL bs (k + 1) = ksL bs k ++ [cvKey x1 x2 x3 x4]) := by show _ = _; rw [ksL_succ, KI.out]
   have NP : Hid (psL (k + 1) = psL k ++ [(k : Int)]) := psL_succ k
   generalize ksL bs k = ks at *
   generalize psL k = ps at *
   have pl := ST.box.lt
   have V4 := Box4.new wr (lo := w.heap.size + 1) pl (.int .i64 x1) (.int .i64 x2) (.int .i64 x3) (.int .i64 x4) 27
   have hb := below1 wr (.cells #[.int .i64 x1, .int .i64 x2, .int .i64 x3, .int .i64 x4] 27)
   have HP : Hid (∀ q, vk.ownBlock = some q → q < wr.heap.size) := fun q e => (World.ownsRow.lt ST.rk q e).2
   replace ST := ST.below hb
   clear hb
   go_upto_region 7 with fail
   generalize wr.heap.size = p at *
   generalize wr.alloc (.cells #[.int .i64 x1, .int .i64 x2, .int .i64 x3, .int .i64 x4] 27) = W1 at *
   clear g0 g1 g2 g3
   go_cut [] (fun wx => ∃ vn, CsSt w.heap.size w wx vn u4 (ks ++ [cvKey x1 x2 x3 x4]) ps)
   case first =>
    refine wp_region_held_drew (S := fun W => W.cell? ⟨p, 0, none⟩ = some (.int .i64 x1) ∧ W.cell? ⟨p, 1, none⟩ = some (.int .i64 x2) ∧ W.cell? ⟨p, 2, none⟩ = some (.int .i64 x3) ∧ W.cell? ⟨p, 3, none⟩ = some (.int .i64 x4)) (by kernel_rfl) (SV (V4.below ((Below.refl _ _).drew))) (fun hHeld => ?_)
    replace ST := ST.below ((Below.refl _ _).drew)
    replace V4 := V4.below ((Below.refl _ _).drew)
    clear hHeld
    revert ST V4
    generalize W1.drew = ww0
    intro ST V4
    refine takeQ (i := 1) (gt rfl) (by kernel_rfl) (fun _ _ _ h => h) (by rfl) (by intro wq hSw; obtain ⟨q0, q1, q2, q3⟩ := hSw; go_simp <;> with_reducible rfl) (SV V4) ?_
    try simp only [Act.put, sA, sB, sC]
    refine wpAnyH_ready (rs := [0, 2]) (by kernel_rfl) (by simp) (AllReadyH.cons (gt rfl) (fun K hK => ?_) (AllReadyH.cons (gt rfl) (fun K hK => ?_) AllReadyH.nil))
    ·skip
     have y0 := ST.box.c0
     go_simp
     clear y0
     refine hK.out _ _ (SV V4) (fun hHeld => ?_)
     clear hK K hHeld
     try simp only [Act.put, sA, sB, sC]
     refine rdA (i := 2) (h := fun K hK => ?_)
     go_simp
     refine (implCurveKey x1 x2 x3 x4 _).mono ?_
     rintro e1 ww1 ⟨rfl, hb⟩
     replace ST := ST.below hb
     replace V4 := V4.below hb
     clear hb
     refine hK.out _ _ (SV V4) (fun hHeld => ?_)
     clear hK K hHeld
     try simp only [Act.put, sA, sB, sC]
     refine rdA (i := 3) (h := fun K hK => ?_)
     go_simp
     have hb := below1 ww1 (.cells #[.int .i64 (cvKey x1 x2 x3 x4)] 3)
     have NW := one_newI ww1 3 (cvKey x1 x2 x3 x4)
     replace ST := ST.below hb
     replace V4 := V4.below hb
     have hz := ST.be.size
     clear hb
     refine hK.out _ _ (SV V4) (fun hHeld => ?_)
     clear hK K hHeld
     try simp only [Act.put, sA, sB, sC]
     generalize ww1.heap.size = z9 at *
     generalize ww1.alloc (.cells #[.int .i64 (cvKey x1 x2 x3 x4)] 3) = ww2 at *
     refine rdA (i := 4) (h := fun K hK => ?_)
     refine wp_append_at (.tmp 17) (.tmp 20) 29 rfl (w.heap.size + 1) 3 i8 (.int .i64 0) 1 8 Tryz.underlying29 hi8 hy0 hy1 hy2 rfl (by decide) vk ks.length (ks.map (Value.int .i64)) rfl ST.rk ⟨z9, 0, none⟩ 1 _ ([cvKey x1 x2 x3 x4].map (Value.int .i64)) rfl rfl NW (onesI _) (by unfold maxLen; omega) (by omega) (by have := ST.box.lt; omega) ?_
     intro vn ww3 RN GN AN
     have SN := ST.app RN GN AN
     have VN := V4.grownO GN (fun e => by have := (World.ownsRow.lt ST.rk p e).2; have := HP.out p e; omega)
     obtain ⟨an, cn, rfl, _, _⟩ := SN.2.1.shape'
     have LN : (ks ++ [cvKey x1 x2 x3 x4]).length = k + 1 := by simp [KL]
     simp only [LN] at SN ⊢
     clear LN
     refine hK.out _ _ (SV VN) (fun hHeld => ?_)
     clear hK K hHeld RN GN AN ST V4 NW
     try simp only [Act.put, sA, sB, sC]
     refine rdA (i := 5) (h := fun K hK => ?_)
     have y0 := SN.1.c0
     have yf := SN.1.fr
     go_simp
     clear y0 yf
     have SQ := CsSt.put SN
     have VQ := VN.oldAny (p := w.heap.size) (by have := VN.lo; omega) 0 (.slice an (k + 1) cn)
     refine hK.out _ _ (SV VQ) (fun hHeld => ?_)
     clear hK K hHeld SN VN
     try simp only [Act.put, sA, sB, sC]
     refine wpAnyH_done (by kernel_rfl) ?_ _
     go_wp2
     go_meet
     case rel => exact ⟨_, SQ⟩
    ·skip
     go_simp
     refine (implCurveKey x1 x2 x3 x4 _).mono ?_
     rintro e1 ww4 ⟨rfl, hb⟩
     replace ST := ST.below hb
     replace V4 := V4.below hb
     clear hb
     refine hK.out _ _ (SV V4) (fun hHeld => ?_)
     clear hK K hHeld
     try simp only [Act.put, sA, sB, sC]
     refine wpAnyH_ready (rs := [0, 3]) (by kernel_rfl) (by simp) (AllReadyH.cons (gt rfl) (fun K hK => ?_) (AllReadyH.cons (gt rfl) (fun K hK => ?_) AllReadyH.nil))
     ·skip
      have y0 := ST.box.c0
      go_simp
      clear y0
      refine hK.out _ _ (SV V4) (fun hHeld => ?_)
      clear hK K hHeld
      try simp only [Act.put, sA, sB, sC]
      refine rdA (i := 3) (h := fun K hK => ?_)
      go_simp
      have hb := below1 ww4 (.cells #[.int .i64 (cvKey x1 x2 x3 x4)] 3)
      have NW := one_newI ww4 3 (cvKey x1 x2 x3 x4)
      replace ST := ST.below hb
      replace V4 := V4.below hb
      have hz := ST.be.size
      clear hb
      refine hK.out _ _ (SV V4) (fun hHeld => ?_)
      clear hK K hHeld
      try simp only [Act.put, sA, sB, sC]
      generalize ww4.heap.size = z9 at *
      generalize ww4.alloc (.cells #[.int .i64 (cvKey x1 x2 x3 x4)] 3) = ww5 at *
      refine rdA (i := 4) (h := fun K hK => ?_)
      refine wp_append_at (.tmp 17) (.tmp 20) 29 rfl (w.heap.size + 1) 3 i8 (.int .i64 0) 1 8 Tryz.underlying29 hi8 hy0 hy1 hy2 rfl (by decide) vk ks.length (ks.map (Value.int .i64)) rfl ST.rk ⟨z9, 0, none⟩ 1 _ ([cvKey x1 x2 x3 x4].map (Value.int .i64)) rfl rfl NW (onesI _) (by unfold maxLen; omega) (by omega) (by have := ST.box.lt; omega) ?_
      intro vn ww6 RN GN AN
      have SN := ST.app RN GN AN
      have VN := V4.grownO GN (fun e => by have := (World.ownsRow.lt ST.rk p e).2; have := HP.out p e; omega)
      obtain ⟨an, cn, rfl, _, _⟩ := SN.2.1.shape'
      have LN : (ks ++ [cvKey x1 x2 x3 x4]).length = k + 1 := by simp [KL]
      simp only [LN] at SN ⊢
      clear LN
      refine hK.out _ _ (SV VN) (fun hHeld => ?_)
      clear hK K hHeld RN GN AN ST V4 NW
      try simp only [Act.put, sA, sB, sC]
      refine rdA (i := 5) (h := fun K hK => ?_)
      have y0 := SN.1.c0
      have yf := SN.1.fr
      go_simp
      clear y0 yf
      have SQ := CsSt.put SN
      have VQ := VN.oldAny (p := w.heap.size) (by have := VN.lo; omega) 0 (.slice an (k + 1) cn)
      refine hK.out _ _ (SV VQ) (fun hHeld => ?_)
      clear hK K hHeld SN VN
      try simp only [Act.put, sA, sB, sC]
      refine wpAnyH_done (by kernel_rfl) ?_ _
      go_wp2
      go_meet
      case rel => exact ⟨_, SQ⟩
     ·skip
      go_simp
      have hb := below1 ww4 (.cells #[.int .i64 (cvKey x1 x2 x3 x4)] 3)
      have NW := one_newI ww4 3 (cvKey x1 x2 x3 x4)
      replace ST := ST.below hb
      replace V4 := V4.below hb
      have hz := ST.be.size
      clear hb
      refine hK.out _ _ (SV V4) (fun hHeld => ?_)
      clear hK K hHeld
      try simp only [Act.put, sA, sB, sC]
      generalize ww4.heap.size = z9 at *
      generalize ww4.alloc (.cells #[.int .i64 (cvKey x1 x2 x3 x4)] 3) = ww7 at *
      refine rdA (i := 0) (h := fun K hK => ?_)
      have y0 := ST.box.c0
      go_simp
      clear y0
      refine hK.out _ _ (SV V4) (fun hHeld => ?_)
      clear hK K hHeld
      try simp only [Act.put, sA, sB, sC]
      refine rdA (i := 4) (h := fun K hK => ?_)
      refine wp_append_at (.tmp 17) (.tmp 20) 29 rfl (w.heap.size + 1) 3 i8 (.int .i64 0) 1 8 Tryz.underlying29 hi8 hy0 hy1 hy2 rfl (by decide) vk ks.length (ks.map (Value.int .i64)) rfl ST.rk ⟨z9, 0, none⟩ 1 _ ([cvKey x1 x2 x3 x4].map (Value.int .i64)) rfl rfl NW (onesI _) (by unfold maxLen; omega) (by omega) (by have := ST.box.lt; omega) ?_
      intro vn ww8 RN GN AN
      have SN := ST.app RN GN AN
      have VN := V4.grownO GN (fun e => by have := (World.ownsRow.lt ST.rk p e).2; have := HP.out p e; omega)
      obtain ⟨an, cn, rfl, _, _⟩ := SN.2.1.shape'
      have LN : (ks ++ [cvKey x1 x2 x3 x4]).length = k + 1 := by simp [KL]
      simp only [LN] at SN ⊢
      clear LN
      refine hK.out _ _ (SV VN) (fun hHeld => ?_)
      clear hK K hHeld RN GN AN ST V4 NW
      try simp only [Act.put, sA, sB, sC]
      refine rdA (i := 5) (h := fun K hK => ?_)
      have y0 := SN.1.c0
      have yf := SN.1.fr
      go_simp
      clear y0 yf
      have SQ := CsSt.put SN
      have VQ := VN.oldAny (p := w.heap.size) (by have := VN.lo; omega) 0 (.slice an (k + 1) cn)
      refine hK.out _ _ (SV VQ) (fun hHeld => ?_)
      clear hK K hHeld SN VN
      try simp only [Act.put, sA, sB, sC]
      refine wpAnyH_done (by kernel_rfl) ?_ _
      go_wp2
      go_meet
      case rel => exact ⟨_, SQ⟩
   case rest =>
    obtain ⟨vn, SN⟩ := hcut
    clear ST V4 HP pl
    rename World => wc
    have hb := below1 wc (.cells #[.int .i64 (k : Int)] 3)
    have NW := one_newI wc 3 (k : Int)
    replace SN := SN.below hb
    clear hb
    have hz := SN.box.lt
    go_wp2_with (at_builtin; refine wpList_append_own_at _ rfl (.tmp 22) (.tmp 24) 29 rfl (w.heap.size + 1) 3 i8 (.int .i64 0) 1 8 Tryz.underlying29 hi8 hy0 hy1 hy2 rfl (by decide) u4 ps.length (ps.map (Value.int .i64)) rfl SN.rp ⟨wc.heap.size, 0, none⟩ 1 _ ([(k : Int)].map (Value.int .i64)) rfl rfl NW (onesI _) (by unfold maxLen; omega) (by omega) hz ?_; intro v7 w7 R8 G7 A7 A8; have S8 := SN.more R8 G7 A8)
    go_roundw
    case rel => exact ⟨k + 1, vn, by omega, by go_num, (by rw [NK.out, NP.out]; exact S8)⟩
    case measure => simp [intOf] <;> omega
  ·obtain rfl : k = bs.length := by omega
   go_wp2_with fail
   refine (HS.out _ _ _ ST).mono ?_
   rintro e w7 ⟨rfl, l, RL, OL, BL⟩
   go_wp2
   go_ret
   exact ⟨_, rfl, l, RL, OL, BL⟩
end Go.Proofs.YtinlomcaagdbiaaGreat

/- The closure that CurveSort sorts by: first the keys are compared, then the places. -/
namespace Go.Proofs.YtinlomcaagdbiaaGreat
open Go.RowKit

structure Grw (W w' : World) : Prop where
 ex : ∃ q os, w' = Go.Sort.grow (W.drewN q) os
theorem Grw.start (W : World) : Grw W W.drew := ⟨1, #[], by rw [Go.Sort.grow_empty]; rfl⟩
theorem Grw.alloc {W w' : World} (h : Grw W w') (o : Obj) : Grw W (w'.alloc o) := by
 obtain ⟨q, os, rfl⟩ := h.ex
 exact ⟨q, os.push o, by simp [Go.Sort.grow, World.alloc]⟩
theorem Grw.size {W w' : World} (h : Grw W w') : W.heap.size ≤ w'.heap.size := by
 obtain ⟨q, os, rfl⟩ := h.ex
 simp [Go.Sort.grow, World.drewN]
theorem Grw.below {W w' : World} (h : Grw W w') : Below W.heap.size W w' := by
 obtain ⟨q, os, rfl⟩ := h.ex
 refine ⟨rfl, rfl, rfl, by simp [Go.Sort.grow, World.drewN], fun k hk => ?_⟩
 simp [Go.Sort.grow, World.drewN, Array.getElem?_append, hk]

def cmp2 (x y : Int) : Int := if x < y then -1 else if y < x then 1 else 0
set_option maxHeartbeats 1000000 in
theorem compare_any (x y : Int) (w : World) :
  Calls Tryz.prog 108 #[.int .i64 x, .int .i64 y] w fun e w' => e = .returned (.int .i64 (cmp2 x y)) ∧ w' = w := by
 by_cases h1 : x < y
 ·have V : Hid (cmp2 x y = -1) := by show _ = _; unfold cmp2; rw [if_pos h1]
  go_enter Tryz.func108, Tryz.ntmps108
  go_wp2_with (go_at_call 126; refine (isNaN_any _ _).mono ?_; rintro e w' ⟨rfl, rfl⟩)
  go_ret
  exact ⟨by rw [V.out]; first | done | rfl, rfl⟩
 ·by_cases h2 : y < x
  ·have V : Hid (cmp2 x y = 1) := by show _ = _; unfold cmp2; rw [if_neg h1, if_pos h2]
   go_enter Tryz.func108, Tryz.ntmps108
   go_wp2_with (go_at_call 126; refine (isNaN_any _ _).mono ?_; rintro e w' ⟨rfl, rfl⟩)
   go_ret
   exact ⟨by rw [V.out]; first | done | rfl, rfl⟩
  ·have V : Hid (cmp2 x y = 0) := by show _ = _; unfold cmp2; rw [if_neg h1, if_neg h2]
   go_enter Tryz.func108, Tryz.ntmps108
   go_wp2_with (go_at_call 126; refine (isNaN_any _ _).mono ?_; rintro e w' ⟨rfl, rfl⟩)
   go_ret
   exact ⟨by rw [V.out]; first | done | rfl, rfl⟩

def or2 (c d : Int) : Int := if c ≠ 0 then c else d
set_option maxHeartbeats 1000000 in
theorem or2_any (b : Nat) (c d : Int) (w : World) (h0 : w.cell? ⟨b, 0, none⟩ = some (.int .i64 c)) (h1 : w.cell? ⟨b, 1, none⟩ = some (.int .i64 d)) :
  Calls Tryz.prog 107 #[.slice (some ⟨b, 0, none⟩) 2 2] w fun e w' => e = .returned (.int .i64 (or2 c d)) ∧ w' = w := by
 go_enter Tryz.func107, Tryz.ntmps107
 go_wp2
 go_loopw [8] (fun s8 wr => ∃ k : Nat, k ≤ 2 ∧ s8 = .int .i64 k ∧ Hid (0 < k → c = 0) ∧ Hid (1 < k → d = 0) ∧ Hid (wr = w)) (fun s8 _ => 2 - (intOf s8).toNat)
 case atStart => exact ⟨0, by omega, rfl, fun h => absurd h (by omega), fun h => absurd h (by omega), rfl⟩
 case round =>
  obtain ⟨k, hk, rfl, H1, H2, hw⟩ := hrel
  have hw' := hw.out
  subst hw'
  have h3 : k = 0 ∨ k = 1 ∨ k = 2 := by omega
  rcases h3 with rfl | rfl | rfl
  ·by_cases hc : c = 0
   ·subst hc
    go_wp2
    go_roundw
    case rel => exact ⟨1, by omega, by go_num, fun _ => (by first | exact rfl | exact trivial), fun h => absurd h (by omega), (by first | exact trivial | exact rfl)⟩
    case measure => simp [intOf]
   ·have V : or2 c d = c := by unfold or2; rw [if_pos hc]
    have V2 : Hid (or2 c d = c) := V
    have hc2 : (c != 0) = true := by simpa using hc
    clear V
    go_wp2
    go_ret
    exact ⟨by rw [V2.out]; first | done | rfl, rfl⟩
  ·have hc := H1.out (by omega)
   subst hc
   by_cases hd : d = 0
   ·subst hd
    go_wp2
    go_roundw
    case rel => exact ⟨2, by omega, by go_num, fun _ => (by first | exact rfl | exact trivial), fun _ => (by first | exact rfl | exact trivial), (by first | exact trivial | exact rfl)⟩
    case measure => simp [intOf]
   ·have V2 : Hid (or2 0 d = d) := by show _ = _; unfold or2; rw [if_neg (by simp)]
    have hc2 : (d != 0) = true := by simpa using hd
    go_wp2
    go_ret
    exact ⟨by rw [V2.out]; first | done | rfl, rfl⟩
  ·have hc := H1.out (by omega)
   have hd := H2.out (by omega)
   subst hc hd
   go_wp2
   go_ret
   exact ⟨by first | rfl | simp [or2], rfl⟩

set_option maxRecDepth 20000 in
set_option maxHeartbeats 2000000 in
theorem sort1_any (B q n cap i j : Nat) (x y : Int) (W : World) (k0 : W.cell? ⟨B, 0, none⟩ = some (.slice (some ⟨q, 0, none⟩) n cap)) (hi : i < n) (hj : j < n) (hn : n ≤ 500)
  (r0 : W.cell? ⟨q, i, none⟩ = some (.int .i64 x)) (r1 : W.cell? ⟨q, j, none⟩ = some (.int .i64 y)) :
  Calls Tryz.prog 106 #[.int .i64 i, .int .i64 j, .pointer (some ⟨B, 0, none⟩)] W fun e w' => e = .returned (.int .i64 (or2 (cmp2 x y) (cmp2 i j))) ∧ Grw W w' := by
 have wi : IntKind.i64.wrap (i : Int) = (i : Int) := by rw [IntKind.wrap_i64]; omega
 have wj : IntKind.i64.wrap (j : Int) = (j : Int) := by rw [IntKind.wrap_i64]; omega
 have bi : (i : Int) < (n : Int) := by omega
 have bj : (j : Int) < (n : Int) := by omega
 go_enter Tryz.func106, Tryz.ntmps106
 go_upto_region 1 with fail
 refine wp_region_held_drew (S := Grw W) (by kernel_rfl) (Grw.start W) (fun hHeld => ?_)
 have N : Grw W W.drew := hHeld
 revert hHeld N
 generalize W.drew = ww0
 intro hHeld N
 refine takeA (i := 0) (hy := by intro wq hSw; have q0 := bat hSw.below k0; have q1 := bat hSw.below r0; have q2 := bat hSw.below r1; go_simp <;> with_reducible rfl) (h := ?_)
 refine takeA (i := 1) (h := ?_)
 refine takeA (i := 2) (h := ?_)
 refine takeA (i := 3) (hy := by intro wq hSw; have q0 := bat hSw.below k0; have q1 := bat hSw.below r0; have q2 := bat hSw.below r1; go_simp <;> with_reducible rfl) (h := ?_)
 refine takeA (i := 4) (hy := by intro wq hSw; have q0 := bat hSw.below k0; have q1 := bat hSw.below r0; have q2 := bat hSw.below r1; go_simp <;> with_reducible rfl) (h := ?_)
 refine takeA (i := 5) (h := ?_)
 refine takeA (i := 6) (h := ?_)
 refine takeA (i := 7) (hy := by intro wq hSw; have q0 := bat hSw.below k0; have q1 := bat hSw.below r0; have q2 := bat hSw.below r1; go_simp <;> with_reducible rfl) (h := ?_)
 refine takeA (i := 9) (h := ?_)
 refine takeA (i := 10) (h := ?_)
 refine rdA (i := 8) (h := fun K hK => ?_)
 go_simp
 refine (compare_any x y _).mono ?_
 rintro e1 ww1 ⟨rfl, ew⟩
 subst ew
 refine hK.out _ _ N (fun hHeld => ?_)
 clear hK K
 try simp only [Act.put, sA, sB, sC]
 refine rdA (i := 11) (h := fun K hK => ?_)
 go_simp
 refine (compare_any i j _).mono ?_
 rintro e1 ww2 ⟨rfl, ew⟩
 subst ew
 refine hK.out _ _ N (fun hHeld => ?_)
 clear hK K
 try simp only [Act.put, sA, sB, sC]
 refine rdA (i := 12) (h := fun K hK => ?_)
 go_simp
 have KB := Box2.new ww2 N.size (.int .i64 (cmp2 x y)) (.int .i64 (cmp2 i j)) 3
 replace N := N.alloc (.cells #[.int .i64 (cmp2 x y), .int .i64 (cmp2 i j)] 3)
 generalize ww2.alloc (.cells #[.int .i64 (cmp2 x y), .int .i64 (cmp2 i j)] 3) = ww3 at *
 refine hK.out _ _ N (fun hHeld => ?_)
 clear hK K
 try simp only [Act.put, sA, sB, sC]
 refine rdA (i := 13) (h := fun K hK => ?_)
 go_simp
 refine (or2_any _ (cmp2 x y) (cmp2 i j) _ KB.c0 KB.c1).mono ?_
 rintro e1 ww4 ⟨rfl, ew⟩
 subst ew
 refine hK.out _ _ N (fun hHeld => ?_)
 clear hK K
 try simp only [Act.put, sA, sB, sC]
 refine takeA (i := 14) (h := ?_)
 refine wpAnyH_done (by kernel_rfl) ?_ _
 go_wp2
 go_ret
 exact ⟨rfl, N⟩
end Go.Proofs.YtinlomcaagdbiaaGreat
