import Derived.WalkKit
import Derived.Test.YtinlomcaagdbiaaGreatCurT
import Derived.Test.YtinlomcaagdbiaaGreatSBox
import Derived.Test.YtinlomcaagdbiaaGreatIntsL
import Derived.Test.YtinlomcaagdbiaaGreatSeg
/- Places that are sorted by their keys, of several with the same key the least first: there is one such list. No program is named here. -/
namespace Go.Proofs.YtinlomcaagdbiaaGreat

def csLt (kf : Nat → Int) (a b : Nat) : Prop := kf a < kf b ∨ (kf a = kf b ∧ a < b)
def Srt (kf : Nat → Int) (n : Nat) (l : List Nat) : Prop := l.Perm (List.range n) ∧ l.Pairwise (csLt kf)
theorem csLt_asymm {kf : Nat → Int} {a b : Nat} (h : csLt kf a b) (k : csLt kf b a) : False := by
 unfold csLt at *
 omega
theorem srt_one {kf : Nat → Int} : ∀ {l l' : List Nat}, l.Perm l' → l.Pairwise (csLt kf) → l'.Pairwise (csLt kf) → l = l'
 | [], l', p, _, _ => by
  have := p.length_eq
  cases l' with
  | nil => rfl
  | cons b r => simp at this
 | a :: l, [], p, _, _ => by have := p.length_eq; simp at this
 | a :: l, b :: l', p, h, k => by
  rw [List.pairwise_cons] at h k
  have e : a = b := by
   have ha : a ∈ b :: l' := p.mem_iff.1 List.mem_cons_self
   have hb : b ∈ a :: l := p.mem_iff.2 List.mem_cons_self
   rcases List.mem_cons.1 ha with e | e
   ·exact e
   ·rcases List.mem_cons.1 hb with e' | e'
    ·exact e'.symm
    ·exact (csLt_asymm (k.1 a e) (h.1 b e')).elim
  subst e
  rw [srt_one ((List.perm_cons a).1 p) h.2 k.2]
theorem Srt.one {kf : Nat → Int} {n : Nat} {l l' : List Nat} (h : Srt kf n l) (k : Srt kf n l') : l = l' := srt_one (h.1.trans k.1.symm) h.2 k.2
theorem Srt.nil (kf : Nat → Int) : Srt kf 0 [] := ⟨by simp, List.Pairwise.nil⟩
theorem Srt.len {kf : Nat → Int} {n : Nat} {l : List Nat} (h : Srt kf n l) : l.length = n := by rw [h.1.length_eq, List.length_range]
theorem Srt.lt {kf : Nat → Int} {n : Nat} {l : List Nat} (h : Srt kf n l) {a : Nat} (ha : a ∈ l) : a < n := by
 have := h.1.mem_iff.1 ha
 simpa using this
theorem Srt.ins {kf : Nat → Int} {n k : Nat} {l : List Nat} (h : Srt kf n l) (hd : ∀ a ∈ l.drop k, kf n < kf a) (ht : ∀ a ∈ l.take k, kf a ≤ kf n) : Srt kf (n + 1) (l.take k ++ n :: l.drop k) := by
 refine ⟨?_, ?_⟩
 ·rw [List.range_succ]
  have p1 : (l.take k ++ n :: l.drop k).Perm (n :: (l.take k ++ l.drop k)) := List.perm_middle
  rw [List.take_append_drop] at p1
  exact p1.trans ((List.Perm.cons n h.1).trans (List.perm_append_singleton n (List.range n)).symm)
 ·have hp := h.2
  rw [← List.take_append_drop k l, List.pairwise_append] at hp
  rw [List.pairwise_append, List.pairwise_cons]
  refine ⟨hp.1, ⟨fun a ha => .inl (hd a ha), hp.2.1⟩, fun a ha b hb => ?_⟩
  rcases List.mem_cons.1 hb with rfl | hb
  ·have h1 := ht a ha
   have h2 := h.lt (List.mem_of_mem_take ha)
   unfold csLt
   omega
  ·exact hp.2.2 a ha b hb
theorem Srt.le {kf : Nat → Int} {n k : Nat} {l : List Nat} (h : Srt kf n l) (hk : k < l.length) {x : Int} (hx : kf (l[k]?.getD 0) ≤ x) : ∀ a ∈ l.take (k + 1), kf a ≤ x := by
 intro a ha
 have hp := h.2
 rw [List.getElem?_eq_getElem hk, Option.getD_some] at hx
 rw [List.take_add_one, List.getElem?_eq_getElem hk] at ha
 rcases List.mem_append.1 ha with ha | ha
 ·obtain ⟨i, hi, rfl⟩ := List.getElem_of_mem ha
  have hik : i < k := by simp at hi; omega
  rw [List.getElem_take]
  have := List.pairwise_iff_getElem.1 hp i k (by omega) hk hik
  unfold csLt at this
  omega
 ·simp at ha
  subst ha
  exact hx
theorem drop_gt {kf : Nat → Int} {k : Nat} {l : List Nat} {x : Int} (hk : k < l.length) (hd : ∀ a ∈ l.drop (k + 1), x < kf a) (hx : x < kf (l[k]?.getD 0)) : ∀ a ∈ l.drop k, x < kf a := by
 intro a ha
 rw [List.drop_eq_getElem_cons hk] at ha
 rw [List.getElem?_eq_getElem hk, Option.getD_some] at hx
 rcases List.mem_cons.1 ha with rfl | ha
 ·exact hx
 ·exact hd a ha
def hole (l : List Nat) (k x : Nat) : List Nat := l.take k ++ x :: l.drop k
theorem hole_len (l : List Nat) (k x : Nat) : (hole l k x).length = l.length + 1 := by
 have := congrArg List.length (List.take_append_drop k l)
 simp only [hole, List.length_append, List.length_cons] at *
 omega
theorem hole_end (l : List Nat) (x : Nat) : hole l l.length x = l ++ [x] := by simp [hole]
theorem hole_set {l : List Nat} {k x y : Nat} (hk : k ≤ l.length) : (hole l k x).set k y = hole l k y := by
 unfold hole
 rw [List.set_append_right _ _ (by simp; omega)]
 simp [Nat.min_eq_left hk]
theorem hole_at {l : List Nat} {k x i : Nat} (hi : i < k) (hk : k ≤ l.length) : (hole l k x)[i]?.getD 0 = l[i]?.getD 0 := by
 unfold hole
 rw [List.getElem?_append_left (by simp; omega), List.getElem?_take_of_lt hi]
theorem hole_down {l : List Nat} {k x : Nat} (hk : k < l.length) : (hole l (k + 1) x).set (k + 1) (l[k]?.getD 0) = hole l k (l[k]?.getD 0) := by
 rw [hole_set (by omega)]
 unfold hole
 have e : l.take (k + 1) = l.take k ++ [l[k]] := List.take_succ_eq_append_getElem hk
 have d : l.drop k = l[k] :: l.drop (k + 1) := List.drop_eq_getElem_cons hk
 rw [e, d, List.getElem?_eq_getElem hk, Option.getD_some, List.append_assoc]
 rfl
end Go.Proofs.YtinlomcaagdbiaaGreat

/- CurveSort of the specification: the places of boxes, sorted. -/
namespace Go.Proofs.YtinlomcaagdbiaaGreat
open Go.RowKit

def csK (bs : List Bx) (j : Nat) : Int := cvKey (bxAt bs j).1 (bxAt bs j).2.1 (bxAt bs j).2.2.1 (bxAt bs j).2.2.2
def csOk (bs : List Bx) (l : List Nat) : Prop := if bs.length ≤ 500 then Srt (csK bs) bs.length l else l = []
theorem mapN_at (l : List Nat) (j : Nat) : (l.map Int.ofNat)[j]?.getD 0 = ((l[j]?.getD 0 : Nat) : Int) := by
 rw [List.getElem?_map]
 cases l[j]? <;> rfl
theorem hole_setI {l : List Nat} {k x y : Nat} (hk : k ≤ l.length) : ((hole l k x).map Int.ofNat).set k (y : Int) = (hole l k y).map Int.ofNat := by
 rw [← hole_set (x := x) (y := y) hk, List.map_set]
 rfl
theorem hole_downI {l : List Nat} {k x y : Nat} (hk : k < l.length) (hy : l[k]?.getD 0 = y) : ((hole l (k + 1) x).map Int.ofNat).set (k + 1) (y : Int) = (hole l k y).map Int.ofNat := by
 have := hole_down (x := x) hk
 rw [hy] at this
 rw [← this, List.map_set]
 rfl
theorem RowI.at3 {base q cap : Nat} {w : World} {ds : List Int} (h : RowI base w (.slice (some ⟨q, 0, none⟩) ds.length cap) ds) {j : Nat} (hj : j < ds.length) : ∃ v, w.cell? ⟨q, j, none⟩ = some v := ⟨_, h.at' hj⟩

set_option maxRecDepth 20000 in
set_option maxHeartbeats 8000000 in
theorem specCurveSort (a : Option Addr) (cap : Nat) (bs : List Bx) (w : World) (h : SeesX w a cap bs) :
  Calls Tryz.prog 56 #[.slice a bs.length cap] w fun e w' => ∃ v, e = .returned v ∧ ∃ l, RowI w.heap.size w' v (List.map Int.ofNat l) ∧ csOk bs l ∧ Below w.heap.size w w' := by
 have hm := h.max
 have hf := h.fits
 unfold maxLen at hm
 have B0 := below1 w (.cells #[] 3)
 have R0 := RowI.empty w (base := w.heap.size) (Nat.le_refl _)
 obtain ⟨i8, hi8, hy0, hy1, hy2⟩ := info_parts infoI
 by_cases hs : bs.length ≤ 500
 ·have CO : Hid (∀ l, Srt (csK bs) bs.length l → csOk bs l) := fun l hl => by unfold csOk; rw [if_pos hs]; exact hl
  go_enter Tryz.func56, Tryz.ntmps56
  go_wp2
  go_loopw [3, 4] (fun s3 s4 wr => ∃ (i : Nat) (l : List Nat), i ≤ bs.length ∧ s4 = .int .i64 i ∧ Srt (csK bs) i l ∧ RowI w.heap.size wr s3 (l.map Int.ofNat) ∧ Below w.heap.size w wr) (fun _ s4 _ => bs.length - (intOf s4).toNat)
  case atStart => exact ⟨0, [], Nat.zero_le _, rfl, Srt.nil _, R0, B0⟩
  case round =>
   clear R0 B0
   obtain ⟨i, l, hi, rfl, SR0, R, B⟩ := hrel
   rename World => wr
   rename Value => s3
   by_cases hlt : i < bs.length
   ·have SL := SR0.len
    have SR : Hid (Srt (csK bs) i l) := SR0
    clear SR0
    obtain ⟨a3, c3, rfl, hc3, hm3⟩ := R.shape'
    rw [List.length_map, SL] at R hc3 ⊢
    unfold maxLen at hm3
    have wl := B.size
    go_wp2_with (at_builtin; refine wpList_append_own _ rfl (.tmp 19) (.tmp 21) 29 rfl w.heap.size 3 i8 (.int .i64 0) 1 8 Tryz.underlying29 hi8 hy0 hy1 hy2 rfl (by decide) (.slice a3 i c3) i (l.map Int.ofNat |>.map (Value.int .i64)) rfl (World.ownsRow.alloc (by have := R; unfold RowI at this; rw [List.length_map, SL] at this; exact this) _) ⟨wr.heap.size, 0, none⟩ 1 _ ([(i : Int)].map (Value.int .i64)) rfl rfl (one_newI _ _ _) (onesI _) (by unfold maxLen; omega) (by omega) (by simp <;> omega) ?_; intro v' w5 hown' hgrow' hiff; clear hiff)
    have O1 : (wr.alloc (.cells #[.int .i64 (i : Int)] 3)).ownsRow w.heap.size 3 1 (.slice a3 i c3) i ((l.map Int.ofNat).map (Value.int .i64)) := World.ownsRow.alloc (by have := R; unfold RowI at this; rw [List.length_map, SL] at this; exact this) _
    have B5 : Below w.heap.size w w5 := (B.alloc wl _).grown hgrow' (by simp <;> omega) (fun q hq => (O1.lt q hq).1)
    have R5 : RowI w.heap.size w5 v' ((l.map Int.ofNat) ++ [(i : Int)]) := RowI.snoc (n := 0) (by rw [List.length_map, SL]; exact hown') rfl
    rw [show l.map Int.ofNat ++ [(i : Int)] = (hole l i i).map Int.ofNat by rw [← SL, hole_end, List.map_append]; rfl] at R5
    clear O1 hown' hgrow' R B hc3 hm3
    obtain ⟨q, cap4, rfl, ql, _⟩ := R5.shape (by intro e; have := congrArg List.length e; rw [List.length_map, hole_len] at this; simp at this)
    rw [List.length_map, hole_len, SL]
    obtain ⟨hc4, hm4⟩ := R5.caps
    rw [List.length_map, hole_len, SL] at hc4
    unfold maxLen at hm4
    obtain ⟨xx, HX⟩ : ∃ x, Hid (bxAt bs i = x) := ⟨_, rfl⟩
    obtain ⟨x1, x2, x3, x4⟩ := xx
    have KI : Hid (csK bs i = cvKey x1 x2 x3 x4) := by show _ = _; unfold csK; rw [HX.out]
    go_wp2
    go_loopw [5] (fun s5 wi => ∃ k x : Nat, k ≤ i ∧ s5 = .int .i64 k ∧ RowI w.heap.size wi (.slice (some ⟨q, 0, none⟩) ((hole l k x).map Int.ofNat).length cap4) ((hole l k x).map Int.ofNat) ∧ Hid (∀ a ∈ l.drop k, csK bs i < csK bs a) ∧ Below w.heap.size w wi) (fun s5 _ => (intOf s5).toNat)
    case atStart => exact ⟨i, i, Nat.le_refl _, rfl, R5, (by intro a ha; rw [List.drop_of_length_le (by omega)] at ha; cases ha), B5⟩
    case round =>
     clear R5 B5
     obtain ⟨k, x, hk, rfl, RI, GT, BI⟩ := hrel
     rename World => wi
     cases k with
     | zero =>
      go_upto_region 9 with fail
      refine wp_region_held_drew (S := Below wi.heap.size wi) (by kernel_rfl) ((Below.refl _ _).drew) (fun hHeld => ?_)
      have N : Below wi.heap.size wi wi.drew := hHeld
      revert hHeld N
      generalize wi.drew = ww0
      intro hHeld N
      refine takeA (i := 0) (h := ?_)
      refine takeA (i := 1) (h := ?_)
      refine takeA (i := 2) (h := ?_)
      refine takeN (i := 3) (gt rfl) (by kernel_rfl) (by kernel_rfl) (by kernel_rfl) (by exact fun _ _ _ h => h) (by rfl) (by assumption) ?_
      try simp only [Act.put, sA, sB, sC]
      refine takeN (i := 4) (gt rfl) (by kernel_rfl) (by kernel_rfl) (by kernel_rfl) (by exact fun _ _ _ h => h) (by rfl) (by assumption) ?_
      try simp only [Act.put, sA, sB, sC]
      refine takeN (i := 5) (gt rfl) (by kernel_rfl) (by kernel_rfl) (by kernel_rfl) (by exact fun _ _ _ h => h) (by rfl) (by assumption) ?_
      try simp only [Act.put, sA, sB, sC]
      refine takeN (i := 6) (gt rfl) (by kernel_rfl) (by kernel_rfl) (by kernel_rfl) (by exact fun _ _ _ h => h) (by rfl) (by assumption) ?_
      try simp only [Act.put, sA, sB, sC]
      refine takeN (i := 7) (gt rfl) (by kernel_rfl) (by kernel_rfl) (by kernel_rfl) (by exact fun _ _ _ h => h) (by rfl) (by assumption) ?_
      try simp only [Act.put, sA, sB, sC]
      refine takeN (i := 8) (gt rfl) (by kernel_rfl) (by kernel_rfl) (by kernel_rfl) (by exact fun _ _ _ h => h) (by rfl) (by assumption) ?_
      try simp only [Act.put, sA, sB, sC]
      refine takeN (i := 9) (gt rfl) (by kernel_rfl) (by kernel_rfl) (by kernel_rfl) (by exact fun _ _ _ h => h) (by rfl) (by assumption) ?_
      try simp only [Act.put, sA, sB, sC]
      refine takeN (i := 10) (gt rfl) (by kernel_rfl) (by kernel_rfl) (by kernel_rfl) (by exact fun _ _ _ h => h) (by rfl) (by assumption) ?_
      try simp only [Act.put, sA, sB, sC]
      refine takeN (i := 11) (gt rfl) (by kernel_rfl) (by kernel_rfl) (by kernel_rfl) (by exact fun _ _ _ h => h) (by rfl) (by assumption) ?_
      try simp only [Act.put, sA, sB, sC]
      refine takeN (i := 12) (gt rfl) (by kernel_rfl) (by kernel_rfl) (by kernel_rfl) (by exact fun _ _ _ h => h) (by rfl) (by assumption) ?_
      try simp only [Act.put, sA, sB, sC]
      refine takeN (i := 13) (gt rfl) (by kernel_rfl) (by kernel_rfl) (by kernel_rfl) (by exact fun _ _ _ h => h) (by rfl) (by assumption) ?_
      try simp only [Act.put, sA, sB, sC]
      refine takeN (i := 14) (gt rfl) (by kernel_rfl) (by kernel_rfl) (by kernel_rfl) (by exact fun _ _ _ h => h) (by rfl) (by assumption) ?_
      try simp only [Act.put, sA, sB, sC]
      refine takeN (i := 15) (gt rfl) (by kernel_rfl) (by kernel_rfl) (by kernel_rfl) (by exact fun _ _ _ h => h) (by rfl) (by assumption) ?_
      try simp only [Act.put, sA, sB, sC]
      refine takeN (i := 16) (gt rfl) (by kernel_rfl) (by kernel_rfl) (by kernel_rfl) (by exact fun _ _ _ h => h) (by rfl) (by assumption) ?_
      try simp only [Act.put, sA, sB, sC]
      refine takeN (i := 17) (gt rfl) (by kernel_rfl) (by kernel_rfl) (by kernel_rfl) (by exact fun _ _ _ h => h) (by rfl) (by assumption) ?_
      try simp only [Act.put, sA, sB, sC]
      refine takeA (i := 18) (h := ?_)
      refine wpAnyH_done (by kernel_rfl) ?_ _
      have NS : Srt (csK bs) (i + 1) (hole l 0 i) := SR.out.ins GT.out (fun a ha => by simp at ha)
      replace BI := BI.trans (N.mono BI.size)
      replace RI := RI.below N
      clear N
      have RP := RI.put 0 (i : Int)
      rw [hole_setI (by omega)] at RP
      obtain ⟨rx, rz⟩ := RI.at3 (j := 0) (by rw [List.length_map, hole_len]; omega)
      have rf : ww0.frozen? ⟨q, 0, none⟩ = false := RI.frozenAt 0
      have BJ := BI.setCell (p := ⟨q, 0, none⟩) ql (.int .i64 (i : Int))
      rw [List.length_map, hole_len, SL] at RP
      clear RI BI
      go_wp2
      go_roundw
      case rel => exact ⟨i + 1, hole l 0 i, by omega, by go_num, NS, (by first | exact RP | (rw [List.length_map, hole_len, SL]; exact RP) | (simp only [List.length_map, hole_len, SL] at RP ⊢; exact RP)), BJ⟩
      case measure => simp [intOf] <;> omega
     | succ k' =>
      obtain ⟨y, HYe⟩ : ∃ y, Hid (l[k']?.getD 0 = y) := ⟨_, rfl⟩
      have yi : y < i := by
       have hk'' : k' < l.length := by omega
       rw [← HYe.out, List.getElem?_eq_getElem hk'']
       exact SR.out.lt (List.getElem_mem hk'')
      have yn : y < bs.length := by omega
      obtain ⟨yy, HY⟩ : ∃ x, Hid (bxAt bs y = x) := ⟨_, rfl⟩
      obtain ⟨y1, y2, y3, y4⟩ := yy
      have KY : Hid (csK bs y = cvKey y1 y2 y3 y4) := by show _ = _; unfold csK; rw [HY.out]
      obtain ⟨b1, o1, rfl, hc⟩ := (h.below BI).cells (by intro e; rw [e] at hlt; simp at hlt)
      have F1 := hc y yn
      rw [HY.out] at F1
      obtain ⟨f0, f1, f2, f3⟩ := F1
      have F2 := hc i hlt
      rw [HX.out] at F2
      obtain ⟨g0, g1, g2, g3⟩ := F2
      dsimp only at f0 f1 f2 f3 g0 g1 g2 g3
      clear hc
      have r0 : wi.cell? ⟨q, k', none⟩ = some (.int .i64 (y : Int)) := by
       have h9 := RI.at' (j := k') (by rw [List.length_map, hole_len]; omega)
       rw [mapN_at, hole_at (by omega) (by omega), HYe.out] at h9
       exact h9
      have kk : ((k' + 1 : Nat) : Int) - 1 = (k' : Int) := by omega
      have wk : IntKind.i64.wrap (k' : Int) = (k' : Int) := by rw [IntKind.wrap_i64]; omega
      have wy : IntKind.i64.wrap (y : Int) = (y : Int) := by rw [IntKind.wrap_i64]; omega
      have wx : IntKind.i64.wrap (i : Int) = (i : Int) := by rw [IntKind.wrap_i64]; omega
      have bk : (k' : Int) < (i : Int) + 1 := by omega
      have yb : (y : Int) < (bs.length : Int) := by omega
      have ib : (i : Int) < (bs.length : Int) := by omega
      go_upto_region 9 with fail
      refine wp_region_held_drew (S := Below wi.heap.size wi) (by kernel_rfl) ((Below.refl _ _).drew) (fun hHeld => ?_)
      have N : Below wi.heap.size wi wi.drew := hHeld
      revert hHeld N
      generalize wi.drew = ww0
      intro hHeld N
      refine takeA (i := 0) (h := ?_)
      refine takeA (i := 1) (h := ?_)
      refine takeA (i := 2) (h := ?_)
      refine takeA (i := 3) (h := ?_)
      refine takeA (i := 4) (h := ?_)
      refine takeA (i := 5) (h := ?_)
      refine takeA (i := 6) (h := ?_)
      refine takeA (i := 7) (h := ?_)
      refine takeA (i := 8) (hy := by intro wq hSw; have q0 := bat hSw r0; have q1 := bat hSw f0; have q2 := bat hSw f1; have q3 := bat hSw f2; have q4 := bat hSw f3; have q5 := bat hSw g0; have q6 := bat hSw g1; have q7 := bat hSw g2; have q8 := bat hSw g3; go_simp <;> with_reducible rfl) (h := ?_)
      refine takeA (i := 9) (h := ?_)
      refine takeA (i := 10) (hy := by intro wq hSw; have q0 := bat hSw r0; have q1 := bat hSw f0; have q2 := bat hSw f1; have q3 := bat hSw f2; have q4 := bat hSw f3; have q5 := bat hSw g0; have q6 := bat hSw g1; have q7 := bat hSw g2; have q8 := bat hSw g3; go_simp <;> with_reducible rfl) (h := ?_)
      refine takeA (i := 12) (h := ?_)
      refine takeA (i := 13) (h := ?_)
      refine takeA (i := 14) (h := ?_)
      refine takeA (i := 15) (hy := by intro wq hSw; have q0 := bat hSw r0; have q1 := bat hSw f0; have q2 := bat hSw f1; have q3 := bat hSw f2; have q4 := bat hSw f3; have q5 := bat hSw g0; have q6 := bat hSw g1; have q7 := bat hSw g2; have q8 := bat hSw g3; go_simp <;> with_reducible rfl) (h := ?_)
      refine rdA (i := 11) (h := fun K hK => ?_)
      go_simp
      refine (specCurveKey y1 y2 y3 y4 _).mono ?_
      rintro e1 ww1 ⟨rfl, hb⟩
      replace N := N.trans (hb.mono N.size)
      clear hb
      refine hK.out _ _ N (fun hHeld => ?_)
      clear hK K
      try simp only [Act.put, sA, sB, sC]
      refine rdA (i := 16) (h := fun K hK => ?_)
      go_simp
      refine (specCurveKey x1 x2 x3 x4 _).mono ?_
      rintro e1 ww2 ⟨rfl, hb⟩
      replace N := N.trans (hb.mono N.size)
      clear hb
      refine hK.out _ _ N (fun hHeld => ?_)
      clear hK K
      try simp only [Act.put, sA, sB, sC]
      refine takeA (i := 17) (h := ?_)
      refine takeA (i := 18) (h := ?_)
      refine wpAnyH_done (by kernel_rfl) ?_ _
      by_cases hgt0 : cvKey x1 x2 x3 x4 < cvKey y1 y2 y3 y4
      ·have hgt : csK bs i < csK bs y := by rw [KI.out, KY.out]; exact hgt0
       have GD : ∀ a ∈ l.drop k', csK bs i < csK bs a := drop_gt (by omega) GT.out (by rw [HYe.out]; exact hgt)
       replace BI := BI.trans (N.mono BI.size)
       replace RI := RI.below N
       clear N
       have RP := RI.put (k' + 1) (y : Int)
       rw [hole_downI (by omega) HYe.out] at RP
       obtain ⟨rx, rz⟩ := RI.at3 (j := k' + 1) (by rw [List.length_map, hole_len]; omega)
       have rf : ww2.frozen? ⟨q, k' + 1, none⟩ = false := RI.frozenAt (k' + 1)
       have BJ := BI.setCell (p := ⟨q, k' + 1, none⟩) ql (.int .i64 (y : Int))
       rw [List.length_map, hole_len, SL] at RP
       have r9 : ww2.cell? ⟨q, k', none⟩ = some (.int .i64 (y : Int)) := by
        have h9 := RI.at' (j := k') (by rw [List.length_map, hole_len]; omega)
        rw [mapN_at, hole_at (by omega) (by omega), HYe.out] at h9
        exact h9
       clear RI BI f0 f1 f2 f3 g0 g1 g2 g3 r0
       go_wp2
       go_roundw
       case rel => exact ⟨k', y, by omega, by go_num, (by first | exact RP | (rw [List.length_map, hole_len, SL]; exact RP) | (simp only [List.length_map, hole_len, SL] at RP ⊢; exact RP)), GD, BJ⟩
       case measure => simp [intOf] <;> omega
      ·have hgt : ¬ csK bs i < csK bs y := by rw [KI.out, KY.out]; exact hgt0
       have NS : Srt (csK bs) (i + 1) (hole l (k' + 1) i) := SR.out.ins GT.out (SR.out.le (by omega) (by rw [HYe.out]; omega))
       clear f0 f1 f2 f3 g0 g1 g2 g3 r0
       replace BI := BI.trans (N.mono BI.size)
       replace RI := RI.below N
       clear N
       have RP := RI.put (k' + 1) (i : Int)
       rw [hole_setI (by omega)] at RP
       obtain ⟨rx, rz⟩ := RI.at3 (j := k' + 1) (by rw [List.length_map, hole_len]; omega)
       have rf : ww2.frozen? ⟨q, k' + 1, none⟩ = false := RI.frozenAt (k' + 1)
       have BJ := BI.setCell (p := ⟨q, k' + 1, none⟩) ql (.int .i64 (i : Int))
       rw [List.length_map, hole_len, SL] at RP
       clear RI BI
       go_wp2
       go_roundw
       case rel => exact ⟨i + 1, hole l (k' + 1) i, by omega, by go_num, NS, (by first | exact RP | (rw [List.length_map, hole_len, SL]; exact RP) | (simp only [List.length_map, hole_len, SL] at RP ⊢; exact RP)), BJ⟩
       case measure => simp [intOf] <;> omega
   ·obtain rfl : i = bs.length := by omega
    go_wp2
    go_ret
    exact ⟨_, rfl, l, R, CO.out l SR0, B⟩
 ·have CO : csOk bs [] := by unfold csOk; rw [if_neg hs]
  go_enter Tryz.func56, Tryz.ntmps56
  go_wp2
  go_ret
  exact ⟨_, rfl, [], R0, CO, B0⟩
end Go.Proofs.YtinlomcaagdbiaaGreat
