import Derived.Test.YtnjbedhealpgcaaGreatSpotI
import Derived.Test.YtnjbedhealpgcaaGreatLocI
import Derived.Laws.EntriesVeiled
import Derived.Deep.MidRow
import Derived.Test.YtnjbedhealpgcaaGreatGoodI
import Derived.Test.YtnjbedhealpgcaaGreatHeldQ
import Derived.Test.YtnjbedhealpgcaaGreatParL
import Derived.Test.YtnjbedhealpgcaaGreatGapM
import Derived.Lib.AppendZeros
/- Two shapes that are held against each other: of the program (edgesMeet, hasOneOf, oneHasOther, otherHasOne, areasMeet). -/
namespace Go.Proofs.YtnjbedhealpgcaaGreat
open Go.RowKit

structure Ext (w : World) (v1 v2 : Value) (es : List Sg) (sl : List (Int × Int)) : Prop where
 q : ∃ a c, v1 = .slice a es.length c ∧ SeesQ w a c es
 p : ∃ a c, v2 = .slice a sl.length c ∧ SeesP w a c sl
theorem Ext.below {w w' : World} {v1 v2 : Value} {es : List Sg} {sl : List (Int × Int)} (h : Ext w v1 v2 es sl) (hb : Below w.heap.size w w') : Ext w' v1 v2 es sl :=
 ⟨by obtain ⟨a, c, e, s⟩ := h.q; exact ⟨a, c, e, s.below hb⟩, by obtain ⟨a, c, e, s⟩ := h.p; exact ⟨a, c, e, s.below hb⟩⟩

set_option maxRecDepth 20000 in
set_option maxHeartbeats 1000000 in
theorem edgesMeet_any (v1 v2 v3 v4 : Value) (es fs : List Sg) (sl tl : List (Int × Int)) (w : World) (h : Ext w v1 v2 es sl) (k : Ext w v3 v4 fs tl) (oe : okQ es = true) (of : okQ fs = true) (f0 : 0 < fs.length) (f1 : fs.length ≤ 1000) :
  Calls Tryz.prog 74 #[.agg #[v1, v2, v3, v4]] w fun e w' => e = .returned (.bool (anyQ es fs)) ∧ Below w.heap.size w w' := by
 obtain ⟨a1, c1, rfl, S1⟩ := h.q
 obtain ⟨a3, c3, rfl, S3⟩ := k.q
 have B := below1 w (.cells #[.slice a1 es.length c1, v2, .slice a3 fs.length c3, v4] 85)
 have V := Box4.new w (lo := w.heap.size) (Nat.le_refl _) (.slice a1 es.length c1) v2 (.slice a3 fs.length c3) v4 85
 obtain ⟨k0, k1, k2, k3, _, _⟩ := id V
 replace S1 := S1.below B
 replace S3 := S3.below B
 clear h k
 go_enter Tryz.func74, Tryz.ntmps74
 have R1 := SeesR.one S3 54
 have bn := below1 (w.alloc (.cells #[.slice a1 es.length c1, v2, .slice a3 fs.length c3, v4] 85)) (.cells #[.slice a3 fs.length c3] 54)
 have M := firstMeetingR a1 _ c1 _ es [fs] _ (S1.below bn) R1 oe (by simpa using of) (by simp) (fun i hi => by
  obtain rfl : i = 0 := by simp at hi; omega
  exact ⟨f0, f1⟩)
 simp only [List.length_cons, List.length_nil, List.flatten_cons, List.flatten_nil, List.append_nil] at M
 rw [World.size_alloc] at M
 replace B := B.trans (bn.mono B.size)
 clear bn R1 S1 S3
 go_wp2_with fail
 refine M.mono ?_
 rintro e w1 ⟨z, rfl, HZ, hb⟩
 replace B := B.trans (hb.mono B.size)
 clear hb M
 go_wp2
 go_ret
 exact ⟨by rw [← HZ.out.1]; rfl, B⟩

set_option maxRecDepth 20000 in
theorem lacks_any (v1 v2 : Value) (es : List Sg) (sl : List (Int × Int)) (px py : Int) (w : World) (h : Ext w v1 v2 es sl) (ok : okQ es = true) (cx : Crd px) (cy : Crd py) :
  Calls Tryz.prog 137 #[.agg #[v1, v2], .agg #[.int .i64 px, .int .i64 py]] w fun e w' => e = .returned (.bool (decide (locQ es (px, py) = 0))) ∧ Below w.heap.size w w' := by
 obtain ⟨a1, c1, rfl, S1⟩ := h.q
 obtain ⟨a2, c2, rfl, S2⟩ := h.p
 have B := below2 w (.cells #[.slice a1 es.length c1, .slice a2 sl.length c2] 57) (.cells #[.int .i64 px, .int .i64 py] 38)
 replace S1 := S1.below B
 clear h S2
 obtain ⟨z, HZ⟩ : ∃ z, Hid (locQ es (px, py) = z) := ⟨_, rfl⟩
 rw [HZ.out]
 go_enter Tryz.func137, Tryz.ntmps137
 go_wp2_with fail
 refine (locate_any a1 a2 _ c1 c2 _ es px py _ rfl S1 ok cx cy).mono ?_
 rintro e w1 ⟨rfl, hb⟩
 replace B := B.trans (hb.mono B.size)
 clear hb
 rw [HZ.out]
 go_wp2
 go_ret
 exact ⟨rfl, B⟩

set_option maxRecDepth 20000 in
set_option maxHeartbeats 1000000 in
theorem indexHas (q : Nat) (f : Int × Int → Bool) (a : Option Addr) (c : Nat) (ps : List (Int × Int)) (w : World) (h : SeesP w a c ps) (HC : ∀ (W : World) (i : Nat), Below w.heap.size w W → i < ps.length → Calls Tryz.prog 136 #[.agg #[.int .i64 (ptA ps i).1, .int .i64 (ptA ps i).2], .pointer (some ⟨q, 0, none⟩)] W fun e w' => e = .returned (.bool (f (ptA ps i))) ∧ Below W.heap.size W w') :
  Calls Tryz.prog 132 #[.slice a ps.length c, .func (.func 136) #[] #[.pointer (some ⟨q, 0, none⟩)]] w fun e w' => ∃ k : Int, e = .returned (.int .i64 k) ∧ Hid (decide (0 ≤ k) = ps.any f) ∧ Below w.heap.size w w' := by
 have hm := h.max
 have hf := h.fits
 unfold maxLen at hm
 have HCH : Hid (∀ (W : World) (i : Nat), Below w.heap.size w W → i < ps.length → Calls Tryz.prog 136 #[.agg #[.int .i64 (ptA ps i).1, .int .i64 (ptA ps i).2], .pointer (some ⟨q, 0, none⟩)] W fun e w' => e = .returned (.bool (f (ptA ps i))) ∧ Below W.heap.size W w') := HC
 clear HC
 go_enter Tryz.func132, Tryz.ntmps132
 go_wp2
 go_loopw [8] (fun s8 wr => ∃ j : Nat, j ≤ ps.length ∧ s8 = .int .i64 j ∧ Hid ((ps.take j).any f = false) ∧ Below w.heap.size w wr) (fun s8 _ => ps.length - (intOf s8).toNat)
 case atStart => exact ⟨0, Nat.zero_le _, rfl, rfl, Below.refl _ _⟩
 case round =>
  obtain ⟨j, hj, rfl, hk, B⟩ := hrel
  rename World => wr
  by_cases hlt : j < ps.length
  ·obtain ⟨b1, o1, rfl, hc⟩ := (h.below B).cells (by intro e; simp [e] at hlt)
   obtain ⟨g1, g2⟩ := hc j hlt
   have CC := HCH.out wr j B hlt
   have HF : Hid (f (ptA ps j) = true → ps.any f = true) := fun e => List.any_eq_true.mpr ⟨_, ptA_mem hlt, e⟩
   have HN : Hid (f (ptA ps j) = false → (ps.take (j + 1)).any f = false) := fun e => by
    rw [takeS hlt, List.any_append, hk.out]
    show ([ptA ps j].any f) = false
    simp [e]
   rw [show (ps[j]?.getD (0, 0)) = ptA ps j from rfl] at g1 g2
   clear hc hk
   generalize (ptA ps j).1 = x at *
   generalize (ptA ps j).2 = y at *
   generalize f (ptA ps j) = ff at *
   cases ff
   ·have R := HN.out rfl
    clear HN HF
    go_wp2_with (go_at_call 136; refine CC.mono ?_; rintro e w2 ⟨rfl, hb⟩; replace B := B.trans (hb.mono B.size); clear hb)
    go_roundw
    case rel => exact ⟨j + 1, by omega, by go_num, R, B⟩
    case measure => simp [intOf]; omega
   ·have R := HF.out rfl
    have RH : Hid (ps.any f = true) := R
    clear HN HF R
    go_wp2_with (go_at_call 136; refine CC.mono ?_; rintro e w2 ⟨rfl, hb⟩; replace B := B.trans (hb.mono B.size); clear hb)
    go_ret
    exact ⟨j, rfl, (by show _ = _; rw [RH.out]; simp), B⟩
  ·obtain rfl : j = ps.length := by omega
   have F : Hid (ps.any f = false) := by have := hk.out; rwa [List.take_length] at this
   clear hk
   go_wp2
   go_ret
   exact ⟨-1, rfl, (by show _ = _; rw [F.out]; rfl), B⟩
set_option maxRecDepth 20000 in
theorem containsHas (q : Nat) (f : Int × Int → Bool) (a : Option Addr) (c : Nat) (ps : List (Int × Int)) (w : World) (h : SeesP w a c ps) (HC : ∀ (W : World) (i : Nat), Below w.heap.size w W → i < ps.length → Calls Tryz.prog 136 #[.agg #[.int .i64 (ptA ps i).1, .int .i64 (ptA ps i).2], .pointer (some ⟨q, 0, none⟩)] W fun e w' => e = .returned (.bool (f (ptA ps i))) ∧ Below W.heap.size W w') :
  Calls Tryz.prog 110 #[.slice a ps.length c, .func (.func 136) #[] #[.pointer (some ⟨q, 0, none⟩)]] w fun e w' => e = .returned (.bool (ps.any f)) ∧ Below w.heap.size w w' := by
 have C := indexHas q f a c ps w h HC
 clear HC
 go_enter Tryz.func110, Tryz.ntmps110
 go_wp2_with fail
 refine C.mono ?_
 rintro e w1 ⟨k, rfl, HK, hb⟩
 clear C
 go_wp2
 go_ret
 exact ⟨by rw [← HK.out]; rfl, hb⟩

set_option maxRecDepth 20000 in
theorem hasClosure (q : Nat) (v1 v2 : Value) (es : List Sg) (sl : List (Int × Int)) (px py : Int) (w : World) (V : w.cell? ⟨q, 0, none⟩ = some v1 ∧ w.cell? ⟨q, 1, none⟩ = some v2) (h : Ext w v1 v2 es sl) (ok : okQ es = true) (cx : Crd px) (cy : Crd py) :
  Calls Tryz.prog 136 #[.agg #[.int .i64 px, .int .i64 py], .pointer (some ⟨q, 0, none⟩)] w fun e w' => e = .returned (.bool (decide (locQ es (px, py) ≠ 0))) ∧ Below w.heap.size w w' := by
 have B := below1 w (.cells #[.int .i64 px, .int .i64 py] 38)
 have k0 := bat B V.1
 have k1 := bat B V.2
 have h' := h.below B
 have c0 := cell_new w #[.int .i64 px, .int .i64 py] 38 0 rfl
 have c1 := cell_new w #[.int .i64 px, .int .i64 py] 38 1 rfl
 obtain ⟨d, HD⟩ : ∃ d, Hid (decide (locQ es (px, py) = 0) = d) := ⟨_, rfl⟩
 rw [show decide (locQ es (px, py) ≠ 0) = !decide (locQ es (px, py) = 0) by simp, HD.out]
 go_enter Tryz.func136, Tryz.ntmps136
 go_wp2_with fail
 generalize w.alloc (.cells #[.int .i64 px, .int .i64 py] 38) = W at *
 refine (lacks_any v1 v2 es sl px py _ h' ok cx cy).mono ?_
 rintro e w1 ⟨rfl, hb⟩
 replace B := B.trans (hb.mono B.size)
 clear hb k0 k1 c0 c1
 rw [HD.out]
 go_wp2
 go_ret
 exact ⟨rfl, B⟩

def hasQ (es : List Sg) (l : List (Int × Int)) : Bool := l.any fun p => decide (locQ es p ≠ 0)
set_option maxRecDepth 20000 in
theorem hasOneOf_any (v1 v2 : Value) (es : List Sg) (sl : List (Int × Int)) (a : Option Addr) (c : Nat) (ps : List (Int × Int)) (w : World) (h : Ext w v1 v2 es sl) (k : SeesP w a c ps) (ok : okQ es = true) (okp : okL ps = true) :
  Calls Tryz.prog 114 #[.agg #[v1, v2], .slice a ps.length c] w fun e w' => e = .returned (.bool (hasQ es ps)) ∧ Below w.heap.size w w' := by
 have B := below1 w (.cells #[v1, v2] 57)
 have V := Box2.new w (lo := w.heap.size) (Nat.le_refl _) v1 v2 57
 have h' := h.below B
 have C := containsHas w.heap.size (fun p => decide (locQ es p ≠ 0)) a c ps _ (k.below B) (fun W i hb hi => by
  obtain ⟨cx, cy⟩ := okL_at okp hi
  exact hasClosure w.heap.size v1 v2 es sl (ptA ps i).1 (ptA ps i).2 W ⟨(V.below hb).c0, (V.below hb).c1⟩ (h'.below hb) ok cx cy)
 clear h h' k
 obtain ⟨bb, HBB⟩ : ∃ d, Hid (ps.any (fun p => decide (locQ es p ≠ 0)) = d) := ⟨_, rfl⟩
 rw [HBB.out] at C
 rw [show hasQ es ps = bb from HBB.out]
 go_enter Tryz.func114, Tryz.ntmps114
 go_wp2_with fail
 generalize w.alloc (.cells #[v1, v2] 57) = W at *
 refine C.mono ?_
 rintro e w1 ⟨rfl, hb⟩
 replace B := B.trans (hb.mono B.size)
 clear hb C
 go_wp2
 go_ret
 exact ⟨rfl, B⟩

set_option maxRecDepth 20000 in
set_option maxHeartbeats 1000000 in
theorem oneHasOther_any (v1 v2 v3 v4 : Value) (es fs : List Sg) (sl tl : List (Int × Int)) (w : World) (h : Ext w v1 v2 es sl) (k : Ext w v3 v4 fs tl) (oe : okQ es = true) (of : okQ fs = true) (ot : okL tl = true) (f0 : 0 < fs.length) (f1 : fs.length ≤ 1000) :
  Calls Tryz.prog 76 #[.agg #[v1, v2, v3, v4]] w fun e w' => e = .returned (.bool (anyQ es fs || hasQ es tl)) ∧ Below w.heap.size w w' := by
 have B := below1 w (.cells #[v1, v2, v3, v4] 85)
 have V := Box4.new w (lo := w.heap.size) (Nat.le_refl _) v1 v2 v3 v4 85
 obtain ⟨k0, k1, k2, k3, _, _⟩ := id V
 replace h := h.below B
 replace k := k.below B
 obtain ⟨x, HX⟩ : ∃ d, Hid (anyQ es fs = d) := ⟨_, rfl⟩
 obtain ⟨y, HY⟩ : ∃ d, Hid (hasQ es tl = d) := ⟨_, rfl⟩
 rw [HX.out, HY.out]
 cases x
 ·rw [Bool.false_or]
  go_enter Tryz.func76, Tryz.ntmps76
  go_wp2_with fail
  generalize w.alloc (.cells #[v1, v2, v3, v4] 85) = W at *
  refine (edgesMeet_any v1 v2 v3 v4 es fs sl tl _ h k oe of f0 f1).mono ?_
  rintro e w1 ⟨rfl, hb⟩
  rw [HX.out]
  replace B := B.trans (hb.mono B.size)
  replace V := V.below hb
  replace h := h.below hb
  replace k := k.below hb
  clear hb k0 k1 k2 k3
  obtain ⟨a4, c4, rfl, S4⟩ := k.p
  obtain ⟨k0, k1, k2, k3, _, _⟩ := id V
  go_wp2_with fail
  refine (hasOneOf_any v1 v2 es sl a4 c4 tl _ h S4 oe ot).mono ?_
  rintro e w2 ⟨rfl, hb⟩
  rw [HY.out]
  replace B := B.trans (hb.mono B.size)
  clear hb k0 k1 k2 k3
  go_wp2
  go_ret
  exact ⟨rfl, B⟩
 ·rw [Bool.true_or]
  go_enter Tryz.func76, Tryz.ntmps76
  go_wp2_with fail
  generalize w.alloc (.cells #[v1, v2, v3, v4] 85) = W at *
  refine (edgesMeet_any v1 v2 v3 v4 es fs sl tl _ h k oe of f0 f1).mono ?_
  rintro e w1 ⟨rfl, hb⟩
  rw [HX.out]
  replace B := B.trans (hb.mono B.size)
  clear hb k0 k1 k2 k3
  go_wp2
  go_ret
  exact ⟨rfl, B⟩
set_option maxRecDepth 20000 in
theorem otherHasOne_any (v1 v2 v3 v4 : Value) (es fs : List Sg) (sl tl : List (Int × Int)) (w : World) (h : Ext w v1 v2 es sl) (k : Ext w v3 v4 fs tl) (oe : okQ es = true) (of : okQ fs = true) (os : okL sl = true) (e0 : 0 < es.length) (e1 : es.length ≤ 1000) :
  Calls Tryz.prog 75 #[.agg #[v1, v2, v3, v4]] w fun e w' => e = .returned (.bool (anyQ fs es || hasQ fs sl)) ∧ Below w.heap.size w w' := by
 have B := below1 w (.cells #[v1, v2, v3, v4] 85)
 have V := Box4.new w (lo := w.heap.size) (Nat.le_refl _) v1 v2 v3 v4 85
 obtain ⟨k0, k1, k2, k3, _, _⟩ := id V
 replace h := h.below B
 replace k := k.below B
 obtain ⟨x, HX⟩ : ∃ d, Hid ((anyQ fs es || hasQ fs sl) = d) := ⟨_, rfl⟩
 rw [HX.out]
 go_enter Tryz.func75, Tryz.ntmps75
 go_wp2_with fail
 generalize w.alloc (.cells #[v1, v2, v3, v4] 85) = W at *
 refine (oneHasOther_any v3 v4 v1 v2 fs es tl sl _ k h of oe os e0 e1).mono ?_
 rintro e w1 ⟨rfl, hb⟩
 rw [HX.out]
 replace B := B.trans (hb.mono B.size)
 clear hb k0 k1 k2 k3
 go_wp2
 go_ret
 exact ⟨rfl, B⟩
set_option maxRecDepth 20000 in
set_option maxHeartbeats 1000000 in
theorem areasMeet_any (v1 v2 v3 v4 : Value) (es fs : List Sg) (sl tl : List (Int × Int)) (w : World) (h : Ext w v1 v2 es sl) (k : Ext w v3 v4 fs tl) (oe : okQ es = true) (of : okQ fs = true) (os : okL sl = true) (ot : okL tl = true) (f0 : 0 < fs.length) (f1 : fs.length ≤ 1000) :
  Calls Tryz.prog 77 #[.agg #[v1, v2, v3, v4]] w fun e w' => e = .returned (.bool ((anyQ es fs || hasQ es tl) || hasQ fs sl)) ∧ Below w.heap.size w w' := by
 have B := below1 w (.cells #[v1, v2, v3, v4] 85)
 have V := Box4.new w (lo := w.heap.size) (Nat.le_refl _) v1 v2 v3 v4 85
 obtain ⟨k0, k1, k2, k3, _, _⟩ := id V
 replace h := h.below B
 replace k := k.below B
 obtain ⟨x, HX⟩ : ∃ d, Hid ((anyQ es fs || hasQ es tl) = d) := ⟨_, rfl⟩
 obtain ⟨y, HY⟩ : ∃ d, Hid (hasQ fs sl = d) := ⟨_, rfl⟩
 rw [HX.out, HY.out]
 cases x
 ·rw [Bool.false_or]
  go_enter Tryz.func77, Tryz.ntmps77
  go_wp2_with fail
  generalize w.alloc (.cells #[v1, v2, v3, v4] 85) = W at *
  refine (oneHasOther_any v1 v2 v3 v4 es fs sl tl _ h k oe of ot f0 f1).mono ?_
  rintro e w1 ⟨rfl, hb⟩
  rw [HX.out]
  replace B := B.trans (hb.mono B.size)
  replace V := V.below hb
  replace h := h.below hb
  replace k := k.below hb
  clear hb k0 k1 k2 k3
  obtain ⟨a2, c2, rfl, S2⟩ := h.p
  obtain ⟨k0, k1, k2, k3, _, _⟩ := id V
  go_wp2_with fail
  refine (hasOneOf_any v3 v4 fs tl a2 c2 sl _ k S2 of os).mono ?_
  rintro e w2 ⟨rfl, hb⟩
  rw [HY.out]
  replace B := B.trans (hb.mono B.size)
  clear hb k0 k1 k2 k3
  go_wp2
  go_ret
  exact ⟨rfl, B⟩
 ·rw [Bool.true_or]
  go_enter Tryz.func77, Tryz.ntmps77
  go_wp2_with fail
  generalize w.alloc (.cells #[v1, v2, v3, v4] 85) = W at *
  refine (oneHasOther_any v1 v2 v3 v4 es fs sl tl _ h k oe of ot f0 f1).mono ?_
  rintro e w1 ⟨rfl, hb⟩
  rw [HX.out]
  replace B := B.trans (hb.mono B.size)
  clear hb k0 k1 k2 k3
  go_wp2
  go_ret
  exact ⟨rfl, B⟩

set_option maxRecDepth 20000 in
set_option maxHeartbeats 1000000 in
theorem indexShare (q : Nat) (f : Int × Int → Bool) (a : Option Addr) (c : Nat) (ps : List (Int × Int)) (w : World) (h : SeesP w a c ps) (HC : ∀ (W : World) (i : Nat), Below w.heap.size w W → i < ps.length → Calls Tryz.prog 111 #[.agg #[.int .i64 (ptA ps i).1, .int .i64 (ptA ps i).2], .pointer (some ⟨q, 0, none⟩)] W fun e w' => e = .returned (.bool (f (ptA ps i))) ∧ Below W.heap.size W w') :
  Calls Tryz.prog 132 #[.slice a ps.length c, .func (.func 111) #[] #[.pointer (some ⟨q, 0, none⟩)]] w fun e w' => ∃ k : Int, e = .returned (.int .i64 k) ∧ Hid (decide (0 ≤ k) = ps.any f) ∧ Below w.heap.size w w' := by
 have hm := h.max
 have hf := h.fits
 unfold maxLen at hm
 have HCH : Hid (∀ (W : World) (i : Nat), Below w.heap.size w W → i < ps.length → Calls Tryz.prog 111 #[.agg #[.int .i64 (ptA ps i).1, .int .i64 (ptA ps i).2], .pointer (some ⟨q, 0, none⟩)] W fun e w' => e = .returned (.bool (f (ptA ps i))) ∧ Below W.heap.size W w') := HC
 clear HC
 go_enter Tryz.func132, Tryz.ntmps132
 go_wp2
 go_loopw [8] (fun s8 wr => ∃ j : Nat, j ≤ ps.length ∧ s8 = .int .i64 j ∧ Hid ((ps.take j).any f = false) ∧ Below w.heap.size w wr) (fun s8 _ => ps.length - (intOf s8).toNat)
 case atStart => exact ⟨0, Nat.zero_le _, rfl, rfl, Below.refl _ _⟩
 case round =>
  obtain ⟨j, hj, rfl, hk, B⟩ := hrel
  rename World => wr
  by_cases hlt : j < ps.length
  ·obtain ⟨b1, o1, rfl, hc⟩ := (h.below B).cells (by intro e; simp [e] at hlt)
   obtain ⟨g1, g2⟩ := hc j hlt
   have CC := HCH.out wr j B hlt
   have HF : Hid (f (ptA ps j) = true → ps.any f = true) := fun e => List.any_eq_true.mpr ⟨_, ptA_mem hlt, e⟩
   have HN : Hid (f (ptA ps j) = false → (ps.take (j + 1)).any f = false) := fun e => by
    rw [takeS hlt, List.any_append, hk.out]
    show ([ptA ps j].any f) = false
    simp [e]
   rw [show (ps[j]?.getD (0, 0)) = ptA ps j from rfl] at g1 g2
   clear hc hk
   generalize (ptA ps j).1 = x at *
   generalize (ptA ps j).2 = y at *
   generalize f (ptA ps j) = ff at *
   cases ff
   ·have R := HN.out rfl
    clear HN HF
    go_wp2_with (go_at_call 111; refine CC.mono ?_; rintro e w2 ⟨rfl, hb⟩; replace B := B.trans (hb.mono B.size); clear hb)
    go_roundw
    case rel => exact ⟨j + 1, by omega, by go_num, R, B⟩
    case measure => simp [intOf]; omega
   ·have R := HF.out rfl
    have RH : Hid (ps.any f = true) := R
    clear HN HF R
    go_wp2_with (go_at_call 111; refine CC.mono ?_; rintro e w2 ⟨rfl, hb⟩; replace B := B.trans (hb.mono B.size); clear hb)
    go_ret
    exact ⟨j, rfl, (by show _ = _; rw [RH.out]; simp), B⟩
  ·obtain rfl : j = ps.length := by omega
   have F : Hid (ps.any f = false) := by have := hk.out; rwa [List.take_length] at this
   clear hk
   go_wp2
   go_ret
   exact ⟨-1, rfl, (by show _ = _; rw [F.out]; rfl), B⟩
set_option maxRecDepth 20000 in
theorem containsShare (q : Nat) (f : Int × Int → Bool) (a : Option Addr) (c : Nat) (ps : List (Int × Int)) (w : World) (h : SeesP w a c ps) (HC : ∀ (W : World) (i : Nat), Below w.heap.size w W → i < ps.length → Calls Tryz.prog 111 #[.agg #[.int .i64 (ptA ps i).1, .int .i64 (ptA ps i).2], .pointer (some ⟨q, 0, none⟩)] W fun e w' => e = .returned (.bool (f (ptA ps i))) ∧ Below W.heap.size W w') :
  Calls Tryz.prog 110 #[.slice a ps.length c, .func (.func 111) #[] #[.pointer (some ⟨q, 0, none⟩)]] w fun e w' => e = .returned (.bool (ps.any f)) ∧ Below w.heap.size w w' := by
 have C := indexShare q f a c ps w h HC
 clear HC
 go_enter Tryz.func110, Tryz.ntmps110
 go_wp2_with fail
 refine C.mono ?_
 rintro e w1 ⟨k, rfl, HK, hb⟩
 clear C
 go_wp2
 go_ret
 exact ⟨by rw [← HK.out]; rfl, hb⟩

set_option maxRecDepth 20000 in
set_option maxHeartbeats 2000000 in
theorem indexPt (x y : Int) (a : Option Addr) (c : Nat) (ps : List (Int × Int)) (w : World) (h : SeesP w a c ps) :
  Calls Tryz.prog 133 #[.slice a ps.length c, .agg #[.int .i64 x, .int .i64 y]] w fun e w' => ∃ k : Int, e = .returned (.int .i64 k) ∧ Hid (decide (0 ≤ k) = ps.any (fun q => decide ((x, y) = q))) ∧ Below w.heap.size w w' := by
 have hm := h.max
 have hf := h.fits
 unfold maxLen at hm
 have B0 := below1 w (.cells #[.int .i64 x, .int .i64 y] 38)
 have V := Box2.new w (lo := w.heap.size) (Nat.le_refl _) (.int .i64 x) (.int .i64 y) 38
 have SW := h.below B0
 go_enter Tryz.func133, Tryz.ntmps133
 go_wp2
 generalize w.alloc (.cells #[.int .i64 x, .int .i64 y] 38) = W at *
 go_loopw [8] (fun s8 wr => ∃ j : Nat, j ≤ ps.length ∧ s8 = .int .i64 j ∧ Hid ((ps.take j).any (fun q => decide ((x, y) = q)) = false) ∧ Below W.heap.size W wr) (fun s8 _ => ps.length - (intOf s8).toNat)
 case atStart => exact ⟨0, Nat.zero_le _, rfl, rfl, Below.refl _ _⟩
 case round =>
  obtain ⟨j, hj, rfl, hk, B⟩ := hrel
  rename World => wr
  by_cases hlt : j < ps.length
  ·obtain ⟨b1, o1, rfl, hc⟩ := SW.cells (by intro e; simp [e] at hlt)
   obtain ⟨g1, g2⟩ := hc j hlt
   have HF : Hid ((x, y) = ptA ps j → ps.any (fun q => decide ((x, y) = q)) = true) := fun e => List.any_eq_true.mpr ⟨_, ptA_mem hlt, decide_eq_true e⟩
   have HN : Hid ((x, y) ≠ ptA ps j → (ps.take (j + 1)).any (fun q => decide ((x, y) = q)) = false) := fun e => by
    rw [takeS hlt, List.any_append, hk.out]
    show ([ptA ps j].any fun q => decide ((x, y) = q)) = false
    simp [e]
   rw [show (ps[j]?.getD (0, 0)) = ptA ps j from rfl] at g1 g2
   clear hc hk
   have k0 : wr.cell? ⟨w.heap.size, 0, none⟩ = some (.int .i64 x) ∧ wr.cell? ⟨w.heap.size, 1, none⟩ = some (.int .i64 y) ∧ wr.cell? ⟨b1, o1 + j * 2, none⟩ = some (.int .i64 (ptA ps j).1) ∧ wr.cell? ⟨b1, o1 + j * 2 + 1, none⟩ = some (.int .i64 (ptA ps j).2) := ⟨(V.below B).c0, (V.below B).c1, bat B g1, bat B g2⟩
   generalize ptA ps j = r at *
   obtain ⟨u, v⟩ := r
   dsimp only at k0
   have B1 : Below wr.heap.size wr wr := Below.refl _ _
   clear g1 g2
   by_cases e1 : x = u
   ·subst e1
    by_cases e2 : y = v
    ·subst e2
     have R : Hid (ps.any (fun q => decide ((x, y) = q)) = true) := HF.out rfl
     clear HF HN
     go_wp2_with fail
     go_region_held3 (fun w' => w'.cell? ⟨w.heap.size, 0, none⟩ = some (.int .i64 x) ∧ w'.cell? ⟨w.heap.size, 1, none⟩ = some (.int .i64 y) ∧ w'.cell? ⟨b1, o1 + j * 2, none⟩ = some (.int .i64 x) ∧ w'.cell? ⟨b1, o1 + j * 2 + 1, none⟩ = some (.int .i64 y))
      (first | exact k0 | exact ⟨bat B1 k0.1, bat B1 k0.2.1, bat B1 k0.2.2.1, bat B1 k0.2.2.2⟩) (fail)
     all_goals
      go_wp2
      go_ret
      exact ⟨j, rfl, (by show _ = _; rw [R.out]; simp), B0.trans ((B.trans ((B1.drew).mono B.size)).mono B0.size)⟩
    ·have b2 : (y == v) = false := by simp [e2]
     have R := HN.out (by rw [ne_eq, Prod.mk.injEq]; exact fun q => e2 q.2)
     clear HF HN
     go_wp2_with fail
     go_region_held3 (fun w' => w'.cell? ⟨w.heap.size, 0, none⟩ = some (.int .i64 x) ∧ w'.cell? ⟨w.heap.size, 1, none⟩ = some (.int .i64 y) ∧ w'.cell? ⟨b1, o1 + j * 2, none⟩ = some (.int .i64 x) ∧ w'.cell? ⟨b1, o1 + j * 2 + 1, none⟩ = some (.int .i64 v))
      (first | exact k0 | exact ⟨bat B1 k0.1, bat B1 k0.2.1, bat B1 k0.2.2.1, bat B1 k0.2.2.2⟩) (fail)
     all_goals
      go_wp2
      go_roundw
      case rel => exact ⟨j + 1, by omega, by go_num, R, B.trans ((B1.drew).mono B.size)⟩
      case measure => simp [intOf]; omega
   ·have b1' : (x == u) = false := by simp [e1]
    have R := HN.out (by rw [ne_eq, Prod.mk.injEq]; exact fun q => e1 q.1)
    clear HF HN
    go_wp2_with fail
    go_region_held3 (fun w' => w'.cell? ⟨w.heap.size, 0, none⟩ = some (.int .i64 x) ∧ w'.cell? ⟨w.heap.size, 1, none⟩ = some (.int .i64 y) ∧ w'.cell? ⟨b1, o1 + j * 2, none⟩ = some (.int .i64 u) ∧ w'.cell? ⟨b1, o1 + j * 2 + 1, none⟩ = some (.int .i64 v))
     (first | exact k0 | exact ⟨bat B1 k0.1, bat B1 k0.2.1, bat B1 k0.2.2.1, bat B1 k0.2.2.2⟩) (fail)
    all_goals
     go_wp2
     go_roundw
     case rel => exact ⟨j + 1, by omega, by go_num, R, B.trans ((B1.drew).mono B.size)⟩
     case measure => simp [intOf]; omega
  ·obtain rfl : j = ps.length := by omega
   have F : Hid (ps.any (fun q => decide ((x, y) = q)) = false) := by have := hk.out; rwa [List.take_length] at this
   clear hk
   go_wp2
   go_ret
   exact ⟨-1, rfl, (by show _ = _; rw [F.out]; rfl), B0.trans (B.mono B0.size)⟩
set_option maxRecDepth 20000 in
theorem containsPt (x y : Int) (a : Option Addr) (c : Nat) (ps : List (Int × Int)) (w : World) (h : SeesP w a c ps) :
  Calls Tryz.prog 112 #[.slice a ps.length c, .agg #[.int .i64 x, .int .i64 y]] w fun e w' => e = .returned (.bool (ps.any (fun q => decide ((x, y) = q)))) ∧ Below w.heap.size w w' := by
 have B := below1 w (.cells #[.int .i64 x, .int .i64 y] 38)
 have S := h.below B
 go_enter Tryz.func112, Tryz.ntmps112
 go_wp2_with fail
 refine (indexPt x y a c ps _ S).mono ?_
 rintro e w1 ⟨k, rfl, HK, hb⟩
 replace B := B.trans (hb.mono B.size)
 clear hb S h
 go_wp2
 go_ret
 exact ⟨by rw [← HK.out]; rfl, B⟩
set_option maxRecDepth 20000 in
theorem shareClosure (q : Nat) (v1 v2 v3 v4 : Value) (tl : List (Int × Int)) (px py : Int) (w : World) (V : Box4 0 w q v1 v2 v3 v4) (h : ∃ a c, v4 = .slice a tl.length c ∧ SeesP w a c tl) :
  Calls Tryz.prog 111 #[.agg #[.int .i64 px, .int .i64 py], .pointer (some ⟨q, 0, none⟩)] w fun e w' => e = .returned (.bool (tl.any (fun r => decide ((px, py) = r)))) ∧ Below w.heap.size w w' := by
 obtain ⟨a4, c4, rfl, S4⟩ := h
 have B := below1 w (.cells #[.int .i64 px, .int .i64 py] 38)
 replace V := V.below B
 replace S4 := S4.below B
 obtain ⟨k0, k1, k2, k3, _, _⟩ := id V
 have c0 := cell_new w #[.int .i64 px, .int .i64 py] 38 0 rfl
 have c1 := cell_new w #[.int .i64 px, .int .i64 py] 38 1 rfl
 obtain ⟨x, HX⟩ : ∃ d, Hid (tl.any (fun r => decide ((px, py) = r)) = d) := ⟨_, rfl⟩
 rw [HX.out]
 go_enter Tryz.func111, Tryz.ntmps111
 go_wp2_with fail
 generalize w.alloc (.cells #[.int .i64 px, .int .i64 py] 38) = W at *
 refine (containsPt px py a4 c4 tl _ S4).mono ?_
 rintro e w1 ⟨rfl, hb⟩
 rw [HX.out]
 replace B := B.trans (hb.mono B.size)
 clear hb k0 k1 k2 k3 c0 c1
 go_wp2
 go_ret
 exact ⟨rfl, B⟩
set_option maxRecDepth 20000 in
theorem shareStart_any (v1 v2 v3 v4 : Value) (es fs : List Sg) (sl tl : List (Int × Int)) (w : World) (h : Ext w v1 v2 es sl) (k : Ext w v3 v4 fs tl) :
  Calls Tryz.prog 73 #[.agg #[v1, v2, v3, v4]] w fun e w' => e = .returned (.bool (sl.any (fun p => tl.any (fun q => decide (p = q))))) ∧ Below w.heap.size w w' := by
 obtain ⟨a2, c2, rfl, S2⟩ := h.p
 have B := below1 w (.cells #[v1, .slice a2 sl.length c2, v3, v4] 85)
 have V := Box4.new w (lo := 0) (by omega) v1 (.slice a2 sl.length c2) v3 v4 85
 obtain ⟨k0, k1, k2, k3, _, _⟩ := id V
 have k' := k.below B
 have C := containsShare w.heap.size (fun p => tl.any (fun q => decide (p = q))) a2 c2 sl _ (S2.below B) (fun W i hb hi => shareClosure w.heap.size v1 (.slice a2 sl.length c2) v3 v4 tl (ptA sl i).1 (ptA sl i).2 W (V.below hb) (k'.below hb).p)
 obtain ⟨x, HX⟩ : ∃ d, Hid (sl.any (fun p => tl.any (fun q => decide (p = q))) = d) := ⟨_, rfl⟩
 rw [HX.out] at C ⊢
 clear k k' h S2
 go_enter Tryz.func73, Tryz.ntmps73
 go_wp2_with fail
 generalize w.alloc (.cells #[v1, .slice a2 sl.length c2, v3, v4] 85) = W at *
 refine C.mono ?_
 rintro e w1 ⟨rfl, hb⟩
 replace B := B.trans (hb.mono B.size)
 clear hb C k0 k1 k2 k3
 go_wp2
 go_ret
 exact ⟨rfl, B⟩
open Go.RowKit
def BoxL (w : World) (p : Nat) (l : List Value) : Prop := (∀ i v, l[i]? = some v → w.cell? ⟨p, i, none⟩ = some v) ∧ ∀ o, w.frozen? ⟨p, o, none⟩ = false
theorem BoxL.new (w : World) (l : List Value) (t : TypeId) : BoxL (w.alloc (.cells l.toArray t)) w.heap.size l :=
 ⟨fun i v h => cell_new w l.toArray t i (by simpa using h), fun o => frozen_new _ _ _ o⟩
theorem BoxL.lt {w : World} {p : Nat} {v : Value} {l : List Value} (h : BoxL w p (v :: l)) : p < w.heap.size := World.block_lt_of_cell? _ _ (h.1 0 v rfl)
theorem BoxL.below {w w' : World} {p : Nat} {v : Value} {l : List Value} (h : BoxL w p (v :: l)) (hb : Below w.heap.size w w') : BoxL w' p (v :: l) :=
 ⟨fun i u e => by
  have hl := h.lt
  exact bat hb (h.1 i u e), fun o => (hb.frozen (p := ⟨p, o, none⟩) h.lt).trans (h.2 o)⟩
theorem below_setCells {b p : Nat} {W : World} (hp : b ≤ p) (vs : List Value) : ∀ (w : World) (i : Nat), Below b W w → Below b W (w.setCells p i vs) := by
 induction vs with
 | nil => intro w i h; exact h
 | cons v vs ih => intro w i h; exact ih _ _ (h.setCell (p := ⟨p, i, none⟩) hp v)
theorem BoxL.range {w : World} {p : Nat} {l : List Value} (h : BoxL w p l) : w.rangeAt p 0 l := fun j v hv => by rw [Nat.zero_add]; exact h.1 j v hv
theorem BoxL.there {w : World} {p : Nat} {l : List Value} (h : BoxL w p l) : w.there p 0 l.length := fun j hj => by rw [Nat.zero_add]; exact ⟨by rw [h.1 j l[j] (by simp)]; rfl, h.2 j⟩

set_option maxRecDepth 20000 in
theorem meetings_world (w : World) : BoxL ((((w.alloc (.cells #[Value.nilFunc, Value.nilFunc, Value.nilFunc, Value.nilFunc, Value.nilFunc, Value.nilFunc, Value.nilFunc, Value.nilFunc, Value.nilFunc, Value.nilFunc, Value.nilFunc, Value.nilFunc, Value.nilFunc, Value.nilFunc, Value.nilFunc, Value.nilFunc, Value.nilFunc, Value.nilFunc, Value.nilFunc, Value.nilFunc, Value.nilFunc, Value.nilFunc, Value.nilFunc, Value.nilFunc, Value.nilFunc, Value.nilFunc, Value.nilFunc, Value.nilFunc, Value.nilFunc, Value.nilFunc, Value.nilFunc, Value.nilFunc, Value.nilFunc, Value.nilFunc, Value.nilFunc, Value.nilFunc] 82)).alloc (.cells #[Value.nilFunc, Value.func (Fn.func 73) #[] #[], Value.func (Fn.func 73) #[] #[], Value.func (Fn.func 74) #[] #[], Value.func (Fn.func 74) #[] #[], Value.func (Fn.func 75) #[] #[]] 81)).alloc (.cells #[Value.nilFunc, Value.func (Fn.func 74) #[] #[], Value.func (Fn.func 74) #[] #[], Value.func (Fn.func 74) #[] #[], Value.func (Fn.func 74) #[] #[], Value.func (Fn.func 75) #[] #[]] 81)).alloc (.cells #[Value.nilFunc, Value.func (Fn.func 76) #[] #[], Value.func (Fn.func 76) #[] #[], Value.func (Fn.func 76) #[] #[], Value.func (Fn.func 76) #[] #[], Value.func (Fn.func 77) #[] #[]] 81)) w.heap.size [Value.nilFunc, Value.nilFunc, Value.nilFunc, Value.nilFunc, Value.nilFunc, Value.nilFunc, Value.nilFunc, Value.nilFunc, Value.nilFunc, Value.nilFunc, Value.nilFunc, Value.nilFunc, Value.nilFunc, Value.nilFunc, Value.nilFunc, Value.nilFunc, Value.nilFunc, Value.nilFunc, Value.nilFunc, Value.nilFunc, Value.nilFunc, Value.nilFunc, Value.nilFunc, Value.nilFunc, Value.nilFunc, Value.nilFunc, Value.nilFunc, Value.nilFunc, Value.nilFunc, Value.nilFunc, Value.nilFunc, Value.nilFunc, Value.nilFunc, Value.nilFunc, Value.nilFunc, Value.nilFunc] ∧ BoxL ((((w.alloc (.cells #[Value.nilFunc, Value.nilFunc, Value.nilFunc, Value.nilFunc, Value.nilFunc, Value.nilFunc, Value.nilFunc, Value.nilFunc, Value.nilFunc, Value.nilFunc, Value.nilFunc, Value.nilFunc, Value.nilFunc, Value.nilFunc, Value.nilFunc, Value.nilFunc, Value.nilFunc, Value.nilFunc, Value.nilFunc, Value.nilFunc, Value.nilFunc, Value.nilFunc, Value.nilFunc, Value.nilFunc, Value.nilFunc, Value.nilFunc, Value.nilFunc, Value.nilFunc, Value.nilFunc, Value.nilFunc, Value.nilFunc, Value.nilFunc, Value.nilFunc, Value.nilFunc, Value.nilFunc, Value.nilFunc] 82)).alloc (.cells #[Value.nilFunc, Value.func (Fn.func 73) #[] #[], Value.func (Fn.func 73) #[] #[], Value.func (Fn.func 74) #[] #[], Value.func (Fn.func 74) #[] #[], Value.func (Fn.func 75) #[] #[]] 81)).alloc (.cells #[Value.nilFunc, Value.func (Fn.func 74) #[] #[], Value.func (Fn.func 74) #[] #[], Value.func (Fn.func 74) #[] #[], Value.func (Fn.func 74) #[] #[], Value.func (Fn.func 75) #[] #[]] 81)).alloc (.cells #[Value.nilFunc, Value.func (Fn.func 76) #[] #[], Value.func (Fn.func 76) #[] #[], Value.func (Fn.func 76) #[] #[], Value.func (Fn.func 76) #[] #[], Value.func (Fn.func 77) #[] #[]] 81)) (w.heap.size + 1) [Value.nilFunc, Value.func (Fn.func 73) #[] #[], Value.func (Fn.func 73) #[] #[], Value.func (Fn.func 74) #[] #[], Value.func (Fn.func 74) #[] #[], Value.func (Fn.func 75) #[] #[]] ∧ BoxL ((((w.alloc (.cells #[Value.nilFunc, Value.nilFunc, Value.nilFunc, Value.nilFunc, Value.nilFunc, Value.nilFunc, Value.nilFunc, Value.nilFunc, Value.nilFunc, Value.nilFunc, Value.nilFunc, Value.nilFunc, Value.nilFunc, Value.nilFunc, Value.nilFunc, Value.nilFunc, Value.nilFunc, Value.nilFunc, Value.nilFunc, Value.nilFunc, Value.nilFunc, Value.nilFunc, Value.nilFunc, Value.nilFunc, Value.nilFunc, Value.nilFunc, Value.nilFunc, Value.nilFunc, Value.nilFunc, Value.nilFunc, Value.nilFunc, Value.nilFunc, Value.nilFunc, Value.nilFunc, Value.nilFunc, Value.nilFunc] 82)).alloc (.cells #[Value.nilFunc, Value.func (Fn.func 73) #[] #[], Value.func (Fn.func 73) #[] #[], Value.func (Fn.func 74) #[] #[], Value.func (Fn.func 74) #[] #[], Value.func (Fn.func 75) #[] #[]] 81)).alloc (.cells #[Value.nilFunc, Value.func (Fn.func 74) #[] #[], Value.func (Fn.func 74) #[] #[], Value.func (Fn.func 74) #[] #[], Value.func (Fn.func 74) #[] #[], Value.func (Fn.func 75) #[] #[]] 81)).alloc (.cells #[Value.nilFunc, Value.func (Fn.func 76) #[] #[], Value.func (Fn.func 76) #[] #[], Value.func (Fn.func 76) #[] #[], Value.func (Fn.func 76) #[] #[], Value.func (Fn.func 77) #[] #[]] 81)) (w.heap.size + 1 + 1) [Value.nilFunc, Value.func (Fn.func 74) #[] #[], Value.func (Fn.func 74) #[] #[], Value.func (Fn.func 74) #[] #[], Value.func (Fn.func 74) #[] #[], Value.func (Fn.func 75) #[] #[]] ∧ BoxL ((((w.alloc (.cells #[Value.nilFunc, Value.nilFunc, Value.nilFunc, Value.nilFunc, Value.nilFunc, Value.nilFunc, Value.nilFunc, Value.nilFunc, Value.nilFunc, Value.nilFunc, Value.nilFunc, Value.nilFunc, Value.nilFunc, Value.nilFunc, Value.nilFunc, Value.nilFunc, Value.nilFunc, Value.nilFunc, Value.nilFunc, Value.nilFunc, Value.nilFunc, Value.nilFunc, Value.nilFunc, Value.nilFunc, Value.nilFunc, Value.nilFunc, Value.nilFunc, Value.nilFunc, Value.nilFunc, Value.nilFunc, Value.nilFunc, Value.nilFunc, Value.nilFunc, Value.nilFunc, Value.nilFunc, Value.nilFunc] 82)).alloc (.cells #[Value.nilFunc, Value.func (Fn.func 73) #[] #[], Value.func (Fn.func 73) #[] #[], Value.func (Fn.func 74) #[] #[], Value.func (Fn.func 74) #[] #[], Value.func (Fn.func 75) #[] #[]] 81)).alloc (.cells #[Value.nilFunc, Value.func (Fn.func 74) #[] #[], Value.func (Fn.func 74) #[] #[], Value.func (Fn.func 74) #[] #[], Value.func (Fn.func 74) #[] #[], Value.func (Fn.func 75) #[] #[]] 81)).alloc (.cells #[Value.nilFunc, Value.func (Fn.func 76) #[] #[], Value.func (Fn.func 76) #[] #[], Value.func (Fn.func 76) #[] #[], Value.func (Fn.func 76) #[] #[], Value.func (Fn.func 77) #[] #[]] 81)) (w.heap.size + 1 + 1 + 1) [Value.nilFunc, Value.func (Fn.func 76) #[] #[], Value.func (Fn.func 76) #[] #[], Value.func (Fn.func 76) #[] #[], Value.func (Fn.func 76) #[] #[], Value.func (Fn.func 77) #[] #[]] ∧ Below w.heap.size w ((((w.alloc (.cells #[Value.nilFunc, Value.nilFunc, Value.nilFunc, Value.nilFunc, Value.nilFunc, Value.nilFunc, Value.nilFunc, Value.nilFunc, Value.nilFunc, Value.nilFunc, Value.nilFunc, Value.nilFunc, Value.nilFunc, Value.nilFunc, Value.nilFunc, Value.nilFunc, Value.nilFunc, Value.nilFunc, Value.nilFunc, Value.nilFunc, Value.nilFunc, Value.nilFunc, Value.nilFunc, Value.nilFunc, Value.nilFunc, Value.nilFunc, Value.nilFunc, Value.nilFunc, Value.nilFunc, Value.nilFunc, Value.nilFunc, Value.nilFunc, Value.nilFunc, Value.nilFunc, Value.nilFunc, Value.nilFunc] 82)).alloc (.cells #[Value.nilFunc, Value.func (Fn.func 73) #[] #[], Value.func (Fn.func 73) #[] #[], Value.func (Fn.func 74) #[] #[], Value.func (Fn.func 74) #[] #[], Value.func (Fn.func 75) #[] #[]] 81)).alloc (.cells #[Value.nilFunc, Value.func (Fn.func 74) #[] #[], Value.func (Fn.func 74) #[] #[], Value.func (Fn.func 74) #[] #[], Value.func (Fn.func 74) #[] #[], Value.func (Fn.func 75) #[] #[]] 81)).alloc (.cells #[Value.nilFunc, Value.func (Fn.func 76) #[] #[], Value.func (Fn.func 76) #[] #[], Value.func (Fn.func 76) #[] #[], Value.func (Fn.func 76) #[] #[], Value.func (Fn.func 77) #[] #[]] 81)) := by
 have T0 := BoxL.new w [Value.nilFunc, Value.nilFunc, Value.nilFunc, Value.nilFunc, Value.nilFunc, Value.nilFunc, Value.nilFunc, Value.nilFunc, Value.nilFunc, Value.nilFunc, Value.nilFunc, Value.nilFunc, Value.nilFunc, Value.nilFunc, Value.nilFunc, Value.nilFunc, Value.nilFunc, Value.nilFunc, Value.nilFunc, Value.nilFunc, Value.nilFunc, Value.nilFunc, Value.nilFunc, Value.nilFunc, Value.nilFunc, Value.nilFunc, Value.nilFunc, Value.nilFunc, Value.nilFunc, Value.nilFunc, Value.nilFunc, Value.nilFunc, Value.nilFunc, Value.nilFunc, Value.nilFunc, Value.nilFunc] 82
 have B0 := below1 w (.cells #[Value.nilFunc, Value.nilFunc, Value.nilFunc, Value.nilFunc, Value.nilFunc, Value.nilFunc, Value.nilFunc, Value.nilFunc, Value.nilFunc, Value.nilFunc, Value.nilFunc, Value.nilFunc, Value.nilFunc, Value.nilFunc, Value.nilFunc, Value.nilFunc, Value.nilFunc, Value.nilFunc, Value.nilFunc, Value.nilFunc, Value.nilFunc, Value.nilFunc, Value.nilFunc, Value.nilFunc, Value.nilFunc, Value.nilFunc, Value.nilFunc, Value.nilFunc, Value.nilFunc, Value.nilFunc, Value.nilFunc, Value.nilFunc, Value.nilFunc, Value.nilFunc, Value.nilFunc, Value.nilFunc] 82)
 have z0 := World.size_alloc w (.cells #[Value.nilFunc, Value.nilFunc, Value.nilFunc, Value.nilFunc, Value.nilFunc, Value.nilFunc, Value.nilFunc, Value.nilFunc, Value.nilFunc, Value.nilFunc, Value.nilFunc, Value.nilFunc, Value.nilFunc, Value.nilFunc, Value.nilFunc, Value.nilFunc, Value.nilFunc, Value.nilFunc, Value.nilFunc, Value.nilFunc, Value.nilFunc, Value.nilFunc, Value.nilFunc, Value.nilFunc, Value.nilFunc, Value.nilFunc, Value.nilFunc, Value.nilFunc, Value.nilFunc, Value.nilFunc, Value.nilFunc, Value.nilFunc, Value.nilFunc, Value.nilFunc, Value.nilFunc, Value.nilFunc] 82)
 generalize (w.alloc (.cells #[Value.nilFunc, Value.nilFunc, Value.nilFunc, Value.nilFunc, Value.nilFunc, Value.nilFunc, Value.nilFunc, Value.nilFunc, Value.nilFunc, Value.nilFunc, Value.nilFunc, Value.nilFunc, Value.nilFunc, Value.nilFunc, Value.nilFunc, Value.nilFunc, Value.nilFunc, Value.nilFunc, Value.nilFunc, Value.nilFunc, Value.nilFunc, Value.nilFunc, Value.nilFunc, Value.nilFunc, Value.nilFunc, Value.nilFunc, Value.nilFunc, Value.nilFunc, Value.nilFunc, Value.nilFunc, Value.nilFunc, Value.nilFunc, Value.nilFunc, Value.nilFunc, Value.nilFunc, Value.nilFunc] 82)) = W at *
 have T1 := BoxL.new W [Value.nilFunc, Value.func (Fn.func 73) #[] #[], Value.func (Fn.func 73) #[] #[], Value.func (Fn.func 74) #[] #[], Value.func (Fn.func 74) #[] #[], Value.func (Fn.func 75) #[] #[]] 81
 have b := below1 W (.cells #[Value.nilFunc, Value.func (Fn.func 73) #[] #[], Value.func (Fn.func 73) #[] #[], Value.func (Fn.func 74) #[] #[], Value.func (Fn.func 74) #[] #[], Value.func (Fn.func 75) #[] #[]] 81)
 have z := World.size_alloc W (.cells #[Value.nilFunc, Value.func (Fn.func 73) #[] #[], Value.func (Fn.func 73) #[] #[], Value.func (Fn.func 74) #[] #[], Value.func (Fn.func 74) #[] #[], Value.func (Fn.func 75) #[] #[]] 81)
 rw [z0] at T1 z
 replace T0 := BoxL.below T0 b
 replace B0 := B0.trans (b.mono B0.size)
 generalize W.alloc (.cells #[Value.nilFunc, Value.func (Fn.func 73) #[] #[], Value.func (Fn.func 73) #[] #[], Value.func (Fn.func 74) #[] #[], Value.func (Fn.func 74) #[] #[], Value.func (Fn.func 75) #[] #[]] 81) = W' at *
 clear b z0
 rename World => W
 rename _ = _ => z1
 have T2 := BoxL.new W [Value.nilFunc, Value.func (Fn.func 74) #[] #[], Value.func (Fn.func 74) #[] #[], Value.func (Fn.func 74) #[] #[], Value.func (Fn.func 74) #[] #[], Value.func (Fn.func 75) #[] #[]] 81
 have b := below1 W (.cells #[Value.nilFunc, Value.func (Fn.func 74) #[] #[], Value.func (Fn.func 74) #[] #[], Value.func (Fn.func 74) #[] #[], Value.func (Fn.func 74) #[] #[], Value.func (Fn.func 75) #[] #[]] 81)
 have z := World.size_alloc W (.cells #[Value.nilFunc, Value.func (Fn.func 74) #[] #[], Value.func (Fn.func 74) #[] #[], Value.func (Fn.func 74) #[] #[], Value.func (Fn.func 74) #[] #[], Value.func (Fn.func 75) #[] #[]] 81)
 rw [z1] at T2 z
 replace T0 := BoxL.below T0 b
 replace T1 := BoxL.below T1 b
 replace B0 := B0.trans (b.mono B0.size)
 generalize W.alloc (.cells #[Value.nilFunc, Value.func (Fn.func 74) #[] #[], Value.func (Fn.func 74) #[] #[], Value.func (Fn.func 74) #[] #[], Value.func (Fn.func 74) #[] #[], Value.func (Fn.func 75) #[] #[]] 81) = W' at *
 clear b z1
 rename World => W
 rename _ = _ => z2
 have T3 := BoxL.new W [Value.nilFunc, Value.func (Fn.func 76) #[] #[], Value.func (Fn.func 76) #[] #[], Value.func (Fn.func 76) #[] #[], Value.func (Fn.func 76) #[] #[], Value.func (Fn.func 77) #[] #[]] 81
 have b := below1 W (.cells #[Value.nilFunc, Value.func (Fn.func 76) #[] #[], Value.func (Fn.func 76) #[] #[], Value.func (Fn.func 76) #[] #[], Value.func (Fn.func 76) #[] #[], Value.func (Fn.func 77) #[] #[]] 81)
 have z := World.size_alloc W (.cells #[Value.nilFunc, Value.func (Fn.func 76) #[] #[], Value.func (Fn.func 76) #[] #[], Value.func (Fn.func 76) #[] #[], Value.func (Fn.func 76) #[] #[], Value.func (Fn.func 77) #[] #[]] 81)
 rw [z2] at T3 z
 replace T0 := BoxL.below T0 b
 replace T1 := BoxL.below T1 b
 replace T2 := BoxL.below T2 b
 replace B0 := B0.trans (b.mono B0.size)
 generalize W.alloc (.cells #[Value.nilFunc, Value.func (Fn.func 76) #[] #[], Value.func (Fn.func 76) #[] #[], Value.func (Fn.func 76) #[] #[], Value.func (Fn.func 76) #[] #[], Value.func (Fn.func 77) #[] #[]] 81) = W' at *
 clear b z2
 rename World => W
 rename _ = _ => z3
 exact ⟨T0, T1, T2, T3, B0⟩
set_option maxRecDepth 20000 in
set_option maxHeartbeats 1000000 in
theorem meetings_any (w : World) :
  Calls Tryz.prog 45 #[] w fun e w' => e = .returned (Value.agg #[Value.nilFunc, Value.nilFunc, Value.nilFunc, Value.nilFunc, Value.nilFunc, Value.nilFunc, Value.nilFunc, Value.func (Fn.func 73) #[] #[], Value.func (Fn.func 73) #[] #[], Value.func (Fn.func 74) #[] #[], Value.func (Fn.func 74) #[] #[], Value.func (Fn.func 75) #[] #[], Value.nilFunc, Value.func (Fn.func 73) #[] #[], Value.func (Fn.func 73) #[] #[], Value.func (Fn.func 74) #[] #[], Value.func (Fn.func 74) #[] #[], Value.func (Fn.func 75) #[] #[], Value.nilFunc, Value.func (Fn.func 74) #[] #[], Value.func (Fn.func 74) #[] #[], Value.func (Fn.func 74) #[] #[], Value.func (Fn.func 74) #[] #[], Value.func (Fn.func 75) #[] #[], Value.nilFunc, Value.func (Fn.func 74) #[] #[], Value.func (Fn.func 74) #[] #[], Value.func (Fn.func 74) #[] #[], Value.func (Fn.func 74) #[] #[], Value.func (Fn.func 75) #[] #[], Value.nilFunc, Value.func (Fn.func 76) #[] #[], Value.func (Fn.func 76) #[] #[], Value.func (Fn.func 76) #[] #[], Value.func (Fn.func 76) #[] #[], Value.func (Fn.func 77) #[] #[]]) ∧ Below w.heap.size w w' := by
 obtain ⟨T0, T1, T2, T3, B⟩ := meetings_world w
 go_enter Tryz.func45, Tryz.ntmps45
 go_upto_region 4 with fail
 generalize ((((w.alloc (.cells #[Value.nilFunc, Value.nilFunc, Value.nilFunc, Value.nilFunc, Value.nilFunc, Value.nilFunc, Value.nilFunc, Value.nilFunc, Value.nilFunc, Value.nilFunc, Value.nilFunc, Value.nilFunc, Value.nilFunc, Value.nilFunc, Value.nilFunc, Value.nilFunc, Value.nilFunc, Value.nilFunc, Value.nilFunc, Value.nilFunc, Value.nilFunc, Value.nilFunc, Value.nilFunc, Value.nilFunc, Value.nilFunc, Value.nilFunc, Value.nilFunc, Value.nilFunc, Value.nilFunc, Value.nilFunc, Value.nilFunc, Value.nilFunc, Value.nilFunc, Value.nilFunc, Value.nilFunc, Value.nilFunc] 82)).alloc (.cells #[Value.nilFunc, Value.func (Fn.func 73) #[] #[], Value.func (Fn.func 73) #[] #[], Value.func (Fn.func 74) #[] #[], Value.func (Fn.func 74) #[] #[], Value.func (Fn.func 75) #[] #[]] 81)).alloc (.cells #[Value.nilFunc, Value.func (Fn.func 74) #[] #[], Value.func (Fn.func 74) #[] #[], Value.func (Fn.func 74) #[] #[], Value.func (Fn.func 74) #[] #[], Value.func (Fn.func 75) #[] #[]] 81)).alloc (.cells #[Value.nilFunc, Value.func (Fn.func 76) #[] #[], Value.func (Fn.func 76) #[] #[], Value.func (Fn.func 76) #[] #[], Value.func (Fn.func 76) #[] #[], Value.func (Fn.func 77) #[] #[]] 81)) = W at *
 refine wp_region_lit ?_
 refine wpList_load_mid rfl _ _ rfl _ _ rfl [Value.nilFunc, Value.func (Fn.func 73) #[] #[], Value.func (Fn.func 73) #[] #[], Value.func (Fn.func 74) #[] #[], Value.func (Fn.func 74) #[] #[], Value.func (Fn.func 75) #[] #[]] (.array 6 80) T1.range (by kernel_rfl) rfl (by kernel_rfl) ?_
 refine wpList_load_mid rfl _ _ rfl _ _ rfl [Value.nilFunc, Value.func (Fn.func 73) #[] #[], Value.func (Fn.func 73) #[] #[], Value.func (Fn.func 74) #[] #[], Value.func (Fn.func 74) #[] #[], Value.func (Fn.func 75) #[] #[]] (.array 6 80) T1.range (by kernel_rfl) rfl (by kernel_rfl) ?_
 refine wpList_load_mid rfl _ _ rfl _ _ rfl [Value.nilFunc, Value.func (Fn.func 74) #[] #[], Value.func (Fn.func 74) #[] #[], Value.func (Fn.func 74) #[] #[], Value.func (Fn.func 74) #[] #[], Value.func (Fn.func 75) #[] #[]] (.array 6 80) T2.range (by kernel_rfl) rfl (by kernel_rfl) ?_
 refine wpList_load_mid rfl _ _ rfl _ _ rfl [Value.nilFunc, Value.func (Fn.func 74) #[] #[], Value.func (Fn.func 74) #[] #[], Value.func (Fn.func 74) #[] #[], Value.func (Fn.func 74) #[] #[], Value.func (Fn.func 75) #[] #[]] (.array 6 80) T2.range (by kernel_rfl) rfl (by kernel_rfl) ?_
 refine wpList_load_mid rfl _ _ rfl _ _ rfl [Value.nilFunc, Value.func (Fn.func 76) #[] #[], Value.func (Fn.func 76) #[] #[], Value.func (Fn.func 76) #[] #[], Value.func (Fn.func 76) #[] #[], Value.func (Fn.func 77) #[] #[]] (.array 6 80) T3.range (by kernel_rfl) rfl (by kernel_rfl) ?_
 refine wpList_plain rfl fun K hK => ?_
 go_simp
 refine hK _ _ ?_
 have R := World.rangeAt_setCells_same W w.heap.size 0 [Value.nilFunc, Value.nilFunc, Value.nilFunc, Value.nilFunc, Value.nilFunc, Value.nilFunc, Value.nilFunc, Value.func (Fn.func 73) #[] #[], Value.func (Fn.func 73) #[] #[], Value.func (Fn.func 74) #[] #[], Value.func (Fn.func 74) #[] #[], Value.func (Fn.func 75) #[] #[], Value.nilFunc, Value.func (Fn.func 73) #[] #[], Value.func (Fn.func 73) #[] #[], Value.func (Fn.func 74) #[] #[], Value.func (Fn.func 74) #[] #[], Value.func (Fn.func 75) #[] #[], Value.nilFunc, Value.func (Fn.func 74) #[] #[], Value.func (Fn.func 74) #[] #[], Value.func (Fn.func 74) #[] #[], Value.func (Fn.func 74) #[] #[], Value.func (Fn.func 75) #[] #[], Value.nilFunc, Value.func (Fn.func 74) #[] #[], Value.func (Fn.func 74) #[] #[], Value.func (Fn.func 74) #[] #[], Value.func (Fn.func 74) #[] #[], Value.func (Fn.func 75) #[] #[], Value.nilFunc, Value.func (Fn.func 76) #[] #[], Value.func (Fn.func 76) #[] #[], Value.func (Fn.func 76) #[] #[], Value.func (Fn.func 76) #[] #[], Value.func (Fn.func 77) #[] #[]] T0.there
 have BB := below_setCells (Nat.le_refl _) [Value.nilFunc, Value.nilFunc, Value.nilFunc, Value.nilFunc, Value.nilFunc, Value.nilFunc, Value.nilFunc, Value.func (Fn.func 73) #[] #[], Value.func (Fn.func 73) #[] #[], Value.func (Fn.func 74) #[] #[], Value.func (Fn.func 74) #[] #[], Value.func (Fn.func 75) #[] #[], Value.nilFunc, Value.func (Fn.func 73) #[] #[], Value.func (Fn.func 73) #[] #[], Value.func (Fn.func 74) #[] #[], Value.func (Fn.func 74) #[] #[], Value.func (Fn.func 75) #[] #[], Value.nilFunc, Value.func (Fn.func 74) #[] #[], Value.func (Fn.func 74) #[] #[], Value.func (Fn.func 74) #[] #[], Value.func (Fn.func 74) #[] #[], Value.func (Fn.func 75) #[] #[], Value.nilFunc, Value.func (Fn.func 74) #[] #[], Value.func (Fn.func 74) #[] #[], Value.func (Fn.func 74) #[] #[], Value.func (Fn.func 74) #[] #[], Value.func (Fn.func 75) #[] #[], Value.nilFunc, Value.func (Fn.func 76) #[] #[], Value.func (Fn.func 76) #[] #[], Value.func (Fn.func 76) #[] #[], Value.func (Fn.func 76) #[] #[], Value.func (Fn.func 77) #[] #[]] W 0 B
 refine wpList_store_mid rfl _ _ _ rfl _ _ #[Value.nilFunc, Value.nilFunc, Value.nilFunc, Value.nilFunc, Value.nilFunc, Value.nilFunc, Value.nilFunc, Value.func (Fn.func 73) #[] #[], Value.func (Fn.func 73) #[] #[], Value.func (Fn.func 74) #[] #[], Value.func (Fn.func 74) #[] #[], Value.func (Fn.func 75) #[] #[], Value.nilFunc, Value.func (Fn.func 73) #[] #[], Value.func (Fn.func 73) #[] #[], Value.func (Fn.func 74) #[] #[], Value.func (Fn.func 74) #[] #[], Value.func (Fn.func 75) #[] #[], Value.nilFunc, Value.func (Fn.func 74) #[] #[], Value.func (Fn.func 74) #[] #[], Value.func (Fn.func 74) #[] #[], Value.func (Fn.func 74) #[] #[], Value.func (Fn.func 75) #[] #[], Value.nilFunc, Value.func (Fn.func 74) #[] #[], Value.func (Fn.func 74) #[] #[], Value.func (Fn.func 74) #[] #[], Value.func (Fn.func 74) #[] #[], Value.func (Fn.func 75) #[] #[], Value.nilFunc, Value.func (Fn.func 76) #[] #[], Value.func (Fn.func 76) #[] #[], Value.func (Fn.func 76) #[] #[], Value.func (Fn.func 76) #[] #[], Value.func (Fn.func 77) #[] #[]] rfl rfl T0.there (by kernel_rfl) (by kernel_rfl) ?_
 have L := run_loadVar_mid (P := Tryz.prog) _ w.heap.size 0 82 _ (.array 6 81) R (by kernel_rfl) rfl (by kernel_rfl)
 clear T0 T1 T2 T3 R hK K
 generalize W.setCells w.heap.size 0 _ = W' at *
 refine wpList_nil ?_
 go_wp2
 exact bodyPost_ret (v := Value.agg #[Value.nilFunc, Value.nilFunc, Value.nilFunc, Value.nilFunc, Value.nilFunc, Value.nilFunc, Value.nilFunc, Value.func (Fn.func 73) #[] #[], Value.func (Fn.func 73) #[] #[], Value.func (Fn.func 74) #[] #[], Value.func (Fn.func 74) #[] #[], Value.func (Fn.func 75) #[] #[], Value.nilFunc, Value.func (Fn.func 73) #[] #[], Value.func (Fn.func 73) #[] #[], Value.func (Fn.func 74) #[] #[], Value.func (Fn.func 74) #[] #[], Value.func (Fn.func 75) #[] #[], Value.nilFunc, Value.func (Fn.func 74) #[] #[], Value.func (Fn.func 74) #[] #[], Value.func (Fn.func 74) #[] #[], Value.func (Fn.func 74) #[] #[], Value.func (Fn.func 75) #[] #[], Value.nilFunc, Value.func (Fn.func 74) #[] #[], Value.func (Fn.func 74) #[] #[], Value.func (Fn.func 74) #[] #[], Value.func (Fn.func 74) #[] #[], Value.func (Fn.func 75) #[] #[], Value.nilFunc, Value.func (Fn.func 76) #[] #[], Value.func (Fn.func 76) #[] #[], Value.func (Fn.func 76) #[] #[], Value.func (Fn.func 76) #[] #[], Value.func (Fn.func 77) #[] #[]]) (by simp [results, Tryz.results45, asAddr, L]) rfl ⟨rfl, BB⟩
open Go.RowKit

def mtgF (n m : Int) : Nat :=
 if n ≤ 2 then (if m ≤ 2 then 73 else if m ≤ 4 then 74 else 75)
 else if n ≤ 4 then (if m ≤ 4 then 74 else 75)
 else (if m ≤ 4 then 76 else 77)
def mtgR (n : Int) : Value := .agg #[.nilFunc, .func (Fn.func (mtgF n 1)) #[] #[], .func (Fn.func (mtgF n 2)) #[] #[], .func (Fn.func (mtgF n 3)) #[] #[], .func (Fn.func (mtgF n 4)) #[] #[], .func (Fn.func (mtgF n 5)) #[] #[]]
theorem idx1 {n : Int} (h : 1 ≤ n ∧ n ≤ 5) (W : World) : (Instr.index 82 (.agg #[Value.nilFunc, Value.nilFunc, Value.nilFunc, Value.nilFunc, Value.nilFunc, Value.nilFunc, Value.nilFunc, Value.func (Fn.func 73) #[] #[], Value.func (Fn.func 73) #[] #[], Value.func (Fn.func 74) #[] #[], Value.func (Fn.func 74) #[] #[], Value.func (Fn.func 75) #[] #[], Value.nilFunc, Value.func (Fn.func 73) #[] #[], Value.func (Fn.func 73) #[] #[], Value.func (Fn.func 74) #[] #[], Value.func (Fn.func 74) #[] #[], Value.func (Fn.func 75) #[] #[], Value.nilFunc, Value.func (Fn.func 74) #[] #[], Value.func (Fn.func 74) #[] #[], Value.func (Fn.func 74) #[] #[], Value.func (Fn.func 74) #[] #[], Value.func (Fn.func 75) #[] #[], Value.nilFunc, Value.func (Fn.func 74) #[] #[], Value.func (Fn.func 74) #[] #[], Value.func (Fn.func 74) #[] #[], Value.func (Fn.func 74) #[] #[], Value.func (Fn.func 75) #[] #[], Value.nilFunc, Value.func (Fn.func 76) #[] #[], Value.func (Fn.func 76) #[] #[], Value.func (Fn.func 76) #[] #[], Value.func (Fn.func 76) #[] #[], Value.func (Fn.func 77) #[] #[]]) (.int .i64 n)).run Tryz.prog W = .ok (mtgR n) W := by
 rcases kinds h with rfl | rfl | rfl | rfl | rfl <;> kernel_rfl
theorem idx2 {n m : Int} (h : 1 ≤ m ∧ m ≤ 5) (W : World) : (Instr.index 81 (mtgR n) (.int .i64 m)).run Tryz.prog W = .ok (.func (Fn.func (mtgF n m)) #[] #[]) W := by
 rcases kinds h with rfl | rfl | rfl | rfl | rfl <;> kernel_rfl
theorem sgR_pos {k : Int} {ps : List (Int × Int)} (h : leastN k ≤ ps.length) (hk : 1 ≤ k ∧ k ≤ 5) : 0 < (sgR k ps).length := by
 have hl : (k ≤ 2 → 1 ≤ ps.length) ∧ (¬ k ≤ 2 → 2 ≤ ps.length) := by
  unfold leastN at h
  rcases kinds hk with rfl | rfl | rfl | rfl | rfl <;> simp at h <;> constructor <;> intro _ <;> omega
 unfold sgR
 split <;> rename_i h2
 ·have := hl.1 h2
  rw [List.length_map]; omega
 ·have := hl.2 h2
  split
  ·rw [edL_len]; omega
  ·rw [List.length_take, edL_len]; omega
theorem good_some {k : Int} {rs : List (List (Int × Int))} (h : goodB k rs = true) : 0 < rs.length := by
 obtain ⟨hk, _, _⟩ := goodS_rows h
 have hf : formB k rs = true := by
  unfold goodB goodTo at h
  rw [Bool.and_eq_true] at h
  exact h.1
 rw [formB_kind hk] at hf
 cases q : decide (rs.length = 0)
 ·have := of_decide_eq_false q
  omega
 ·rw [q] at hf
  simp at hf
theorem segL_bounds {k : Int} {rs : List (List (Int × Int))} (h : goodB k rs = true) : 0 < (segL k rs).length ∧ (segL k rs).length ≤ 1000 := by
 obtain ⟨hk, hle, hrow⟩ := goodS_rows h
 have h0 := good_some h
 constructor
 ·have e := segL_step (k := k) (rs := rs) (j := 0) h0
  have := sgR_pos (hrow 0 h0).1 hk
  have l : (segL k (rs.take 1)).length ≤ (segL k rs).length := by
   unfold segL
   conv => rhs; rw [← List.take_append_drop 1 rs]
   rw [List.map_append, List.flatten_append, List.length_append]
   omega
  rw [e, List.length_append] at l
  omega
 ·have := segL_le (k := k) (rs := rs) (fun i hi => (hrow i hi).2.2) rs.length (Nat.le_refl _)
  rw [List.take_length] at this
  omega
theorem good_okL {k : Int} {rs : List (List (Int × Int))} (h : goodB k rs = true) : ∀ i, i < rs.length → okL (rowA rs i) = true := by
 have hf : formB k rs = true := by
  unfold goodB goodTo at h
  rw [Bool.and_eq_true] at h
  exact h.1
 exact fun i hi => (form_row hf hi).2
theorem okL_stL {k : Int} {rs : List (List (Int × Int))} (h : goodB k rs = true) : okL (stL k rs) = true := by
 obtain ⟨hk, hle, hrow⟩ := goodS_rows h
 have h0 := good_some h
 have ok := good_okL h
 unfold stL
 split
 ·exact ok 0 h0
 ·unfold okL
  rw [List.all_map, List.all_eq_true]
  intro r hr
  obtain ⟨j, hj, rfl⟩ := List.mem_iff_getElem.mp hr
  have er : rowA rs j = rs[j] := by unfold rowA; rw [List.getElem?_eq_getElem hj]; rfl
  have hp := (hrow j hj).2.1
  have := List.all_eq_true.mp (ok j hj) _ (ptA_mem hp)
  rw [er] at this
  exact this
theorem hasQ_rows (rs : List (List (Int × Int))) (l : List (Int × Int)) : hasQ (segL 5 rs) l = hasL rs l := by
 unfold hasQ hasL
 simp only [locQ_rows]
theorem mtg_calls {k1 k2 : Int} {rs ts : List (List (Int × Int))} (g1 : goodB k1 rs = true) (g2 : goodB k2 ts = true) (W : World) (v1 v2 v3 v4 : Value) (h : Ext W v1 v2 (segL k1 rs) (stL k1 rs)) (k : Ext W v3 v4 (segL k2 ts) (stL k2 ts)) :
  Calls Tryz.prog (mtgF k1 k2) #[.agg #[v1, v2, v3, v4]] W fun e w' => e = .returned (.bool (meetI k1 rs k2 ts)) ∧ Below W.heap.size W w' := by
 have o1 := okQ_seg g1
 have o2 := okQ_seg g2
 have p1 := okL_stL g1
 have p2 := okL_stL g2
 obtain ⟨b1, c1⟩ := segL_bounds g1
 obtain ⟨b2, c2⟩ := segL_bounds g2
 obtain ⟨K1, _, _⟩ := goodS_rows g1
 obtain ⟨K2, _, _⟩ := goodS_rows g2
 by_cases e1 : k1 = 5
 ·subst e1
  by_cases e2 : k2 = 5
  ·subst e2
   have M := areasMeet_any v1 v2 v3 v4 _ _ _ _ W h k o1 o2 p1 p2 b2 c2
   rw [hasQ_rows, hasQ_rows] at M
   exact M
  ·have M := oneHasOther_any v1 v2 v3 v4 _ _ _ _ W h k o1 o2 p2 b2 c2
   rw [hasQ_rows] at M
   have e : mtgF 5 k2 = 76 := by
    unfold mtgF
    rw [if_neg (by omega), if_neg (by omega), if_pos (by omega)]
   have f : meetI 5 rs k2 ts = (anyQ (segL 5 rs) (segL k2 ts) || hasL rs (stL k2 ts)) := by
    unfold meetI
    rw [if_pos rfl, if_neg e2]
   rw [e, f]
   exact M
 ·by_cases e2 : k2 = 5
  ·subst e2
   have M := otherHasOne_any v1 v2 v3 v4 _ _ _ _ W h k o1 o2 p1 b1 c1
   rw [hasQ_rows] at M
   have e : mtgF k1 5 = 75 := by
    unfold mtgF
    split
    ·rw [if_neg (by omega), if_neg (by omega)]
    ·rw [if_pos (by omega), if_neg (by omega)]
   have f : meetI k1 rs 5 ts = (anyQ (segL 5 ts) (segL k1 rs) || hasL ts (stL k1 rs)) := by
    unfold meetI
    rw [if_neg e1, if_pos rfl]
   rw [e, f]
   exact M
  ·by_cases l : k1 ≤ 2 ∧ k2 ≤ 2
   ·have M := shareStart_any v1 v2 v3 v4 _ _ _ _ W h k
    have e : mtgF k1 k2 = 73 := by
     unfold mtgF
     rw [if_pos l.1, if_pos l.2]
    have f : meetI k1 rs k2 ts = (stL k1 rs).any (fun p => (stL k2 ts).any (fun q => decide (p = q))) := by
     unfold meetI
     rw [if_neg e1, if_neg e2, if_pos l]
    rw [e, f]
    exact M
   ·have M := edgesMeet_any v1 v2 v3 v4 _ _ _ _ W h k o1 o2 b2 c2
    have e : mtgF k1 k2 = 74 := by
     unfold mtgF
     split
     ·rw [if_neg (by omega), if_pos (by omega)]
     ·rw [if_pos (by omega), if_pos (by omega)]
    have f : meetI k1 rs k2 ts = anyQ (segL k1 rs) (segL k2 ts) := by
     unfold meetI
     rw [if_neg e1, if_neg e2, if_neg l]
    rw [e, f]
    exact M

set_option maxRecDepth 20000 in
set_option maxHeartbeats 2000000 in
theorem meeting_any (k1 k2 : Int) (a1 a2 : Option Addr) (c1 c2 : Nat) (rs ts : List (List (Int × Int))) (w : World) (h1 : SeesS w a1 c1 rs) (h2 : SeesS w a2 c2 ts) (g1 : goodB k1 rs = true) (g2 : goodB k2 ts = true) :
  Calls Tryz.prog 22 #[.agg #[.int .i64 k1, .slice a1 rs.length c1], .agg #[.int .i64 k2, .slice a2 ts.length c2]] w fun e w' => e = .returned (.bool (meetI k1 rs k2 ts)) ∧ Below w.heap.size w w' := by
 have B0 := below2 w (.cells #[.int .i64 k1, .slice a1 rs.length c1] 36) (.cells #[.int .i64 k2, .slice a2 ts.length c2] 36)
 have V1 := (Box2.new w (lo := w.heap.size) (Nat.le_refl _) (.int .i64 k1) (.slice a1 rs.length c1) 36).below (below1 _ (.cells #[.int .i64 k2, .slice a2 ts.length c2] 36))
 have V2 := Box2.new (w.alloc (.cells #[.int .i64 k1, .slice a1 rs.length c1] 36)) (lo := w.heap.size) (by simp) (.int .i64 k2) (.slice a2 ts.length c2) 36
 rw [World.size_alloc] at V2
 have S1 := h1.below B0
 have S2 := h2.below B0
 clear h1 h2
 obtain ⟨k0, k1', _, _⟩ := id V1
 obtain ⟨k2', k3, _, _⟩ := id V2
 have X1 := @idx1 k1 (goodS_rows g1).1
 have X2 := @idx2 k1 k2 (goodS_rows g2).1
 have M := @mtg_calls k1 k2 rs ts g1 g2
 generalize meetI k1 rs k2 ts = z at *
 have HF : Hid (mtgF k1 k2 = 73 ∨ mtgF k1 k2 = 74 ∨ mtgF k1 k2 = 75 ∨ mtgF k1 k2 = 76 ∨ mtgF k1 k2 = 77) := by
  show _ ∨ _
  unfold mtgF
  repeat' split
  all_goals simp
 generalize mtgF k1 k2 = f at *
 generalize mtgR k1 = r at *
 have MT := meetings_any
 generalize Value.agg #[Value.nilFunc, Value.nilFunc, Value.nilFunc, Value.nilFunc, Value.nilFunc, Value.nilFunc, Value.nilFunc, Value.func (Fn.func 73) #[] #[], Value.func (Fn.func 73) #[] #[], Value.func (Fn.func 74) #[] #[], Value.func (Fn.func 74) #[] #[], Value.func (Fn.func 75) #[] #[], Value.nilFunc, Value.func (Fn.func 73) #[] #[], Value.func (Fn.func 73) #[] #[], Value.func (Fn.func 74) #[] #[], Value.func (Fn.func 74) #[] #[], Value.func (Fn.func 75) #[] #[], Value.nilFunc, Value.func (Fn.func 74) #[] #[], Value.func (Fn.func 74) #[] #[], Value.func (Fn.func 74) #[] #[], Value.func (Fn.func 74) #[] #[], Value.func (Fn.func 75) #[] #[], Value.nilFunc, Value.func (Fn.func 74) #[] #[], Value.func (Fn.func 74) #[] #[], Value.func (Fn.func 74) #[] #[], Value.func (Fn.func 74) #[] #[], Value.func (Fn.func 75) #[] #[], Value.nilFunc, Value.func (Fn.func 76) #[] #[], Value.func (Fn.func 76) #[] #[], Value.func (Fn.func 76) #[] #[], Value.func (Fn.func 76) #[] #[], Value.func (Fn.func 77) #[] #[]] = tb at X1 MT
 go_enter Tryz.func22, Tryz.ntmps22
 go_upto_region 1 with fail
 generalize (w.alloc (.cells #[.int .i64 k1, .slice a1 rs.length c1] 36)).alloc (.cells #[.int .i64 k2, .slice a2 ts.length c2] 36) = W0 at *
 refine wp_region_held_drew (S := Below W0.heap.size W0) (by kernel_rfl) ((Below.refl _ _).drew) (fun hHeld => ?_)
 have N : Below W0.heap.size W0 W0.drew := hHeld
 revert hHeld N
 generalize W0.drew = ww0
 intro hHeld N
 refine takeA (i := 1) (h := ?_)
 refine takeA (i := 2) (hy := by intro wq hSw; have q0 := bat hSw k0; have q1 := bat hSw k1'; have q2 := bat hSw k2'; have q3 := bat hSw k3; go_simp <;> with_reducible rfl) (h := ?_)
 refine takeA (i := 4) (h := ?_)
 refine takeA (i := 5) (hy := by intro wq hSw; have q0 := bat hSw k0; have q1 := bat hSw k1'; have q2 := bat hSw k2'; have q3 := bat hSw k3; go_simp <;> with_reducible rfl) (h := ?_)
 refine rdA (i := 0) (h := fun K hK => ?_)
 go_simp
 refine (MT _).mono ?_
 rintro e1 ww1 ⟨rfl, hb⟩
 replace N := N.trans (hb.mono N.size)
 clear hb
 refine hK.out _ _ N (fun hHeld => ?_)
 clear hK K
 try simp only [Act.put, sA, sB, sC]
 refine takeA (i := 3) (h := ?_)
 refine takeA (i := 6) (h := ?_)
 refine takeA (i := 7) (h := ?_)
 refine wpAnyH_done (by kernel_rfl) ?_ _
 skip
 clear hHeld X1 X2 MT k0 k1' k2' k3
 replace V1 := V1.below N
 replace V2 := V2.below N
 replace S1 := S1.below N
 replace S2 := S2.below N
 replace B0 := B0.trans (N.mono B0.size)
 clear N
 obtain ⟨k0, k1', _, _⟩ := id V1
 obtain ⟨k2', k3, _, _⟩ := id V2
 go_upto_region 2 with fail
 clear V1 V2
 refine wp_region_held_drew (S := Below ww1.heap.size ww1) (by kernel_rfl) ((Below.refl _ _).drew) (fun hHeld => ?_)
 have N : Below ww1.heap.size ww1 ww1.drew := hHeld
 revert hHeld N
 generalize ww1.drew = ww9
 intro hHeld N
 refine takeA (i := 0) (h := ?_)
 refine takeA (i := 1) (hy := by intro wq hSw; have q0 := bat hSw k0; have q1 := bat hSw k1'; have q2 := bat hSw k2'; have q3 := bat hSw k3; go_simp <;> with_reducible rfl) (h := ?_)
 refine takeA (i := 3) (hy := by intro wq hSw; have q0 := bat hSw k0; have q1 := bat hSw k1'; have q2 := bat hSw k2'; have q3 := bat hSw k3; go_simp <;> with_reducible rfl) (h := ?_)
 refine rdA (i := 2) (h := fun K hK => ?_)
 go_simp
 refine (extentOf_any k1 a1 c1 rs _ (S1.below N) g1).mono ?_
 rintro e1 ww2 ⟨b1, d1, b2, d2, rfl, SQ1, SP1, hb⟩
 have E1 : Ext ww2 (.slice b1 (segL k1 rs).length d1) (.slice b2 (stL k1 rs).length d2) (segL k1 rs) (stL k1 rs) := ⟨⟨_, _, rfl, SQ1⟩, ⟨_, _, rfl, SP1⟩⟩
 clear SQ1 SP1
 replace N := N.trans (hb.mono N.size)
 clear hb
 refine hK.out _ _ N (fun hHeld => ?_)
 clear hK K
 try simp only [Act.put, sA, sB, sC]
 refine rdA (i := 4) (h := fun K hK => ?_)
 go_simp
 refine (extentOf_any k2 a2 c2 ts _ (S2.below N) g2).mono ?_
 rintro e1 ww3 ⟨b3, d3, b4, d4, rfl, SQ2, SP2, hb⟩
 have E2 : Ext ww3 (.slice b3 (segL k2 ts).length d3) (.slice b4 (stL k2 ts).length d4) (segL k2 ts) (stL k2 ts) := ⟨⟨_, _, rfl, SQ2⟩, ⟨_, _, rfl, SP2⟩⟩
 clear SQ2 SP2
 replace E1 := E1.below hb
 replace N := N.trans (hb.mono N.size)
 clear hb
 refine hK.out _ _ N (fun hHeld => ?_)
 clear hK K
 try simp only [Act.put, sA, sB, sC]
 refine takeA (i := 5) (h := ?_)
 refine rdA (i := 6) (h := fun K hK => ?_)
 rcases HF.out with rfl | rfl | rfl | rfl | rfl
 all_goals
  go_simp
  refine (M _ _ _ _ _ E1 E2).mono ?_
  rintro e1 ww4 ⟨rfl, hb⟩
  replace E1 := E1.below hb
  replace E2 := E2.below hb
  replace N := N.trans (hb.mono N.size)
  clear hb
  refine hK.out _ _ N (fun hHeld => ?_)
  clear hK K
  try simp only [Act.put, sA, sB, sC]
  refine takeA (i := 7) (h := ?_)
  refine wpAnyH_done (by kernel_rfl) ?_ _
  go_wp2
  go_ret
  exact ⟨rfl, B0.trans (N.mono B0.size)⟩
open Go.RowKit

theorem inV_cases (q : List (Int × Int)) (px py : Int) : inV q px py = 0 ∨ inV q px py = 1 ∨ inV q px py = 2 := by
 unfold inV
 split
 ·exact .inr (.inl rfl)
 ·split
  ·exact .inr (.inr rfl)
  ·exact .inl rfl
theorem keepL5 {W W' : World} {p q : Nat} {b off : Nat} {v0 v1 v2 v3 v4 : Value} (k : W.cell? ⟨p, 0, none⟩ = some v0 ∧ W.cell? ⟨p, 1, none⟩ = some v1 ∧ W.cell? ⟨q, 0, none⟩ = some v2 ∧ W.cell? ⟨q, 1, none⟩ = some v3 ∧ W.cell? ⟨b, off, none⟩ = some v4) (hb : Below W.heap.size W W') :
  W'.cell? ⟨p, 0, none⟩ = some v0 ∧ W'.cell? ⟨p, 1, none⟩ = some v1 ∧ W'.cell? ⟨q, 0, none⟩ = some v2 ∧ W'.cell? ⟨q, 1, none⟩ = some v3 ∧ W'.cell? ⟨b, off, none⟩ = some v4 :=
 ⟨bat hb k.1, bat hb k.2.1, bat hb k.2.2.1, bat hb k.2.2.2.1, bat hb k.2.2.2.2⟩

set_option maxRecDepth 20000 in
set_option maxHeartbeats 2000000 in
theorem l6Locate_any (n : Int) (a : Option Addr) (c : Nat) (rs : List (List (Int × Int))) (px py : Int) (w : World) (h : SeesS w a c rs) (h0 : 0 < rs.length) (ok : ∀ i, i < rs.length → okL (rowA rs i) = true) (cx : Crd px) (cy : Crd py) :
  Calls Tryz.prog 63 #[.agg #[.int .i64 n, .slice a rs.length c], .agg #[.int .i64 px, .int .i64 py]] w fun e w' => e = .returned (.int .i64 (lcS rs (px, py) (rs.length - 1))) ∧ Below w.heap.size w w' := by
 have hm := h.max
 have hf := h.fits
 unfold maxLen at hm
 have B0 := below2 w (.cells #[.int .i64 n, .slice a rs.length c] 36) (.cells #[.int .i64 px, .int .i64 py] 38)
 have V1 := (Box2.new w (lo := w.heap.size) (Nat.le_refl _) (.int .i64 n) (.slice a rs.length c) 36).below (below1 _ (.cells #[.int .i64 px, .int .i64 py] 38))
 have V2 := Box2.new (w.alloc (.cells #[.int .i64 n, .slice a rs.length c] 36)) (lo := w.heap.size) (by simp) (.int .i64 px) (.int .i64 py) 38
 rw [World.size_alloc] at V2
 have SW := h.below B0
 obtain ⟨b, off, rfl, hc⟩ := SW.cells (by intro e; simp [e] at h0)
 obtain ⟨a0, c0, g0, P0⟩ := hc 0 h0
 rw [Nat.add_zero] at g0
 have O0 := ok 0 h0
 have HST : Hid (∀ j, lcS rs (px, py) j ≠ 2 → j ≤ rs.length - 1 → lcS rs (px, py) (rs.length - 1) = lcS rs (px, py) j) := fun j q hj => lcS_stay q _ hj
 have HI : Hid (lcS rs (px, py) 0 = inV (rowA rs 0) px py) := (rfl : lcS rs (px, py) 0 = _)
 have hrl : (0 : Int) < rs.length := by omega
 clear h
 go_enter Tryz.func63, Tryz.ntmps63
 go_wp2_with fail
 generalize (w.alloc (.cells #[.int .i64 n, .slice (some ⟨b, off, none⟩) rs.length c] 36)).alloc (.cells #[.int .i64 px, .int .i64 py] 38) = W at *
 have K0 : W.cell? ⟨w.heap.size, 0, none⟩ = some (.int .i64 n) ∧ W.cell? ⟨w.heap.size, 1, none⟩ = some (.slice (some ⟨b, off, none⟩) rs.length c) ∧ W.cell? ⟨w.heap.size + 1, 0, none⟩ = some (.int .i64 px) ∧ W.cell? ⟨w.heap.size + 1, 1, none⟩ = some (.int .i64 py) ∧ W.cell? ⟨b, off, none⟩ = some (.slice a0 (rowA rs 0).length c0) := ⟨V1.c0, V1.c1, V2.c0, V2.c1, g0⟩
 generalize rowA rs 0 = p0 at *
 go_region_held3 (fun w' => w'.cell? ⟨w.heap.size, 0, none⟩ = some (.int .i64 n) ∧ w'.cell? ⟨w.heap.size, 1, none⟩ = some (.slice (some ⟨b, off, none⟩) rs.length c) ∧ w'.cell? ⟨w.heap.size + 1, 0, none⟩ = some (.int .i64 px) ∧ w'.cell? ⟨w.heap.size + 1, 1, none⟩ = some (.int .i64 py) ∧ w'.cell? ⟨b, off, none⟩ = some (.slice a0 p0.length c0))
  (first | exact K0 | exact m1)
  ((go_at_call 95; refine (l5In_any a0 c0 p0 px py _ (P0.below (Below.refl _ _).drew) O0 cx cy).mono ?_; rintro e x1 ⟨rfl, hb⟩; have N1 := (Below.refl W.heap.size W).drew.trans (hb.mono (by simp)); have m1 := keepL5 K0 N1; clear hb))
 all_goals
  rw [← HI.out]
  clear m1 K0 g0 P0 O0
  go_wp2
  go_loopw [5, 6] (fun s5 s6 wr => ∃ j : Nat, 1 ≤ j ∧ j ≤ rs.length ∧ s6 = .int .i64 j ∧ s5 = .int .i64 (lcS rs (px, py) (j - 1)) ∧ Below W.heap.size W wr) (fun _ s6 _ => rs.length - (intOf s6).toNat)
  case atStart => exact ⟨1, by omega, by omega, rfl, rfl, N1⟩
  case round =>
   clear N1
   obtain ⟨j, j1, hj, rfl, rfl, N⟩ := hrel
   rename World => wr
   obtain ⟨i, rfl⟩ : ∃ i, j = i + 1 := ⟨j - 1, by omega⟩
   rw [Nat.add_sub_cancel] at *
   obtain ⟨k0, k1, _, _⟩ := V1.below N
   by_cases hlt : i + 1 < rs.length
   ·have hlt2 : ((i : Int) + 1) < (rs.length : Int) := by omega
    obtain ⟨lc, HLC⟩ : ∃ z, Hid (lcS rs (px, py) i = z) := ⟨_, rfl⟩
    rw [HLC.out]
    by_cases h2 : lc = 2
    ·subst h2
     obtain ⟨a3, c3, g3, O⟩ := hc (i + 1) hlt
     have OK := ok (i + 1) hlt
     have HN : Hid (lcS rs (px, py) (i + 1) = 2 - inV (rowA rs (i + 1)) px py) := by
      show (if lcS rs (px, py) i = 2 then _ else _) = _
      rw [HLC.out, if_pos rfl]
     have hiv := inV_cases (rowA rs (i + 1)) px py
     have g4 := bat N g3
     rw [show off + (i + 1) = off + i + 1 by omega] at g4 g3
     have K0 : wr.cell? ⟨w.heap.size, 0, none⟩ = some (.int .i64 n) ∧ wr.cell? ⟨w.heap.size, 1, none⟩ = some (.slice (some ⟨b, off, none⟩) rs.length c) ∧ wr.cell? ⟨w.heap.size + 1, 0, none⟩ = some (.int .i64 px) ∧ wr.cell? ⟨w.heap.size + 1, 1, none⟩ = some (.int .i64 py) ∧ wr.cell? ⟨b, off + (i + 1), none⟩ = some (.slice a3 (rowA rs (i + 1)).length c3) := ⟨k0, k1, (V2.below N).c0, (V2.below N).c1, g4⟩
     replace O := O.below N
     generalize rowA rs (i + 1) = ps at *
     obtain ⟨iv, HIV⟩ : ∃ z, Hid (inV ps px py = z) := ⟨_, rfl⟩
     rw [HIV.out] at hiv HN
     have hi1 : (0 : Int) ≤ (i : Int) + 1 := by omega
     have hwv : IntKind.i64.wrap (2 - iv) = 2 - iv := by rw [IntKind.wrap_i64]; omega
     clear g3 g4
     go_wp2_with fail
     clear k0 k1
     go_region_held3 (fun w' => w'.cell? ⟨w.heap.size, 0, none⟩ = some (.int .i64 n) ∧ w'.cell? ⟨w.heap.size, 1, none⟩ = some (.slice (some ⟨b, off, none⟩) rs.length c) ∧ w'.cell? ⟨w.heap.size + 1, 0, none⟩ = some (.int .i64 px) ∧ w'.cell? ⟨w.heap.size + 1, 1, none⟩ = some (.int .i64 py) ∧ w'.cell? ⟨b, off + (i + 1), none⟩ = some (.slice a3 ps.length c3))
      (first | exact K0 | exact m1)
      ((go_at_call 95; refine (l5In_any a3 c3 ps px py _ (O.below (Below.refl _ _).drew) OK cx cy).mono ?_; rintro e x1 ⟨rfl, hb⟩; have N1 := (Below.refl wr.heap.size wr).drew.trans (hb.mono (by simp)); have m1 := keepL5 K0 N1; rw [HIV.out]; clear hb))
     all_goals
      have N2 := N.trans (N1.mono N.size)
      clear K0 m1 N1
      go_wp2
      go_roundw
      case rel => exact ⟨i + 2, by omega, by omega, by go_num, (by rw [show i + 2 - 1 = i + 1 by omega, HN.out]), N2⟩
      case measure => simp [intOf]; omega
    ·have b2 : (lc == 2) = false := by simp [h2]
     have F : Hid (lcS rs (px, py) (rs.length - 1) = lc) := by
      show _ = _
      rw [HST.out i (by rw [HLC.out]; exact h2) (by omega), HLC.out]
     go_wp2
     go_ret
     exact ⟨by rw [F.out]; rfl, B0.trans (N.mono B0.size)⟩
   ·have hie : Hid (rs.length - 1 = i) := (by omega : rs.length - 1 = i)
    have hlt2 : ¬ ((i : Int) + 1) < (rs.length : Int) := by omega
    go_wp2
    go_ret
    exact ⟨by rw [hie.out]; rfl, B0.trans (N.mono B0.size)⟩

theorem ptOk_crd {x y : Int} (h : ptOk x y = true) : Crd x ∧ Crd y := by
 unfold ptOk at h
 rw [Bool.and_eq_true, inB_true, inB_true] at h
 exact h
open Go.RowKit

open Go.RowKit

end Go.Proofs.YtnjbedhealpgcaaGreat
