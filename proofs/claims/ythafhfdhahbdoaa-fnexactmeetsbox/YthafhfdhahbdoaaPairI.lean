/- Two shapes that are held against each other: of the program (edgesMeet, hasOneOf, oneHasOther, otherHasOne, areasMeet). -/
import Derived.Test.YthafhfdhahbdoaaMeetR
import Derived.Test.YthafhfdhahbdoaaHoleI
import Derived.Test.YthafhfdhahbdoaaLocI
namespace Go.Proofs.Ythafhfdhahbdoaa
open Go.RowKit

/-- An extent: segments and points in memory. -/
structure Ext (w : World) (v1 v2 : Value) (es : List Sg) (sl : List (Int × Int)) : Prop where
  q : ∃ a c, v1 = .slice a es.length c ∧ SeesQ w a c es
  p : ∃ a c, v2 = .slice a sl.length c ∧ SeesP w a c sl
theorem Ext.below {w w' : World} {v1 v2 : Value} {es : List Sg} {sl : List (Int × Int)} (h : Ext w v1 v2 es sl) (hb : Below w.heap.size w w') : Ext w' v1 v2 es sl :=
  ⟨by obtain ⟨a, c, e, s⟩ := h.q; exact ⟨a, c, e, s.below hb⟩, by obtain ⟨a, c, e, s⟩ := h.p; exact ⟨a, c, e, s.below hb⟩⟩

set_option maxRecDepth 20000 in
set_option maxHeartbeats 1000000 in
theorem edgesMeet_any (v1 v2 v3 v4 : Value) (es fs : List Sg) (sl tl : List (Int × Int)) (w : World) (h : Ext w v1 v2 es sl) (k : Ext w v3 v4 fs tl) (oe : okQ es = true) (of : okQ fs = true) (f0 : 0 < fs.length) (f1 : fs.length ≤ 1000) :
    Calls Try.prog 56 #[.agg #[v1, v2, v3, v4]] w fun e w' => e = .returned (.bool (anyQ es fs)) ∧ Below w.heap.size w w' := by
  obtain ⟨a1, c1, rfl, S1⟩ := h.q
  obtain ⟨a3, c3, rfl, S3⟩ := k.q
  have B := below1 w (.cells #[.slice a1 es.length c1, v2, .slice a3 fs.length c3, v4] 82)
  have V := Box4.new w (lo := w.heap.size) (Nat.le_refl _) (.slice a1 es.length c1) v2 (.slice a3 fs.length c3) v4 82
  obtain ⟨k0, k1, k2, k3, _, _⟩ := id V
  replace S1 := S1.below B
  replace S3 := S3.below B
  clear h k
  go_enter Try.func56, Try.ntmps56
  have R1 := SeesR.one S3 77
  have bn := below1 (w.alloc (.cells #[.slice a1 es.length c1, v2, .slice a3 fs.length c3, v4] 82)) (.cells #[.slice a3 fs.length c3] 77)
  have M := firstMeetingR a1 _ c1 _ es [fs] _ (S1.below bn) R1 oe (by simpa using of) (by simp) (fun i hi => by
    obtain rfl : i = 0 := by simp at hi; omega
    exact ⟨f0, f1⟩)
  simp only [List.length_cons, List.length_nil, List.flatten_cons, List.flatten_nil, List.append_nil] at M
  rw [World.size_alloc] at M
  replace B := B.trans (bn.mono B.size)
  clear bn R1 S1 S3
  go_wp2_with fail
  refine M.mono ?_
  rintro e w1 ⟨z, rfl, HZ, hb⟩
  replace B := B.trans (hb.mono B.size)
  clear hb M
  go_wp2
  go_ret
  exact ⟨by rw [← HZ.out.1]; rfl, B⟩

set_option maxRecDepth 20000 in
theorem lacks_any (v1 v2 : Value) (es : List Sg) (sl : List (Int × Int)) (px py : Int) (w : World) (h : Ext w v1 v2 es sl) (ok : okQ es = true) (cx : Crd px) (cy : Crd py) :
    Calls Try.prog 84 #[.agg #[v1, v2], .agg #[.int .i64 px, .int .i64 py]] w fun e w' => e = .returned (.bool (decide (locQ es (px, py) = 0))) ∧ Below w.heap.size w w' := by
  obtain ⟨a1, c1, rfl, S1⟩ := h.q
  obtain ⟨a2, c2, rfl, S2⟩ := h.p
  have B := below2 w (.cells #[.slice a1 es.length c1, .slice a2 sl.length c2] 79) (.cells #[.int .i64 px, .int .i64 py] 35)
  replace S1 := S1.below B
  clear h S2
  obtain ⟨z, HZ⟩ : ∃ z, Hid (locQ es (px, py) = z) := ⟨_, rfl⟩
  rw [HZ.out]
  go_enter Try.func84, Try.ntmps84
  go_wp2_with fail
  refine (locate_any a1 a2 _ c1 c2 _ es px py _ rfl S1 ok cx cy).mono ?_
  rintro e w1 ⟨rfl, hb⟩
  replace B := B.trans (hb.mono B.size)
  clear hb
  rw [HZ.out]
  go_wp2
  go_ret
  exact ⟨rfl, B⟩

set_option maxRecDepth 20000 in
set_option maxHeartbeats 1000000 in
theorem indexHas (q : Nat) (f : Int × Int → Bool) (a : Option Addr) (c : Nat) (ps : List (Int × Int)) (w : World) (h : SeesP w a c ps) (HC : ∀ (W : World) (i : Nat), Below w.heap.size w W → i < ps.length → Calls Try.prog 83 #[.agg #[.int .i64 (ptA ps i).1, .int .i64 (ptA ps i).2], .pointer (some ⟨q, 0, none⟩)] W fun e w' => e = .returned (.bool (f (ptA ps i))) ∧ Below W.heap.size W w') :
    Calls Try.prog 79 #[.slice a ps.length c, .func (.func 83) #[] #[.pointer (some ⟨q, 0, none⟩)]] w fun e w' => ∃ k : Int, e = .returned (.int .i64 k) ∧ Hid (decide (0 ≤ k) = ps.any f) ∧ Below w.heap.size w w' := by
  have hm := h.max
  have hf := h.fits
  unfold maxLen at hm
  have HCH : Hid (∀ (W : World) (i : Nat), Below w.heap.size w W → i < ps.length → Calls Try.prog 83 #[.agg #[.int .i64 (ptA ps i).1, .int .i64 (ptA ps i).2], .pointer (some ⟨q, 0, none⟩)] W fun e w' => e = .returned (.bool (f (ptA ps i))) ∧ Below W.heap.size W w') := HC
  clear HC
  go_enter Try.func79, Try.ntmps79
  go_wp2
  go_loopw [8] (fun s8 wr => ∃ j : Nat, j ≤ ps.length ∧ s8 = .int .i64 j ∧ Hid ((ps.take j).any f = false) ∧ Below w.heap.size w wr) (fun s8 _ => ps.length - (intOf s8).toNat)
  case atStart => exact ⟨0, Nat.zero_le _, rfl, rfl, Below.refl _ _⟩
  case round =>
    obtain ⟨j, hj, rfl, hk, B⟩ := hrel
    rename World => wr
    by_cases hlt : j < ps.length
    · obtain ⟨b1, o1, rfl, hc⟩ := (h.below B).cells (by intro e; simp [e] at hlt)
      obtain ⟨g1, g2⟩ := hc j hlt
      have CC := HCH.out wr j B hlt
      have HF : Hid (f (ptA ps j) = true → ps.any f = true) := fun e => List.any_eq_true.mpr ⟨_, ptA_mem hlt, e⟩
      have HN : Hid (f (ptA ps j) = false → (ps.take (j + 1)).any f = false) := fun e => by
        rw [takeS hlt, List.any_append, hk.out]
        show ([ptA ps j].any f) = false
        simp [e]
      rw [show (ps[j]?.getD (0, 0)) = ptA ps j from rfl] at g1 g2
      clear hc hk
      generalize (ptA ps j).1 = x at *
      generalize (ptA ps j).2 = y at *
      generalize f (ptA ps j) = ff at *
      cases ff
      · have R := HN.out rfl
        clear HN HF
        go_wp2_with (go_at_call 83; refine CC.mono ?_; rintro e w2 ⟨rfl, hb⟩; replace B := B.trans (hb.mono B.size); clear hb)
        go_roundw
        case rel => exact ⟨j + 1, by omega, by go_num, R, B⟩
        case measure => simp [intOf]; omega
      · have R := HF.out rfl
        have RH : Hid (ps.any f = true) := R
        clear HN HF R
        go_wp2_with (go_at_call 83; refine CC.mono ?_; rintro e w2 ⟨rfl, hb⟩; replace B := B.trans (hb.mono B.size); clear hb)
        go_ret
        exact ⟨j, rfl, (by show _ = _; rw [RH.out]; simp), B⟩
    · obtain rfl : j = ps.length := by omega
      have F : Hid (ps.any f = false) := by have := hk.out; rwa [List.take_length] at this
      clear hk
      go_wp2
      go_ret
      exact ⟨-1, rfl, (by show _ = _; rw [F.out]; rfl), B⟩
set_option maxRecDepth 20000 in
theorem containsHas (q : Nat) (f : Int × Int → Bool) (a : Option Addr) (c : Nat) (ps : List (Int × Int)) (w : World) (h : SeesP w a c ps) (HC : ∀ (W : World) (i : Nat), Below w.heap.size w W → i < ps.length → Calls Try.prog 83 #[.agg #[.int .i64 (ptA ps i).1, .int .i64 (ptA ps i).2], .pointer (some ⟨q, 0, none⟩)] W fun e w' => e = .returned (.bool (f (ptA ps i))) ∧ Below W.heap.size W w') :
    Calls Try.prog 69 #[.slice a ps.length c, .func (.func 83) #[] #[.pointer (some ⟨q, 0, none⟩)]] w fun e w' => e = .returned (.bool (ps.any f)) ∧ Below w.heap.size w w' := by
  have C := indexHas q f a c ps w h HC
  clear HC
  go_enter Try.func69, Try.ntmps69
  go_wp2_with fail
  refine C.mono ?_
  rintro e w1 ⟨k, rfl, HK, hb⟩
  clear C
  go_wp2
  go_ret
  exact ⟨by rw [← HK.out]; rfl, hb⟩

set_option maxRecDepth 20000 in
theorem hasClosure (q : Nat) (v1 v2 : Value) (es : List Sg) (sl : List (Int × Int)) (px py : Int) (w : World) (V : w.cell? ⟨q, 0, none⟩ = some v1 ∧ w.cell? ⟨q, 1, none⟩ = some v2) (h : Ext w v1 v2 es sl) (ok : okQ es = true) (cx : Crd px) (cy : Crd py) :
    Calls Try.prog 83 #[.agg #[.int .i64 px, .int .i64 py], .pointer (some ⟨q, 0, none⟩)] w fun e w' => e = .returned (.bool (decide (locQ es (px, py) ≠ 0))) ∧ Below w.heap.size w w' := by
  have B := below1 w (.cells #[.int .i64 px, .int .i64 py] 35)
  have k0 := bat B V.1
  have k1 := bat B V.2
  have h' := h.below B
  have c0 := cell_new w #[.int .i64 px, .int .i64 py] 35 0 rfl
  have c1 := cell_new w #[.int .i64 px, .int .i64 py] 35 1 rfl
  obtain ⟨d, HD⟩ : ∃ d, Hid (decide (locQ es (px, py) = 0) = d) := ⟨_, rfl⟩
  rw [show decide (locQ es (px, py) ≠ 0) = !decide (locQ es (px, py) = 0) by simp, HD.out]
  go_enter Try.func83, Try.ntmps83
  go_wp2_with fail
  generalize w.alloc (.cells #[.int .i64 px, .int .i64 py] 35) = W at *
  refine (lacks_any v1 v2 es sl px py _ h' ok cx cy).mono ?_
  rintro e w1 ⟨rfl, hb⟩
  replace B := B.trans (hb.mono B.size)
  clear hb k0 k1 c0 c1
  rw [HD.out]
  go_wp2
  go_ret
  exact ⟨rfl, B⟩

/-- An area has one of some points. -/
def hasQ (es : List Sg) (l : List (Int × Int)) : Bool := l.any fun p => decide (locQ es p ≠ 0)
set_option maxRecDepth 20000 in
theorem hasOneOf_any (v1 v2 : Value) (es : List Sg) (sl : List (Int × Int)) (a : Option Addr) (c : Nat) (ps : List (Int × Int)) (w : World) (h : Ext w v1 v2 es sl) (k : SeesP w a c ps) (ok : okQ es = true) (okp : okL ps = true) :
    Calls Try.prog 73 #[.agg #[v1, v2], .slice a ps.length c] w fun e w' => e = .returned (.bool (hasQ es ps)) ∧ Below w.heap.size w w' := by
  have B := below1 w (.cells #[v1, v2] 79)
  have V := Box2.new w (lo := w.heap.size) (Nat.le_refl _) v1 v2 79
  have h' := h.below B
  have C := containsHas w.heap.size (fun p => decide (locQ es p ≠ 0)) a c ps _ (k.below B) (fun W i hb hi => by
    obtain ⟨cx, cy⟩ := okL_at okp hi
    exact hasClosure w.heap.size v1 v2 es sl (ptA ps i).1 (ptA ps i).2 W ⟨(V.below hb).c0, (V.below hb).c1⟩ (h'.below hb) ok cx cy)
  clear h h' k
  obtain ⟨bb, HBB⟩ : ∃ d, Hid (ps.any (fun p => decide (locQ es p ≠ 0)) = d) := ⟨_, rfl⟩
  rw [HBB.out] at C
  rw [show hasQ es ps = bb from HBB.out]
  go_enter Try.func73, Try.ntmps73
  go_wp2_with fail
  generalize w.alloc (.cells #[v1, v2] 79) = W at *
  refine C.mono ?_
  rintro e w1 ⟨rfl, hb⟩
  replace B := B.trans (hb.mono B.size)
  clear hb C
  go_wp2
  go_ret
  exact ⟨rfl, B⟩

set_option maxRecDepth 20000 in
set_option maxHeartbeats 1000000 in
theorem oneHasOther_any (v1 v2 v3 v4 : Value) (es fs : List Sg) (sl tl : List (Int × Int)) (w : World) (h : Ext w v1 v2 es sl) (k : Ext w v3 v4 fs tl) (oe : okQ es = true) (of : okQ fs = true) (ot : okL tl = true) (f0 : 0 < fs.length) (f1 : fs.length ≤ 1000) :
    Calls Try.prog 58 #[.agg #[v1, v2, v3, v4]] w fun e w' => e = .returned (.bool (anyQ es fs || hasQ es tl)) ∧ Below w.heap.size w w' := by
  have B := below1 w (.cells #[v1, v2, v3, v4] 82)
  have V := Box4.new w (lo := w.heap.size) (Nat.le_refl _) v1 v2 v3 v4 82
  obtain ⟨k0, k1, k2, k3, _, _⟩ := id V
  replace h := h.below B
  replace k := k.below B
  obtain ⟨x, HX⟩ : ∃ d, Hid (anyQ es fs = d) := ⟨_, rfl⟩
  obtain ⟨y, HY⟩ : ∃ d, Hid (hasQ es tl = d) := ⟨_, rfl⟩
  rw [HX.out, HY.out]
  cases x
  · rw [Bool.false_or]
    go_enter Try.func58, Try.ntmps58
    go_wp2_with fail
    generalize w.alloc (.cells #[v1, v2, v3, v4] 82) = W at *
    refine (edgesMeet_any v1 v2 v3 v4 es fs sl tl _ h k oe of f0 f1).mono ?_
    rintro e w1 ⟨rfl, hb⟩
    rw [HX.out]
    replace B := B.trans (hb.mono B.size)
    replace V := V.below hb
    replace h := h.below hb
    replace k := k.below hb
    clear hb k0 k1 k2 k3
    obtain ⟨a4, c4, rfl, S4⟩ := k.p
    obtain ⟨k0, k1, k2, k3, _, _⟩ := id V
    go_wp2_with fail
    refine (hasOneOf_any v1 v2 es sl a4 c4 tl _ h S4 oe ot).mono ?_
    rintro e w2 ⟨rfl, hb⟩
    rw [HY.out]
    replace B := B.trans (hb.mono B.size)
    clear hb k0 k1 k2 k3
    go_wp2
    go_ret
    exact ⟨rfl, B⟩
  · rw [Bool.true_or]
    go_enter Try.func58, Try.ntmps58
    go_wp2_with fail
    generalize w.alloc (.cells #[v1, v2, v3, v4] 82) = W at *
    refine (edgesMeet_any v1 v2 v3 v4 es fs sl tl _ h k oe of f0 f1).mono ?_
    rintro e w1 ⟨rfl, hb⟩
    rw [HX.out]
    replace B := B.trans (hb.mono B.size)
    clear hb k0 k1 k2 k3
    go_wp2
    go_ret
    exact ⟨rfl, B⟩
set_option maxRecDepth 20000 in
theorem otherHasOne_any (v1 v2 v3 v4 : Value) (es fs : List Sg) (sl tl : List (Int × Int)) (w : World) (h : Ext w v1 v2 es sl) (k : Ext w v3 v4 fs tl) (oe : okQ es = true) (of : okQ fs = true) (os : okL sl = true) (e0 : 0 < es.length) (e1 : es.length ≤ 1000) :
    Calls Try.prog 57 #[.agg #[v1, v2, v3, v4]] w fun e w' => e = .returned (.bool (anyQ fs es || hasQ fs sl)) ∧ Below w.heap.size w w' := by
  have B := below1 w (.cells #[v1, v2, v3, v4] 82)
  have V := Box4.new w (lo := w.heap.size) (Nat.le_refl _) v1 v2 v3 v4 82
  obtain ⟨k0, k1, k2, k3, _, _⟩ := id V
  replace h := h.below B
  replace k := k.below B
  obtain ⟨x, HX⟩ : ∃ d, Hid ((anyQ fs es || hasQ fs sl) = d) := ⟨_, rfl⟩
  rw [HX.out]
  go_enter Try.func57, Try.ntmps57
  go_wp2_with fail
  generalize w.alloc (.cells #[v1, v2, v3, v4] 82) = W at *
  refine (oneHasOther_any v3 v4 v1 v2 fs es tl sl _ k h of oe os e0 e1).mono ?_
  rintro e w1 ⟨rfl, hb⟩
  rw [HX.out]
  replace B := B.trans (hb.mono B.size)
  clear hb k0 k1 k2 k3
  go_wp2
  go_ret
  exact ⟨rfl, B⟩
set_option maxRecDepth 20000 in
set_option maxHeartbeats 1000000 in
theorem areasMeet_any (v1 v2 v3 v4 : Value) (es fs : List Sg) (sl tl : List (Int × Int)) (w : World) (h : Ext w v1 v2 es sl) (k : Ext w v3 v4 fs tl) (oe : okQ es = true) (of : okQ fs = true) (os : okL sl = true) (ot : okL tl = true) (f0 : 0 < fs.length) (f1 : fs.length ≤ 1000) :
    Calls Try.prog 59 #[.agg #[v1, v2, v3, v4]] w fun e w' => e = .returned (.bool ((anyQ es fs || hasQ es tl) || hasQ fs sl)) ∧ Below w.heap.size w w' := by
  have B := below1 w (.cells #[v1, v2, v3, v4] 82)
  have V := Box4.new w (lo := w.heap.size) (Nat.le_refl _) v1 v2 v3 v4 82
  obtain ⟨k0, k1, k2, k3, _, _⟩ := id V
  replace h := h.below B
  replace k := k.below B
  obtain ⟨x, HX⟩ : ∃ d, Hid ((anyQ es fs || hasQ es tl) = d) := ⟨_, rfl⟩
  obtain ⟨y, HY⟩ : ∃ d, Hid (hasQ fs sl = d) := ⟨_, rfl⟩
  rw [HX.out, HY.out]
  cases x
  · rw [Bool.false_or]
    go_enter Try.func59, Try.ntmps59
    go_wp2_with fail
    generalize w.alloc (.cells #[v1, v2, v3, v4] 82) = W at *
    refine (oneHasOther_any v1 v2 v3 v4 es fs sl tl _ h k oe of ot f0 f1).mono ?_
    rintro e w1 ⟨rfl, hb⟩
    rw [HX.out]
    replace B := B.trans (hb.mono B.size)
    replace V := V.below hb
    replace h := h.below hb
    replace k := k.below hb
    clear hb k0 k1 k2 k3
    obtain ⟨a2, c2, rfl, S2⟩ := h.p
    obtain ⟨k0, k1, k2, k3, _, _⟩ := id V
    go_wp2_with fail
    refine (hasOneOf_any v3 v4 fs tl a2 c2 sl _ k S2 of os).mono ?_
    rintro e w2 ⟨rfl, hb⟩
    rw [HY.out]
    replace B := B.trans (hb.mono B.size)
    clear hb k0 k1 k2 k3
    go_wp2
    go_ret
    exact ⟨rfl, B⟩
  · rw [Bool.true_or]
    go_enter Try.func59, Try.ntmps59
    go_wp2_with fail
    generalize w.alloc (.cells #[v1, v2, v3, v4] 82) = W at *
    refine (oneHasOther_any v1 v2 v3 v4 es fs sl tl _ h k oe of ot f0 f1).mono ?_
    rintro e w1 ⟨rfl, hb⟩
    rw [HX.out]
    replace B := B.trans (hb.mono B.size)
    clear hb k0 k1 k2 k3
    go_wp2
    go_ret
    exact ⟨rfl, B⟩

set_option maxRecDepth 20000 in
set_option maxHeartbeats 1000000 in
theorem indexShare (q : Nat) (f : Int × Int → Bool) (a : Option Addr) (c : Nat) (ps : List (Int × Int)) (w : World) (h : SeesP w a c ps) (HC : ∀ (W : World) (i : Nat), Below w.heap.size w W → i < ps.length → Calls Try.prog 70 #[.agg #[.int .i64 (ptA ps i).1, .int .i64 (ptA ps i).2], .pointer (some ⟨q, 0, none⟩)] W fun e w' => e = .returned (.bool (f (ptA ps i))) ∧ Below W.heap.size W w') :
    Calls Try.prog 79 #[.slice a ps.length c, .func (.func 70) #[] #[.pointer (some ⟨q, 0, none⟩)]] w fun e w' => ∃ k : Int, e = .returned (.int .i64 k) ∧ Hid (decide (0 ≤ k) = ps.any f) ∧ Below w.heap.size w w' := by
  have hm := h.max
  have hf := h.fits
  unfold maxLen at hm
  have HCH : Hid (∀ (W : World) (i : Nat), Below w.heap.size w W → i < ps.length → Calls Try.prog 70 #[.agg #[.int .i64 (ptA ps i).1, .int .i64 (ptA ps i).2], .pointer (some ⟨q, 0, none⟩)] W fun e w' => e = .returned (.bool (f (ptA ps i))) ∧ Below W.heap.size W w') := HC
  clear HC
  go_enter Try.func79, Try.ntmps79
  go_wp2
  go_loopw [8] (fun s8 wr => ∃ j : Nat, j ≤ ps.length ∧ s8 = .int .i64 j ∧ Hid ((ps.take j).any f = false) ∧ Below w.heap.size w wr) (fun s8 _ => ps.length - (intOf s8).toNat)
  case atStart => exact ⟨0, Nat.zero_le _, rfl, rfl, Below.refl _ _⟩
  case round =>
    obtain ⟨j, hj, rfl, hk, B⟩ := hrel
    rename World => wr
    by_cases hlt : j < ps.length
    · obtain ⟨b1, o1, rfl, hc⟩ := (h.below B).cells (by intro e; simp [e] at hlt)
      obtain ⟨g1, g2⟩ := hc j hlt
      have CC := HCH.out wr j B hlt
      have HF : Hid (f (ptA ps j) = true → ps.any f = true) := fun e => List.any_eq_true.mpr ⟨_, ptA_mem hlt, e⟩
      have HN : Hid (f (ptA ps j) = false → (ps.take (j + 1)).any f = false) := fun e => by
        rw [takeS hlt, List.any_append, hk.out]
        show ([ptA ps j].any f) = false
        simp [e]
      rw [show (ps[j]?.getD (0, 0)) = ptA ps j from rfl] at g1 g2
      clear hc hk
      generalize (ptA ps j).1 = x at *
      generalize (ptA ps j).2 = y at *
      generalize f (ptA ps j) = ff at *
      cases ff
      · have R := HN.out rfl
        clear HN HF
        go_wp2_with (go_at_call 70; refine CC.mono ?_; rintro e w2 ⟨rfl, hb⟩; replace B := B.trans (hb.mono B.size); clear hb)
        go_roundw
        case rel => exact ⟨j + 1, by omega, by go_num, R, B⟩
        case measure => simp [intOf]; omega
      · have R := HF.out rfl
        have RH : Hid (ps.any f = true) := R
        clear HN HF R
        go_wp2_with (go_at_call 70; refine CC.mono ?_; rintro e w2 ⟨rfl, hb⟩; replace B := B.trans (hb.mono B.size); clear hb)
        go_ret
        exact ⟨j, rfl, (by show _ = _; rw [RH.out]; simp), B⟩
    · obtain rfl : j = ps.length := by omega
      have F : Hid (ps.any f = false) := by have := hk.out; rwa [List.take_length] at this
      clear hk
      go_wp2
      go_ret
      exact ⟨-1, rfl, (by show _ = _; rw [F.out]; rfl), B⟩
set_option maxRecDepth 20000 in
theorem containsShare (q : Nat) (f : Int × Int → Bool) (a : Option Addr) (c : Nat) (ps : List (Int × Int)) (w : World) (h : SeesP w a c ps) (HC : ∀ (W : World) (i : Nat), Below w.heap.size w W → i < ps.length → Calls Try.prog 70 #[.agg #[.int .i64 (ptA ps i).1, .int .i64 (ptA ps i).2], .pointer (some ⟨q, 0, none⟩)] W fun e w' => e = .returned (.bool (f (ptA ps i))) ∧ Below W.heap.size W w') :
    Calls Try.prog 69 #[.slice a ps.length c, .func (.func 70) #[] #[.pointer (some ⟨q, 0, none⟩)]] w fun e w' => e = .returned (.bool (ps.any f)) ∧ Below w.heap.size w w' := by
  have C := indexShare q f a c ps w h HC
  clear HC
  go_enter Try.func69, Try.ntmps69
  go_wp2_with fail
  refine C.mono ?_
  rintro e w1 ⟨k, rfl, HK, hb⟩
  clear C
  go_wp2
  go_ret
  exact ⟨by rw [← HK.out]; rfl, hb⟩

set_option maxRecDepth 20000 in
set_option maxHeartbeats 2000000 in
theorem indexPt (x y : Int) (a : Option Addr) (c : Nat) (ps : List (Int × Int)) (w : World) (h : SeesP w a c ps) :
    Calls Try.prog 80 #[.slice a ps.length c, .agg #[.int .i64 x, .int .i64 y]] w fun e w' => ∃ k : Int, e = .returned (.int .i64 k) ∧ Hid (decide (0 ≤ k) = ps.any (fun q => decide ((x, y) = q))) ∧ Below w.heap.size w w' := by
  have hm := h.max
  have hf := h.fits
  unfold maxLen at hm
  have B0 := below1 w (.cells #[.int .i64 x, .int .i64 y] 35)
  have V := Box2.new w (lo := w.heap.size) (Nat.le_refl _) (.int .i64 x) (.int .i64 y) 35
  have SW := h.below B0
  go_enter Try.func80, Try.ntmps80
  go_wp2
  generalize w.alloc (.cells #[.int .i64 x, .int .i64 y] 35) = W at *
  go_loopw [8] (fun s8 wr => ∃ j : Nat, j ≤ ps.length ∧ s8 = .int .i64 j ∧ Hid ((ps.take j).any (fun q => decide ((x, y) = q)) = false) ∧ Below W.heap.size W wr) (fun s8 _ => ps.length - (intOf s8).toNat)
  case atStart => exact ⟨0, Nat.zero_le _, rfl, rfl, Below.refl _ _⟩
  case round =>
    obtain ⟨j, hj, rfl, hk, B⟩ := hrel
    rename World => wr
    by_cases hlt : j < ps.length
    · obtain ⟨b1, o1, rfl, hc⟩ := SW.cells (by intro e; simp [e] at hlt)
      obtain ⟨g1, g2⟩ := hc j hlt
      have HF : Hid ((x, y) = ptA ps j → ps.any (fun q => decide ((x, y) = q)) = true) := fun e => List.any_eq_true.mpr ⟨_, ptA_mem hlt, decide_eq_true e⟩
      have HN : Hid ((x, y) ≠ ptA ps j → (ps.take (j + 1)).any (fun q => decide ((x, y) = q)) = false) := fun e => by
        rw [takeS hlt, List.any_append, hk.out]
        show ([ptA ps j].any fun q => decide ((x, y) = q)) = false
        simp [e]
      rw [show (ps[j]?.getD (0, 0)) = ptA ps j from rfl] at g1 g2
      clear hc hk
      have k0 : wr.cell? ⟨w.heap.size, 0, none⟩ = some (.int .i64 x) ∧ wr.cell? ⟨w.heap.size, 1, none⟩ = some (.int .i64 y) ∧ wr.cell? ⟨b1, o1 + j * 2, none⟩ = some (.int .i64 (ptA ps j).1) ∧ wr.cell? ⟨b1, o1 + j * 2 + 1, none⟩ = some (.int .i64 (ptA ps j).2) := ⟨(V.below B).c0, (V.below B).c1, bat B g1, bat B g2⟩
      generalize ptA ps j = r at *
      obtain ⟨u, v⟩ := r
      dsimp only at k0
      have B1 : Below wr.heap.size wr wr := Below.refl _ _
      clear g1 g2
      by_cases e1 : x = u
      · subst e1
        by_cases e2 : y = v
        · subst e2
          have R : Hid (ps.any (fun q => decide ((x, y) = q)) = true) := HF.out rfl
          clear HF HN
          go_wp2_with fail
          go_region_held3 (fun w' => w'.cell? ⟨w.heap.size, 0, none⟩ = some (.int .i64 x) ∧ w'.cell? ⟨w.heap.size, 1, none⟩ = some (.int .i64 y) ∧ w'.cell? ⟨b1, o1 + j * 2, none⟩ = some (.int .i64 x) ∧ w'.cell? ⟨b1, o1 + j * 2 + 1, none⟩ = some (.int .i64 y))
            (first | exact k0 | exact ⟨bat B1 k0.1, bat B1 k0.2.1, bat B1 k0.2.2.1, bat B1 k0.2.2.2⟩) (fail)
          all_goals
            go_wp2
            go_ret
            exact ⟨j, rfl, (by show _ = _; rw [R.out]; simp), B0.trans ((B.trans ((B1.drew).mono B.size)).mono B0.size)⟩
        · have b2 : (y == v) = false := by simp [e2]
          have R := HN.out (by rw [ne_eq, Prod.mk.injEq]; exact fun q => e2 q.2)
          clear HF HN
          go_wp2_with fail
          go_region_held3 (fun w' => w'.cell? ⟨w.heap.size, 0, none⟩ = some (.int .i64 x) ∧ w'.cell? ⟨w.heap.size, 1, none⟩ = some (.int .i64 y) ∧ w'.cell? ⟨b1, o1 + j * 2, none⟩ = some (.int .i64 x) ∧ w'.cell? ⟨b1, o1 + j * 2 + 1, none⟩ = some (.int .i64 v))
            (first | exact k0 | exact ⟨bat B1 k0.1, bat B1 k0.2.1, bat B1 k0.2.2.1, bat B1 k0.2.2.2⟩) (fail)
          all_goals
            go_wp2
            go_roundw
            case rel => exact ⟨j + 1, by omega, by go_num, R, B.trans ((B1.drew).mono B.size)⟩
            case measure => simp [intOf]; omega
      · have b1' : (x == u) = false := by simp [e1]
        have R := HN.out (by rw [ne_eq, Prod.mk.injEq]; exact fun q => e1 q.1)
        clear HF HN
        go_wp2_with fail
        go_region_held3 (fun w' => w'.cell? ⟨w.heap.size, 0, none⟩ = some (.int .i64 x) ∧ w'.cell? ⟨w.heap.size, 1, none⟩ = some (.int .i64 y) ∧ w'.cell? ⟨b1, o1 + j * 2, none⟩ = some (.int .i64 u) ∧ w'.cell? ⟨b1, o1 + j * 2 + 1, none⟩ = some (.int .i64 v))
          (first | exact k0 | exact ⟨bat B1 k0.1, bat B1 k0.2.1, bat B1 k0.2.2.1, bat B1 k0.2.2.2⟩) (fail)
        all_goals
          go_wp2
          go_roundw
          case rel => exact ⟨j + 1, by omega, by go_num, R, B.trans ((B1.drew).mono B.size)⟩
          case measure => simp [intOf]; omega
    · obtain rfl : j = ps.length := by omega
      have F : Hid (ps.any (fun q => decide ((x, y) = q)) = false) := by have := hk.out; rwa [List.take_length] at this
      clear hk
      go_wp2
      go_ret
      exact ⟨-1, rfl, (by show _ = _; rw [F.out]; rfl), B0.trans (B.mono B0.size)⟩
set_option maxRecDepth 20000 in
theorem containsPt (x y : Int) (a : Option Addr) (c : Nat) (ps : List (Int × Int)) (w : World) (h : SeesP w a c ps) :
    Calls Try.prog 71 #[.slice a ps.length c, .agg #[.int .i64 x, .int .i64 y]] w fun e w' => e = .returned (.bool (ps.any (fun q => decide ((x, y) = q)))) ∧ Below w.heap.size w w' := by
  have B := below1 w (.cells #[.int .i64 x, .int .i64 y] 35)
  have S := h.below B
  go_enter Try.func71, Try.ntmps71
  go_wp2_with fail
  refine (indexPt x y a c ps _ S).mono ?_
  rintro e w1 ⟨k, rfl, HK, hb⟩
  replace B := B.trans (hb.mono B.size)
  clear hb S h
  go_wp2
  go_ret
  exact ⟨by rw [← HK.out]; rfl, B⟩
set_option maxRecDepth 20000 in
theorem shareClosure (q : Nat) (v1 v2 v3 v4 : Value) (tl : List (Int × Int)) (px py : Int) (w : World) (V : Box4 0 w q v1 v2 v3 v4) (h : ∃ a c, v4 = .slice a tl.length c ∧ SeesP w a c tl) :
    Calls Try.prog 70 #[.agg #[.int .i64 px, .int .i64 py], .pointer (some ⟨q, 0, none⟩)] w fun e w' => e = .returned (.bool (tl.any (fun r => decide ((px, py) = r)))) ∧ Below w.heap.size w w' := by
  obtain ⟨a4, c4, rfl, S4⟩ := h
  have B := below1 w (.cells #[.int .i64 px, .int .i64 py] 35)
  replace V := V.below B
  replace S4 := S4.below B
  obtain ⟨k0, k1, k2, k3, _, _⟩ := id V
  have c0 := cell_new w #[.int .i64 px, .int .i64 py] 35 0 rfl
  have c1 := cell_new w #[.int .i64 px, .int .i64 py] 35 1 rfl
  obtain ⟨x, HX⟩ : ∃ d, Hid (tl.any (fun r => decide ((px, py) = r)) = d) := ⟨_, rfl⟩
  rw [HX.out]
  go_enter Try.func70, Try.ntmps70
  go_wp2_with fail
  generalize w.alloc (.cells #[.int .i64 px, .int .i64 py] 35) = W at *
  refine (containsPt px py a4 c4 tl _ S4).mono ?_
  rintro e w1 ⟨rfl, hb⟩
  rw [HX.out]
  replace B := B.trans (hb.mono B.size)
  clear hb k0 k1 k2 k3 c0 c1
  go_wp2
  go_ret
  exact ⟨rfl, B⟩
set_option maxRecDepth 20000 in
theorem shareStart_any (v1 v2 v3 v4 : Value) (es fs : List Sg) (sl tl : List (Int × Int)) (w : World) (h : Ext w v1 v2 es sl) (k : Ext w v3 v4 fs tl) :
    Calls Try.prog 55 #[.agg #[v1, v2, v3, v4]] w fun e w' => e = .returned (.bool (sl.any (fun p => tl.any (fun q => decide (p = q))))) ∧ Below w.heap.size w w' := by
  obtain ⟨a2, c2, rfl, S2⟩ := h.p
  have B := below1 w (.cells #[v1, .slice a2 sl.length c2, v3, v4] 82)
  have V := Box4.new w (lo := 0) (by omega) v1 (.slice a2 sl.length c2) v3 v4 82
  obtain ⟨k0, k1, k2, k3, _, _⟩ := id V
  have k' := k.below B
  have C := containsShare w.heap.size (fun p => tl.any (fun q => decide (p = q))) a2 c2 sl _ (S2.below B) (fun W i hb hi => shareClosure w.heap.size v1 (.slice a2 sl.length c2) v3 v4 tl (ptA sl i).1 (ptA sl i).2 W (V.below hb) (k'.below hb).p)
  obtain ⟨x, HX⟩ : ∃ d, Hid (sl.any (fun p => tl.any (fun q => decide (p = q))) = d) := ⟨_, rfl⟩
  rw [HX.out] at C ⊢
  clear k k' h S2
  go_enter Try.func55, Try.ntmps55
  go_wp2_with fail
  generalize w.alloc (.cells #[v1, .slice a2 sl.length c2, v3, v4] 82) = W at *
  refine C.mono ?_
  rintro e w1 ⟨rfl, hb⟩
  replace B := B.trans (hb.mono B.size)
  clear hb C k0 k1 k2 k3
  go_wp2
  go_ret
  exact ⟨rfl, B⟩
end Go.Proofs.Ythafhfdhahbdoaa
