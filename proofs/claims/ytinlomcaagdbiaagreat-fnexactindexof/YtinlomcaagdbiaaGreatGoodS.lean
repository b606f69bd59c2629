import Derived.Test.YtinlomcaagdbiaaGreatFormS
import Derived.Test.YtinlomcaagdbiaaGreatRingH
import Derived.Test.YtinlomcaagdbiaaGreatFaultI
/- Which shapes are good, of the specification: Check's code, l5Good. -/
namespace Go.Proofs.YtinlomcaagdbiaaGreat
open Go.RowKit

def ringB (rs : List (List (Int × Int))) (r : Nat) : Bool := if r = 0 then firstB (rowA rs 0) else holeB rs r
def ringsB (rs : List (List (Int × Int))) : Nat → Bool
 | 0 => true
 | j + 1 => ringsB rs j && ringB rs j
def goodTo (k : Int) (rs : List (List (Int × Int))) (j : Nat) : Bool := formB k rs && (!decide (k = 5) || ringsB rs j)
def goodB (k : Int) (rs : List (List (Int × Int))) : Bool := goodTo k rs rs.length
theorem ringsB_mono {rs : List (List (Int × Int))} : ∀ {j m : Nat}, j ≤ m → ringsB rs m = true → ringsB rs j = true
 | j, 0, h, e => by
   obtain rfl : j = 0 := by omega
   exact e
 | j, m + 1, h, e => by
  rcases Nat.lt_or_ge m j with c | c
  ·obtain rfl : j = m + 1 := by omega
   exact e
  ·simp only [ringsB, Bool.and_eq_true] at e
   exact ringsB_mono c e.1
theorem goodTo_mono {k : Int} {rs : List (List (Int × Int))} {j m : Nat} (h : j ≤ m) (e : goodTo k rs m = true) : goodTo k rs j = true := by
 unfold goodTo at *
 rw [Bool.and_eq_true, Bool.or_eq_true] at *
 exact ⟨e.1, e.2.imp id (ringsB_mono h)⟩
theorem form_row {k : Int} {rs : List (List (Int × Int))} (h : formB k rs = true) {i : Nat} (hi : i < rs.length) : inB (rowA rs i).length (leastN k) (mostN k) = true ∧ okL (rowA rs i) = true := by
 have hr : rowsBad k rs rs.length = false := by
  cases q : rowsBad k rs rs.length
  ·rfl
  ·rw [formB, q] at h
   simp at h
 have hf : rowF k (rowA rs i) = false := by
  cases q : rowF k (rowA rs i)
  ·rfl
  ·rw [rows_found hi q] at hr
   cases hr
 have hb : rowBad k (rowA rs i) (rowA rs i).length = false := by
  cases q : rowBad k (rowA rs i) (rowA rs i).length
  ·rfl
  ·rw [rowF, q] at hf
   simp at hf
 refine ⟨?_, ?_⟩
 ·cases q : inB (rowA rs i).length (leastN k) (mostN k)
  ·rw [rowF, q] at hf
   cases hf
  ·rfl
 ·unfold okL
  rw [List.all_eq_true]
  intro p hp
  obtain ⟨m, hm, e⟩ := List.mem_iff_getElem.mp hp
  have hpt : ptBad k (rowA rs i) m = false := by
   cases q : ptBad k (rowA rs i) m
   ·rfl
   ·have := rowF_found (k := k) hm q
    rw [hf] at this
    cases this
  have ha : ptA (rowA rs i) m = p := by unfold ptA; rw [List.getElem?_eq_getElem hm, ← e]; rfl
  rw [ptBad, ha] at hpt
  cases q : ptOk p.1 p.2
  ·rw [q] at hpt
   cases hpt
  ·rfl
theorem area_row {rs : List (List (Int × Int))} (h : formB 5 rs = true) (i : Nat) (hi : i < rs.length) : okL (rowA rs i) = true ∧ 3 ≤ (rowA rs i).length ∧ (rowA rs i).length ≤ 60 := by
 obtain ⟨h1, h2⟩ := form_row h hi
 have h3 := inB_true.1 h1
 rw [show leastN 5 = 3 from rfl, show mostN 5 = 60 from rfl] at h3
 exact ⟨h2, by omega, by omega⟩

theorem l5Ring_any (n : Int) (a : Option Addr) (c : Nat) (rs : List (List (Int × Int))) (r : Nat) (w : World) (h : SeesS w a c rs) (hr : r < rs.length) (ok : ∀ i, i < rs.length → okL (rowA rs i) = true ∧ 3 ≤ (rowA rs i).length ∧ (rowA rs i).length ≤ 60) :
  Calls Tryz.prog 68 #[.agg #[.int .i64 n, .slice a rs.length c], .int .i64 r] w fun e w' => ∃ z x y : Int, e = .returned (.tuple #[.int .i64 z, .int .i64 x, .int .i64 y]) ∧ Hid (decide (z = 0) = ringB rs r) ∧ Below w.heap.size w w' := by
 unfold ringB
 by_cases h0 : r = 0
 ·subst h0
  rw [if_pos rfl]
  obtain ⟨o1, o2, o3⟩ := ok 0 hr
  exact l5Ring_zero n a c rs w h hr o1 o3
 ·rw [if_neg h0]
  exact l5Ring_hole n a c rs r w h (by omega) hr (fun i hi => ⟨(ok i hi).1, by have := (ok i hi).2.1; omega, (ok i hi).2.2⟩)

set_option maxRecDepth 20000 in
set_option maxHeartbeats 2000000 in
theorem specCheck (n : Int) (a : Option Addr) (c : Nat) (rs : List (List (Int × Int))) (w : World) (h : SeesS w a c rs) :
  Calls Tryz.prog 52 #[.agg #[.int .i64 n, .slice a rs.length c]] w fun e w' => ∃ z x y : Int, e = .returned (.tuple #[.int .i64 z, .int .i64 x, .int .i64 y]) ∧ Hid (decide (z = 0) = goodB n rs) ∧ Below w.heap.size w w' := by
 have hm := h.max
 have hf := h.fits
 unfold maxLen at hm
 have B0 := below1 w (.cells #[.int .i64 n, .slice a rs.length c] 50)
 have V0 := Box2.new w (lo := w.heap.size) (Nat.le_refl _) (.int .i64 n) (.slice a rs.length c) 50
 obtain ⟨k0, k1, _, _⟩ := id V0
 have SW := h.below B0
 go_enter Tryz.func52, Tryz.ntmps52
 go_wp2_with fail
 generalize w.alloc (.cells #[.int .i64 n, .slice a rs.length c] 50) = W at *
 refine (l5Form_any n a c rs _ SW).mono ?_
 rintro e w1 ⟨z, x, y, rfl, HZ, hb⟩
 have HZ0 : Hid (decide (z = 0) = goodTo n rs 0) := by
  show _ = _
  rw [HZ.out]
  unfold goodTo
  simp [ringsB]
 clear HZ k0 k1
 go_wp2
 go_loopw [5, 6, 7, 8] (fun s5 s6 s7 s8 wr => ∃ (j : Nat) (z x y : Int), j ≤ rs.length ∧ s8 = .int .i64 j ∧ s5 = .int .i64 z ∧ s6 = .int .i64 x ∧ s7 = .int .i64 y ∧ Hid (decide (z = 0) = goodTo n rs j) ∧ Below W.heap.size W wr) (fun _ _ _ s8 _ => rs.length - (intOf s8).toNat)
 case atStart => exact ⟨0, z, x, y, Nat.zero_le _, rfl, rfl, rfl, rfl, HZ0, hb⟩
 case round =>
  clear HZ0 hb
  obtain ⟨j, z, x, y, hj, rfl, rfl, rfl, rfl, HZ, N⟩ := hrel
  rename World => wr
  obtain ⟨k0, k1, _, _⟩ := V0.below N
  by_cases hlt : j < rs.length
  ·by_cases hz : z = 0
   ·subst hz
    by_cases h5 : n = 5
    ·subst h5
     have hg : goodTo 5 rs j = true := HZ.out.symm
     have hform : formB 5 rs = true := by unfold goodTo at hg; rw [Bool.and_eq_true] at hg; exact hg.1
     have HN : Hid (goodTo 5 rs (j + 1) = ringB rs j) := by
      show _ = _
      unfold goodTo at hg ⊢
      rw [hform] at hg ⊢
      simp only [ringsB, decide_true, Bool.not_true, Bool.false_or, Bool.true_and] at hg ⊢
      rw [hg, Bool.true_and]
     clear HZ hg
     go_wp2_with fail
     refine (l5Ring_any 5 a c rs j _ (SW.below N) hlt (area_row hform)).mono ?_
     rintro e w3 ⟨z2, x2, y2, rfl, HZ2, hb⟩
     replace N := N.trans (hb.mono N.size)
     clear hb k0 k1
     go_wp2
     go_roundw
     case rel => exact ⟨j + 1, z2, x2, y2, by omega, by go_num, rfl, rfl, rfl, HZ2.out.trans HN.out.symm, N⟩
     case measure => simp [intOf]; omega
    ·have b5 : (n == 5) = false := by simp [h5]
     have F : Hid (decide ((0 : Int) = 0) = goodB n rs) := by
      show _ = _
      rw [HZ.out]
      unfold goodB goodTo
      rw [decide_eq_false h5]
      rfl
     clear HZ
     go_wp2
     refine bodyPost_ret (v := .tuple #[.int .i64 0, .int .i64 x, .int .i64 y]) (by simp [results, Tryz.results52, go_sem]) rfl ?_
     first
     | exact ⟨_, _, _, rfl, F, B0.trans (N.mono B0.size)⟩
     | exact ⟨_, ⟨_, _, rfl⟩, F, B0.trans (N.mono B0.size)⟩
   ·have bz : (z == 0) = false := by simp [hz]
    have F : Hid (decide (z = 0) = goodB n rs) := by
     show _ = _
     have q := HZ.out
     rw [decide_eq_false hz] at q ⊢
     cases g : goodB n rs
     ·rfl
     ·have := goodTo_mono hj g
      rw [← q] at this
      cases this
    clear HZ
    go_wp2
    refine bodyPost_ret (v := .tuple #[.int .i64 z, .int .i64 x, .int .i64 y]) (by simp [results, Tryz.results52, go_sem]) rfl ?_
    first
    | exact ⟨_, _, _, rfl, F, B0.trans (N.mono B0.size)⟩
    | exact ⟨_, ⟨_, _, rfl⟩, F, B0.trans (N.mono B0.size)⟩
  ·obtain rfl : j = rs.length := by omega
   have F : Hid (decide (z = 0) = goodB n rs) := HZ
   clear HZ
   go_wp2
   refine bodyPost_ret (v := .tuple #[.int .i64 z, .int .i64 x, .int .i64 y]) (by simp [results, Tryz.results52, go_sem]) rfl ?_
   first
   | exact ⟨_, _, _, rfl, F, B0.trans (N.mono B0.size)⟩
   | exact ⟨_, ⟨_, _, rfl⟩, F, B0.trans (N.mono B0.size)⟩

set_option maxRecDepth 20000 in
theorem l5Good_any (n : Int) (a : Option Addr) (c : Nat) (rs : List (List (Int × Int))) (w : World) (h : SeesS w a c rs) :
  Calls Tryz.prog 35 #[.agg #[.int .i64 n, .slice a rs.length c]] w fun e w' => e = .returned (.bool (goodB n rs)) ∧ Below w.heap.size w w' := by
 have B0 := below1 w (.cells #[.int .i64 n, .slice a rs.length c] 50)
 have SW := h.below B0
 go_enter Tryz.func35, Tryz.ntmps35
 go_wp2_with fail
 refine (specCheck n a c rs _ SW).mono ?_
 rintro e w1 ⟨z, x, y, rfl, HZ, hb⟩
 replace B0 := B0.trans (hb.mono B0.size)
 clear hb SW h
 by_cases hz : z = 0
 ·subst hz
  have F : Hid (goodB n rs = true) := HZ.out.symm
  clear HZ
  go_wp2
  go_ret
  exact ⟨by rw [F.out]; rfl, B0⟩
 ·have bz : (z == 0) = false := by simp [hz]
  have F : Hid (goodB n rs = false) := by
   show _ = _
   rw [← HZ.out, decide_eq_false hz]
  clear HZ
  go_wp2
  go_ret
  exact ⟨by rw [F.out]; rfl, B0⟩
end Go.Proofs.YtinlomcaagdbiaaGreat

/- The program and the specification call the same areas good. Mathematics. -/
namespace Go.Proofs.YtinlomcaagdbiaaGreat

theorem mtR_any (ps qs : List (Int × Int)) (i : Nat) : ∀ k, mtR ps qs i k = (List.range k).any (mtE ps qs i)
 | 0 => rfl
 | k + 1 => by
  simp only [mtR]
  rw [mtR_any ps qs i k, List.range_succ, List.any_append]
  simp
theorem tch_any (ps qs : List (Int × Int)) : ∀ i, tch ps qs i = (List.range i).any (fun i => mtR ps qs i qs.length)
 | 0 => rfl
 | i + 1 => by
  simp only [tch]
  rw [tch_any ps qs i, List.range_succ, List.any_append]
  simp
theorem any_congr {α : Type} {f g : α → Bool} : ∀ {l : List α}, (∀ x ∈ l, f x = g x) → l.any f = l.any g
 | [], _ => rfl
 | a :: l, h => by
  rw [List.any_cons, List.any_cons, h a (by simp), any_congr (fun x hx => h x (by simp [hx]))]
theorem tch_same (ps qs : List (Int × Int)) : tch ps qs ps.length = anyQ (edL ps) (edL qs) := by
 rw [tch_any]
 unfold anyQ edL
 rw [List.any_map]
 apply any_congr
 intro i _
 rw [mtR_any]
 unfold anyE
 rw [Function.comp_apply, List.any_map]
 rfl
theorem onR_some {ps : List (Int × Int)} {px py : Int} : ∀ {n : Nat}, onR ps px py n = true → ∃ i, i < n ∧ onE ps px py i = true
 | 0, h => by cases h
 | n + 1, h => by
  simp only [onR, Bool.or_eq_true] at h
  rcases h with h | h
  ·obtain ⟨i, hi, hh⟩ := onR_some h
   exact ⟨i, by omega, hh⟩
  ·exact ⟨n, by omega, h⟩
theorem tch_of {ps qs : List (Int × Int)} {i k : Nat} (hi : i < ps.length) (hk : k < qs.length) (h : mtE ps qs i k = true) : tch ps qs ps.length = true := by
 rw [tch_any, List.any_eq_true]
 refine ⟨i, List.mem_range.mpr hi, ?_⟩
 rw [mtR_any, List.any_eq_true]
 exact ⟨k, List.mem_range.mpr hk, h⟩
theorem touch_first {ps q : List (Int × Int)} (h0 : 0 < ps.length) (h : tch ps q ps.length = false) : onR q (ptA ps 0).1 (ptA ps 0).2 q.length = false := by
 cases e : onR q (ptA ps 0).1 (ptA ps 0).2 q.length
 ·rfl
 ·exfalso
  obtain ⟨i, hi, ho⟩ := onR_some e
  have hm : mtE ps q 0 i = true := by
   unfold onE at ho
   unfold mtE
   exact metI_iff.2 (MT_of_on _ _ (onB_iff.1 ho)).other
  rw [tch_of h0 hi hm] at h
  cases h
theorem touch_other {ps q : List (Int × Int)} (h0 : 0 < q.length) (h : tch ps q ps.length = false) : onR ps (ptA q 0).1 (ptA q 0).2 ps.length = false := by
 cases e : onR ps (ptA q 0).1 (ptA q 0).2 ps.length
 ·rfl
 ·exfalso
  obtain ⟨i, hi, ho⟩ := onR_some e
  have hm : mtE ps q i 0 = true := by
   unfold onE at ho
   unfold mtE
   exact metI_iff.2 (MT_of_on _ _ (onB_iff.1 ho))
  rw [tch_of hi h0 hm] at h
  cases h
theorem onR_at {ps : List (Int × Int)} {px py : Int} {n i : Nat} (h : onR ps px py n = false) (hi : i < n) : onE ps px py i = false := by
 cases e : onE ps px py i
 ·rfl
 ·have : onR ps px py (i + 1) = true := by simp only [onR]; rw [e, Bool.or_true]
  rw [onR_mono (show i + 1 ≤ n by omega) this] at h
  cases h
theorem in_both {q : List (Int × Int)} {p : Int × Int} (h0 : 0 < q.length) (h : onR q p.1 p.2 q.length = false) : decide (inV q p.1 p.2 = 2) = arQ (edL q) p := by
 have e := in_same (X := fun i => (ptA q i).1) (Y := fun i => (ptA q i).2) (px := p.1) (py := p.2) h0 (fun i hi => onR_at h hi)
 have e2 : arQ (edL q) p = par (fun i => hitI (ptA q i).1 (ptA q i).2 (ptA q ((i + 1) % q.length)).1 (ptA q ((i + 1) % q.length)).2 p.1 p.2) q.length := by
  unfold arQ
  rw [edL_len]
  apply par_congr
  intro i hi
  unfold hqE
  rw [edL_at hi]
  rfl
 rw [e2, ← e]
 unfold inV
 rw [h]
 show decide ((if par (hsE q p.1 p.2) q.length = true then (2 : Int) else 0) = 2) = par (hsE q p.1 p.2) q.length
 cases par (hsE q p.1 p.2) q.length <;> rfl
def nstQ (ps q : List (Int × Int)) : Bool := tch ps q ps.length || decide (inV q (ptA ps 0).1 (ptA ps 0).2 = 2) || decide (inV ps (ptA q 0).1 (ptA q 0).2 = 2)
theorem nstQ_free {ps q : List (Int × Int)} (hp : 0 < ps.length) (hq : 0 < q.length) (h : tch ps q ps.length = false) : nstQ ps q = nestI ps q := by
 unfold nstQ nestI
 rw [h, Bool.false_or, in_both hq (touch_first hp h), in_both hp (touch_other hq h)]
theorem any_tch (ps : List (Int × Int)) (t : List (List (Int × Int))) : t.any (fun q => tch ps q ps.length) = anyQ (edL ps) (t.map edL).flatten := by
 rw [Bool.eq_iff_iff]
 unfold anyQ anyE
 simp only [List.any_eq_true, List.mem_flatten, List.mem_map]
 constructor
 ·rintro ⟨q, hq, h⟩
  rw [tch_same] at h
  unfold anyQ anyE at h
  simp only [List.any_eq_true] at h
  obtain ⟨e, he, f, hf, hm⟩ := h
  exact ⟨e, he, f, ⟨_, ⟨q, hq, rfl⟩, hf⟩, hm⟩
 ·rintro ⟨e, he, f, ⟨_, ⟨q, hq, rfl⟩, hf⟩, hm⟩
  refine ⟨q, hq, ?_⟩
  rw [tch_same]
  unfold anyQ anyE
  simp only [List.any_eq_true]
  exact ⟨e, he, f, hf, hm⟩
theorem nest_same {ps : List (Int × Int)} {t : List (List (Int × Int))} (hp : 0 < ps.length) (ht : ∀ q ∈ t, 0 < q.length) : t.any (nstQ ps) = (anyQ (edL ps) (t.map edL).flatten || t.any (nestI ps)) := by
 rw [← any_tch]
 cases e : t.any (fun q => tch ps q ps.length)
 ·rw [Bool.false_or]
  apply any_congr
  intro q hq
  refine nstQ_free hp (ht q hq) ?_
  cases c : tch ps q ps.length
  ·rfl
  ·rw [List.any_eq_true.mpr ⟨q, hq, c⟩] at e
   cases e
 ·rw [Bool.true_or]
  obtain ⟨q, hq, c⟩ := List.any_eq_true.mp e
  refine List.any_eq_true.mpr ⟨q, hq, ?_⟩
  unfold nstQ
  rw [c]
  rfl
theorem nst_any {q : List (Int × Int)} {rs : List (List (Int × Int))} {r : Nat} : ∀ k, k ≤ rs.length → nst (q :: rs) r (k + 1) = (rs.take k).any (nstQ (rowA (q :: rs) r))
 | 0, _ => by
  simp only [nst]
  simp
 | k + 1, h => by
  have ih := nst_any (q := q) (rs := rs) (r := r) k (by omega)
  have hk : k < rs.length := by omega
  rw [show nst (q :: rs) r (k + 1 + 1) = (nst (q :: rs) r (k + 1) || (decide (1 ≤ k + 1) && nstE (q :: rs) r (k + 1))) from rfl, ih, List.take_add_one, List.getElem?_eq_getElem hk, List.any_append, decide_eq_true (by omega), Bool.true_and]
  congr 1
  have e : rowA (q :: rs) (k + 1) = rs[k] := by unfold rowA; rw [List.getElem?_cons_succ, List.getElem?_eq_getElem hk]; rfl
  unfold nstE
  rw [e]
  simp only [Option.toList_some, List.any_cons, List.any_nil, Bool.or_false]
  rfl
theorem ring_same {rs : List (List (Int × Int))} {r : Nat} (hr : r < rs.length) (ok : ∀ i, i < rs.length → 0 < (rowA rs i).length) : ringI rs r = ringB rs r := by
 unfold ringI ringB
 by_cases h0 : r = 0
 ·subst h0
  rw [if_pos rfl]
  unfold turnI firstB
  rw [if_pos rfl]
  rw [List.take_zero, show holeI (rowA rs 0) [] = true from rfl, Bool.and_true]
 ·rw [if_neg h0]
  unfold turnI holeB
  rw [if_neg h0]
  congr 2
  have hp := ok r hr
  have hq := ok 0 (by omega)
  cases rs with
  | nil => simp at hr
  | cons q t =>
   obtain ⟨m, rfl⟩ : ∃ m, r = m + 1 := ⟨r - 1, by omega⟩
   rw [List.length_cons] at hr
   have e0 : rowA (q :: t) 0 = q := rfl
   rw [e0] at hq ⊢
   rw [List.take_succ_cons, nst_any m (by omega)]
   have ht : ∀ s ∈ t.take m, 0 < s.length := by
    intro s hs
    obtain ⟨i, hi, e⟩ := List.mem_iff_getElem.mp (List.mem_of_mem_take hs)
    have := ok (i + 1) (by rw [List.length_cons]; omega)
    rw [show rowA (q :: t) (i + 1) = t[i] by unfold rowA; rw [List.getElem?_cons_succ, List.getElem?_eq_getElem hi]; rfl, e] at this
    exact this
   generalize rowA (q :: t) (m + 1) = ps at *
   rw [nest_same hp ht]
   show (!anyQ (edL ps) (edL q) && (arQ (edL q) (ptA ps 0) && (!anyQ (edL ps) ((t.take m).map edL).flatten && !(t.take m).any (nestI ps)))) = _
   rw [Bool.not_or, tch_same]
   cases hc : anyQ (edL ps) (edL q)
   ·rw [← tch_same] at hc
    rw [in_both hq (touch_first hp hc)]
   ·rfl
theorem rings_same {rs : List (List (Int × Int))} (ok : ∀ i, i < rs.length → 0 < (rowA rs i).length) : ∀ j, j ≤ rs.length → ringsI rs j = ringsB rs j
 | 0, _ => rfl
 | j + 1, h => by
  simp only [ringsI, ringsB]
  rw [rings_same ok j (by omega), ring_same (by omega) ok]
end Go.Proofs.YtinlomcaagdbiaaGreat
