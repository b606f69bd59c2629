import Derived.Test.YtinlomcaagdbiaaGreatTouch
import Derived.Test.YtinlomcaagdbiaaGreatInS
import Derived.Test.YtinlomcaagdbiaaGreatSeg
import Derived.Deep.DeepCutAuto
/- Where a hole lies among the rings ahead of it: of the program (holeFault). -/
namespace Go.Proofs.YtinlomcaagdbiaaGreat
open Go.RowKit

theorem startQ (a : Option Addr) (c : Nat) (es : List Sg) (w : World) (h : SeesQ w a c es) (h0 : 0 < es.length) :
  Calls Tryz.prog 121 #[.slice a es.length c] w fun e w' => e = .returned (.agg #[.int .i64 (sgA es 0).1.1, .int .i64 (sgA es 0).1.2]) ∧ Below w.heap.size w w' := by
 have bn := below1 w (.cells #[.int .i64 0, .int .i64 0] 25)
 obtain ⟨b, off, rfl, hc⟩ := (h.below bn).cells (by intro e; simp [e] at h0)
 obtain ⟨g1, g2, _, _⟩ := hc 0 h0
 have hlt : b < w.heap.size := by
  obtain ⟨b', off', e', hc'⟩ := h.cells (by intro e; simp [e] at h0)
  simp only [Option.some.injEq, Addr.mk.injEq] at e'
  obtain ⟨rfl, rfl, _⟩ := e'
  exact World.block_lt_of_cell? _ _ (hc' 0 h0).1
 simp only [Nat.zero_mul, Nat.add_zero] at g1 g2
 clear hc
 generalize (sgA es 0).1.1 = x at *
 generalize (sgA es 0).1.2 = y at *
 have hne : b ≠ w.heap.size := Nat.ne_of_lt hlt
 go_enter Tryz.func121, Tryz.ntmps121
 go_wp2
 go_returns
 exact ⟨rfl, below1 _ _⟩

def arQ (es : List Sg) (p : Int × Int) : Bool := par (hqE es p.1 p.2) es.length
def nestI (ps q : List (Int × Int)) : Bool := arQ (edL q) (ptA ps 0) || arQ (edL ps) (ptA q 0)
def holeI (ps : List (Int × Int)) : List (List (Int × Int)) → Bool
 | [] => true
 | q :: t => !anyQ (edL ps) (edL q) && (arQ (edL q) (ptA ps 0) && (!anyQ (edL ps) (t.map edL).flatten && !t.any (nestI ps)))
theorem okQ_edL {ps : List (Int × Int)} (h : okL ps = true) : okQ (edL ps) = true := by
 unfold okQ edL
 rw [List.all_eq_true]
 intro e he
 simp only [List.mem_map, List.mem_range] at he
 obtain ⟨i, hi, rfl⟩ := he
 have h1 := okL_at h hi
 have h2 := okL_at h (nx_lt hi)
 unfold Crd at h1 h2
 simp only [ptOk, Bool.and_eq_true, inB_true]
 exact ⟨h1, h2⟩
theorem okQ_flat {t : List (List (Int × Int))} (h : ∀ q ∈ t, okL q = true) : okQ (t.map edL).flatten = true := by
 unfold okQ
 rw [List.all_flatten, List.all_map, List.all_eq_true]
 intro q hq
 exact okQ_edL (h q hq)
theorem edL_start {ps : List (Int × Int)} (h : 0 < ps.length) : (sgA (edL ps) 0).1 = ptA ps 0 := by rw [edL_at h]
theorem rowQ_map {t : List (List (Int × Int))} {i : Nat} (h : i < t.length) : rowQ (t.map edL) i = edL (t[i]) := by
 unfold rowQ
 rw [List.getElem?_map, List.getElem?_eq_getElem h]
 rfl

theorem SeesR.tail {w : World} {b off c : Nat} {e : List Sg} {t : List (List Sg)} (h : SeesR w (some ⟨b, off, none⟩) c (e :: t)) : SeesR w (if c = 1 then some ⟨b, off, none⟩ else some ⟨b, off + 1, none⟩) (c - 1) t := by
 have hf := h.fits
 have hm := h.max
 simp only [List.length_cons] at hf
 refine ⟨by omega, by omega, fun hn => ?_⟩
 have ht : 0 < t.length := List.length_pos_iff.mpr hn
 rw [if_neg (by omega)]
 obtain ⟨b', off', he, hc⟩ := h.cells (by simp)
 simp only [Option.some.injEq, Addr.mk.injEq] at he
 obtain ⟨rfl, rfl, _⟩ := he
 refine ⟨b, off + 1, rfl, fun i hi => ?_⟩
 obtain ⟨a', c', g, S⟩ := hc (i + 1) (by simp; omega)
 rw [show rowQ (e :: t) (i + 1) = rowQ t i by simp [rowQ]] at g S
 rw [show off + (i + 1) = off + 1 + i by omega] at g
 exact ⟨a', c', g, S⟩
theorem SeesR.one {w : World} {a : Option Addr} {c : Nat} {es : List Sg} (h : SeesQ w a c es) (t : TypeId) : SeesR (w.alloc (.cells #[.slice a es.length c] t)) (some ⟨w.heap.size, 0, none⟩) 1 [es] :=
 ⟨by simp, by simp [maxLen], fun _ => ⟨w.heap.size, 0, rfl, fun i hi => by
  obtain rfl : i = 0 := by simp at hi; omega
  exact ⟨a, c, cell_new w #[.slice a es.length c] t 0 rfl, h.below (below1 _ _)⟩⟩⟩

set_option maxRecDepth 20000 in
set_option maxHeartbeats 4000000 in
theorem holeFault_any (a1 : Option Addr) (c1 : Nat) (ps : List (Int × Int)) (a2 : Option Addr) (c2 : Nat) (qs : List (List (Int × Int))) (w : World) (h : SeesQ w a1 c1 (edL ps)) (k : SeesR w a2 c2 (qs.map edL)) (okp : okL ps = true) (np : 0 < ps.length) (okq : ∀ q ∈ qs, okL q = true ∧ 0 < q.length ∧ q.length ≤ 60) (hn : qs.length ≤ 12) :
  Calls Tryz.prog 102 #[.slice a1 ps.length c1, .slice a2 qs.length c2] w fun e w' => ∃ z x : Int, e = .returned (.tuple #[.int .i64 z, .int .i64 x]) ∧ Hid (decide (z = 0) = holeI ps qs) ∧ Below w.heap.size w w' := by
 cases qs with
 | nil =>
  go_enter Tryz.func102, Tryz.ntmps102
  go_wp2
  exact bodyPost_ret (v := .tuple #[.int .i64 0, .int .i64 0]) (by simp [results, Tryz.results102, go_sem]) rfl ⟨_, _, rfl, rfl, Below.refl _ _⟩
 | cons q t =>
 have km := k.max
 have kf := k.fits
 unfold maxLen at km
 obtain ⟨b, off, rfl, hc⟩ := k.cells (by simp)
 obtain ⟨aq, cq, g0, Q⟩ := hc 0 (by simp)
 rw [Nat.add_zero] at g0
 rw [show rowQ (List.map edL (q :: t)) 0 = edL q from rfl, edL_len] at g0
 replace Q : SeesQ w aq cq (edL q) := Q
 obtain ⟨oq, nq, sq⟩ := okq q (by simp)
 have ot : ∀ r ∈ t, okL r = true ∧ 0 < r.length ∧ r.length ≤ 60 := fun r hr => okq r (by simp [hr])
 have hl : (q :: t).length = t.length + 1 := rfl
 have kf2 : t.length + 1 ≤ c2 := by simpa using kf
 rw [hl]
 rw [hl] at hn
 have hl1 : (1 : Int) ≤ (t.length : Int) + 1 := by omega
 go_enter Tryz.func102, Tryz.ntmps102
 go_wp2_with fail
 have N := (Below.refl w.heap.size w).drew
 refine wp_region_held_drew (S := Below w.heap.size w) (by kernel_rfl) N (fun hHeld => ?_)
 clear hHeld
 refine takeA (i := 0) (h := ?_)
 refine takeA (i := 1) (h := ?_)
 refine takeA (i := 2) (hy := by intro wq hSw; have z0 := bat hSw g0; go_simp <;> with_reducible rfl) (h := ?_)
 refine takeA (i := 3) (h := ?_)
 refine takeA (i := 4) (h := ?_)
 refine takeA (i := 5) (h := ?_)
 refine takeA (i := 6) (h := ?_)
 refine wpAnyH_done (by kernel_rfl) ?_ _
 have HH : Hid (holeI ps (q :: t) = (!anyQ (edL ps) (edL q) && (arQ (edL q) (ptA ps 0) && (!anyQ (edL ps) (t.map edL).flatten && !t.any (nestI ps))))) := (rfl : holeI ps (q :: t) = _)
 have T := k.tail
 replace T : SeesR w _ (c2 - 1) (t.map edL) := T
 clear hc k
 replace h := h.below N
 replace Q := Q.below N
 replace T := T.below N
 generalize (if c2 = 1 then some (⟨b, off, none⟩ : Addr) else some ⟨b, off + 1, none⟩) = aT at *
 have B : Below w.heap.size w w.drew := N
 clear N g0
 generalize w.drew = w0 at *
 have OP := okQ_edL okp
 have OQ := okQ_edL oq
 have OT := okQ_flat (fun r hr => (ot r hr).1)
 have TL : ∀ i, i < (t.map edL).length → 0 < (rowQ (t.map edL) i).length ∧ (rowQ (t.map edL) i).length ≤ 60 := by
  intro i hi
  rw [List.length_map] at hi
  rw [rowQ_map hi, edL_len]
  exact (ot _ (List.getElem_mem hi)).2
 have TL1 : ∀ i, i < [edL q].length → 0 < (rowQ [edL q] i).length ∧ (rowQ [edL q] i).length ≤ 60 := by
  intro i hi
  obtain rfl : i = 0 := by simp at hi; omega
  rw [show rowQ [edL q] 0 = edL q from rfl, edL_len]
  exact ⟨nq, sq⟩
 have S1 := SeesR.one Q 161
 have bn := below1 w0 (.cells #[.slice aq (edL q).length cq] 161)
 have M1 := firstMeeting_any a1 _ c1 _ (edL ps) [edL q] _ (h.below bn) S1 OP (by simpa using OQ) (by simp) TL1
 rw [edL_len] at M1 bn
 rw [edL_len] at M1
 simp only [List.length_cons, List.length_nil, List.flatten_cons, List.flatten_nil, List.append_nil] at M1
 replace h := h.below bn
 replace Q := Q.below bn
 replace T := T.below bn
 replace B := B.trans (bn.mono B.size)
 clear bn S1 TL1
 go_wp2_with fail
 generalize w0.alloc (.cells #[.slice aq q.length cq] 161) = W1 at *
 refine M1.mono ?_
 rintro e w1 ⟨z1, rfl, HZ, hb⟩
 replace h := h.below hb
 replace Q := Q.below hb
 replace T := T.below hb
 replace B := B.trans (hb.mono B.size)
 clear hb M1
 by_cases hz : 0 ≤ z1
 ·have F : Hid (holeI ps (q :: t) = false) := by
   show _ = _
   have := HZ.out.1
   rw [decide_eq_true hz] at this
   rw [HH.out, ← this]
   rfl
  clear HZ HH
  go_wp2
  exact bodyPost_ret (v := .tuple #[.int .i64 _, .int .i64 _]) (by simp [results, Tryz.results102, go_sem]; exact ⟨rfl, rfl⟩) rfl ⟨_, _, rfl, (by show _ = _; rw [F.out]; rfl), B⟩
 replace HH : Hid (holeI ps (q :: t) = (arQ (edL q) (ptA ps 0) && (!anyQ (edL ps) (t.map edL).flatten && !t.any (nestI ps)))) := by
  show _ = _
  have := HZ.out.1
  rw [decide_eq_false hz] at this
  rw [HH.out, ← this]
  rfl
 clear HZ
 have ST := startQ a1 c1 (edL ps) _ h (by rw [edL_len]; exact np)
 rw [edL_len, edL_start np] at ST
 obtain ⟨cx, cy⟩ := okL_at okp np
 obtain ⟨p0, hp0⟩ : ∃ z, Hid (ptA ps 0 = z) := ⟨_, rfl⟩
 rw [hp0.out] at ST cx cy HH
 have HN : Hid (∀ r, nestI ps r = (arQ (edL r) p0 || arQ (edL ps) (ptA r 0))) := by
  show ∀ r, _ = _
  intro r
  unfold nestI
  rw [hp0.out]
 obtain ⟨px, py⟩ := p0
 dsimp only at ST cx cy
 go_wp2_with fail
 refine ST.mono ?_
 rintro e w2 ⟨rfl, hb⟩
 replace h := h.below hb
 replace Q := Q.below hb
 replace T := T.below hb
 replace B := B.trans (hb.mono B.size)
 clear hb ST
 have AR := around_any aq cq (edL q) px py _ Q OQ cx cy
 rw [edL_len] at AR
 have EA : Hid (par (hqE (edL q) px py) q.length = arQ (edL q) (px, py)) := by
  show _ = _
  unfold arQ
  rw [edL_len]
 rw [EA.out] at AR
 go_wp2_with fail
 refine AR.mono ?_
 rintro e w3 ⟨rfl, hb⟩
 replace h := h.below hb
 replace T := T.below hb
 replace B := B.trans (hb.mono B.size)
 clear hb AR EA Q
 cases ha : arQ (edL q) (px, py)
 ·have F : Hid (holeI ps (q :: t) = false) := by
   show _ = _
   rw [HH.out, ha]
   rfl
  clear HH HN
  go_wp2
  exact bodyPost_ret (v := .tuple #[.int .i64 _, .int .i64 _]) (by simp [results, Tryz.results102, go_sem]; exact ⟨rfl, rfl⟩) rfl ⟨_, _, rfl, (by show _ = _; rw [F.out]; rfl), B⟩
 replace HH : Hid (holeI ps (q :: t) = (!anyQ (edL ps) (t.map edL).flatten && !t.any (nestI ps))) := by
  show _ = _
  rw [HH.out, ha]
  rfl
 clear ha
 have M2 := firstMeeting_any a1 aT c1 (c2 - 1) (edL ps) (t.map edL) _ h T OP OT (by rw [List.length_map]; omega) TL
 rw [edL_len, List.length_map] at M2
 go_wp2_with fail
 refine M2.mono ?_
 rintro e w4 ⟨z2, rfl, HZ, hb⟩
 replace h := h.below hb
 replace T := T.below hb
 replace B := B.trans (hb.mono B.size)
 clear hb M2
 by_cases hz2 : 0 ≤ z2
 ·have F : Hid (holeI ps (q :: t) = false) := by
   show _ = _
   have := HZ.out.1
   rw [decide_eq_true hz2] at this
   rw [HH.out, ← this]
   rfl
  clear HZ HH HN
  go_wp2
  exact bodyPost_ret (v := .tuple #[.int .i64 _, .int .i64 _]) (by simp [results, Tryz.results102, go_sem]; exact ⟨rfl, rfl⟩) rfl ⟨_, _, rfl, (by show _ = _; rw [F.out]; rfl), B⟩
 replace HH : Hid (holeI ps (q :: t) = !t.any (nestI ps)) := by
  show _ = _
  have := HZ.out.1
  rw [decide_eq_false hz2] at this
  rw [HH.out, ← this]
  rfl
 clear HZ
 go_wp2
 go_loopw [41] (fun s41 wr => ∃ j : Nat, j ≤ t.length ∧ s41 = .int .i64 j ∧ Hid ((t.take j).any (nestI ps) = false) ∧ Below w4.heap.size w4 wr) (fun s41 _ => t.length - (intOf s41).toNat)
 case atStart => exact ⟨0, Nat.zero_le _, rfl, rfl, Below.refl _ _⟩
 case round =>
  obtain ⟨j, hj, rfl, G, N⟩ := hrel
  rename World => wr
  by_cases hlt : j < t.length
  ·have TJ := T.below N
   have hJ := h.below N
   obtain ⟨bT, oT, rfl, hc⟩ := TJ.cells (by intro e; simp [List.map_eq_nil_iff] at e; simp [e] at hlt)
   obtain ⟨a', c', g, S⟩ := hc j (by rw [List.length_map]; exact hlt)
   rw [rowQ_map hlt] at g S
   rw [edL_len] at g
   have hmem := List.getElem_mem hlt
   obtain ⟨o1, n1, s1⟩ := ot _ hmem
   have HT : Hid (nestI ps (t[j]) = true → holeI ps (q :: t) = false) := fun e => by
    rw [HH.out, List.any_eq_true.mpr ⟨_, hmem, e⟩]
    rfl
   have HF : Hid (nestI ps (t[j]) = false → (t.take (j + 1)).any (nestI ps) = false) := fun e => by
    rw [List.take_add_one, List.getElem?_eq_getElem hlt, List.any_append, G.out]
    simp [e]
   have HE := HN.out (t[j])
   clear G hc hmem
   generalize t[j] = r at *
   have O1 := okQ_edL o1
   have ST := startQ a1 c1 (edL ps) _ hJ (by rw [edL_len]; exact np)
   rw [edL_len, edL_start np, hp0.out] at ST
   dsimp only at ST
   go_wp2_with fail
   refine ST.mono ?_
   rintro e w5 ⟨rfl, hb⟩
   replace hJ := hJ.below hb
   replace S := S.below hb
   replace N := N.trans (hb.mono N.size)
   clear hb ST g
   have AR := around_any a' c' (edL r) px py _ S O1 cx cy
   rw [edL_len] at AR
   rw [show par (hqE (edL r) px py) r.length = arQ (edL r) (px, py) by unfold arQ; rw [edL_len]] at AR
   go_wp2_with fail
   refine AR.mono ?_
   rintro e w6 ⟨rfl, hb⟩
   replace hJ := hJ.below hb
   replace S := S.below hb
   replace N := N.trans (hb.mono N.size)
   clear hb AR
   cases h1 : arQ (edL r) (px, py)
   ·have S2 := startQ a' c' (edL r) _ S (by rw [edL_len]; exact n1)
    rw [edL_len, edL_start n1] at S2
    obtain ⟨dx, dy⟩ := okL_at o1 n1
    rw [h1, Bool.false_or] at HE
    replace HE : Hid (nestI ps r = arQ (edL ps) (ptA r 0)) := HE
    clear h1
    generalize ptA r 0 = r0 at *
    obtain ⟨rx, ry⟩ := r0
    dsimp only at S2 dx dy
    go_wp2_with fail
    refine S2.mono ?_
    rintro e w7 ⟨rfl, hb⟩
    replace hJ := hJ.below hb
    replace N := N.trans (hb.mono N.size)
    clear hb S2
    have A2 := around_any a1 c1 (edL ps) rx ry _ hJ OP dx dy
    rw [edL_len] at A2
    rw [show par (hqE (edL ps) rx ry) ps.length = arQ (edL ps) (rx, ry) by unfold arQ; rw [edL_len]] at A2
    go_wp2_with fail
    refine A2.mono ?_
    rintro e w8 ⟨rfl, hb⟩
    replace N := N.trans (hb.mono N.size)
    clear hb A2
    cases h2 : arQ (edL ps) (rx, ry)
    ·rw [h2] at HE
     have G' := HF.out HE.out
     clear HE HT HF h2
     go_wp2
     go_roundw
     case rel => exact ⟨j + 1, by omega, by go_num, G', N⟩
     case measure => simp [intOf]; omega
    ·rw [h2] at HE
     have F : Hid (holeI ps (q :: t) = false) := HT.out HE.out
     have B' := B.trans (N.mono B.size)
     clear HE HT HF HH HN h2 B
     have B := B'
     clear B'
     go_wp2
     exact bodyPost_ret (v := .tuple #[.int .i64 _, .int .i64 _]) (by simp [results, Tryz.results102, go_sem]; exact ⟨rfl, rfl⟩) rfl ⟨_, _, rfl, (by show _ = _; rw [F.out]; rfl), B⟩
   ·have F : Hid (holeI ps (q :: t) = false) := HT.out (by rw [HE, h1]; rfl)
    have B' := B.trans (N.mono B.size)
    clear HE HT HF HH HN h1 B
    have B := B'
    clear B'
    go_wp2
    exact bodyPost_ret (v := .tuple #[.int .i64 _, .int .i64 _]) (by simp [results, Tryz.results102, go_sem]; exact ⟨rfl, rfl⟩) rfl ⟨_, _, rfl, (by show _ = _; rw [F.out]; rfl), B⟩
  ·obtain rfl : j = t.length := by omega
   have F : Hid (holeI ps (q :: t) = true) := by
    show _ = _
    have := G.out
    rw [List.take_length] at this
    rw [HH.out, this]
    rfl
   have B' := B.trans (N.mono B.size)
   clear G HH HN B
   have B := B'
   clear B'
   go_wp2
   exact bodyPost_ret (v := .tuple #[.int .i64 _, .int .i64 _]) (by simp [results, Tryz.results102, go_sem]; exact ⟨rfl, rfl⟩) rfl ⟨_, _, rfl, (by show _ = _; rw [F.out]; rfl), B⟩
end Go.Proofs.YtinlomcaagdbiaaGreat

/- Whether an edge of a ring meets a later one where it may not: of the specification (l5Self). -/
namespace Go.Proofs.YtinlomcaagdbiaaGreat
open Go.RowKit

def badE (ps : List (Int × Int)) (i k : Nat) : Bool :=
 if k = i + 1 then
  onB (ptA ps i).1 (ptA ps i).2 (ptA ps (nx ps.length i)).1 (ptA ps (nx ps.length i)).2 (ptA ps (nx ps.length k)).1 (ptA ps (nx ps.length k)).2 || onB (ptA ps k).1 (ptA ps k).2 (ptA ps (nx ps.length k)).1 (ptA ps (nx ps.length k)).2 (ptA ps i).1 (ptA ps i).2
 else if i = 0 ∧ k = ps.length - 1 then
  onB (ptA ps i).1 (ptA ps i).2 (ptA ps (nx ps.length i)).1 (ptA ps (nx ps.length i)).2 (ptA ps k).1 (ptA ps k).2 || onB (ptA ps k).1 (ptA ps k).2 (ptA ps (nx ps.length k)).1 (ptA ps (nx ps.length k)).2 (ptA ps (nx ps.length i)).1 (ptA ps (nx ps.length i)).2
 else metI (ptA ps i).1 (ptA ps i).2 (ptA ps (nx ps.length i)).1 (ptA ps (nx ps.length i)).2 (ptA ps k).1 (ptA ps k).2 (ptA ps (nx ps.length k)).1 (ptA ps (nx ps.length k)).2
def slfE (ps : List (Int × Int)) (i : Nat) : Nat → Bool
 | 0 => false
 | k + 1 => slfE ps i k || (decide (i < k) && badE ps i k)
def slf (ps : List (Int × Int)) : Nat → Bool
 | 0 => false
 | i + 1 => slf ps i || slfE ps i ps.length
theorem slfE_low (ps : List (Int × Int)) (i : Nat) : ∀ k, k ≤ i + 1 → slfE ps i k = false
 | 0, _ => rfl
 | k + 1, h => by
  simp only [slfE]
  rw [slfE_low ps i k (by omega), decide_eq_false (by omega)]
  rfl
theorem slfE_mono {ps : List (Int × Int)} {i : Nat} : ∀ {k m : Nat}, k ≤ m → slfE ps i k = true → slfE ps i m = true
 | k, 0, h, e => by
   obtain rfl : k = 0 := by omega
   exact e
 | k, m + 1, h, e => by
  rcases Nat.lt_or_ge m k with c | c
  ·obtain rfl : k = m + 1 := by omega
   exact e
  ·simp only [slfE]
   rw [slfE_mono c e]
   rfl
theorem slf_mono {ps : List (Int × Int)} : ∀ {k m : Nat}, k ≤ m → slf ps k = true → slf ps m = true
 | k, 0, h, e => by
   obtain rfl : k = 0 := by omega
   exact e
 | k, m + 1, h, e => by
  rcases Nat.lt_or_ge m k with c | c
  ·obtain rfl : k = m + 1 := by omega
   exact e
  ·simp only [slf]
   rw [slf_mono c e]
   rfl
theorem slf_found {ps : List (Int × Int)} {i k : Nat} (hi : i < k) (hk : k < ps.length) (h : badE ps i k = true) : slf ps ps.length = true := by
 have h1 : slfE ps i (k + 1) = true := by simp only [slfE]; rw [h, decide_eq_true hi]; simp
 have h2 := slfE_mono (show k + 1 ≤ ps.length by omega) h1
 have h3 : slf ps (i + 1) = true := by simp only [slf]; rw [h2]; simp
 exact slf_mono (show i + 1 ≤ ps.length by omega) h3
theorem slfE_step {ps : List (Int × Int)} {i k : Nat} (h : slfE ps i k = false) (hb : badE ps i k = false) : slfE ps i (k + 1) = false := by simp only [slfE]; rw [h, hb]; simp

set_option maxRecDepth 20000 in
set_option maxHeartbeats 2500000 in
theorem l5Self_any (a : Option Addr) (c : Nat) (ps : List (Int × Int)) (w : World) (h : SeesP w a c ps) (ok : okL ps = true) :
  Calls Tryz.prog 88 #[.slice a ps.length c] w fun e w' => ∃ z : Int, e = .returned (.int .i64 z) ∧ Hid (decide (0 ≤ z) = slf ps ps.length ∧ -1 ≤ z ∧ z < ps.length + 1) ∧ Below w.heap.size w w' := by
 have hm := h.max
 have hf := h.fits
 unfold maxLen at hm
 go_enter Tryz.func88, Tryz.ntmps88
 go_wp2
 go_loopw [4, 5, 6, 7, 8, 9] (fun s4 _ _ _ _ _ wr => ∃ j : Nat, j ≤ ps.length ∧ s4 = .int .i64 j ∧ Hid (slf ps j = false) ∧ Below w.heap.size w wr) (fun s4 _ _ _ _ _ _ => ps.length - (intOf s4).toNat)
 case atStart => exact ⟨0, Nat.zero_le _, rfl, rfl, Below.refl _ _⟩
 case round =>
  obtain ⟨j, hj, rfl, T, B⟩ := hrel
  rename World => wr
  by_cases hlt : j < ps.length
  ·obtain ⟨a1, a2⟩ := okL_at ok hlt
   obtain ⟨a3, a4⟩ := okL_at ok (nx_lt hlt)
   go_wp2_with fail
   refine (l5Edge_any a c ps j _ (h.below B) hlt).mono ?_
   rintro e w1 ⟨rfl, hb⟩
   replace B := B.trans (hb.mono B.size)
   clear hb
   obtain ⟨x, hx⟩ : ∃ z, Hid ((ptA ps j).1 = z) := ⟨_, rfl⟩
   obtain ⟨y, hy⟩ : ∃ z, Hid ((ptA ps j).2 = z) := ⟨_, rfl⟩
   obtain ⟨u, hu⟩ : ∃ z, Hid ((ptA ps (nx ps.length j)).1 = z) := ⟨_, rfl⟩
   obtain ⟨v, hv⟩ : ∃ z, Hid ((ptA ps (nx ps.length j)).2 = z) := ⟨_, rfl⟩
   rw [hx.out, hy.out, hu.out, hv.out]
   rw [hx.out] at a1
   rw [hy.out] at a2
   rw [hu.out] at a3
   rw [hv.out] at a4
   have V1 := (Box2.new w1 (lo := w.heap.size) B.size (.int .i64 x) (.int .i64 y) 25).below (below1 _ (.cells #[.int .i64 u, .int .i64 v] 25))
   have V2 := Box2.new (w1.alloc (.cells #[.int .i64 x, .int .i64 y] 25)) (lo := w.heap.size) (by have := B.size; simp; omega) (.int .i64 u) (.int .i64 v) 25
   rw [World.size_alloc] at V2
   have bn := below2 w1 (.cells #[.int .i64 x, .int .i64 y] 25) (.cells #[.int .i64 u, .int .i64 v] 25)
   replace B := B.trans (bn.mono B.size)
   clear bn
   go_wp2_with fail
   generalize (w1.alloc (.cells #[.int .i64 x, .int .i64 y] 25)).alloc (.cells #[.int .i64 u, .int .i64 v] 25) = W1 at *
   generalize w1.heap.size = q1 at *
   go_loopw [7, 8, 9] (fun s7 _ _ wi => ∃ i : Nat, j + 1 ≤ i ∧ i ≤ ps.length ∧ s7 = .int .i64 i ∧ Hid (slfE ps j i = false) ∧ Below W1.heap.size W1 wi) (fun s7 _ _ _ => ps.length - (intOf s7).toNat)
   case atStart => exact ⟨j + 1, by omega, by omega, by go_num, slfE_low ps j (j + 1) (by omega), Below.refl _ _⟩
   case round =>
    obtain ⟨i, hji, hi, rfl, M, Bi⟩ := hrel
    rename World => wi
    by_cases hli : i < ps.length
    ·obtain ⟨c1, c2⟩ := okL_at ok hli
     obtain ⟨c3, c4⟩ := okL_at ok (nx_lt hli)
     go_wp2_with fail
     refine (l5Edge_any a c ps i _ ((h.below B).below Bi) hli).mono ?_
     rintro e w2 ⟨rfl, hb⟩
     replace Bi := Bi.trans (hb.mono Bi.size)
     clear hb
     have E : Hid (badE ps j i = if i = j + 1 then onB x y u v (ptA ps (nx ps.length i)).1 (ptA ps (nx ps.length i)).2 || onB (ptA ps i).1 (ptA ps i).2 (ptA ps (nx ps.length i)).1 (ptA ps (nx ps.length i)).2 x y else if j = 0 ∧ i = ps.length - 1 then onB x y u v (ptA ps i).1 (ptA ps i).2 || onB (ptA ps i).1 (ptA ps i).2 (ptA ps (nx ps.length i)).1 (ptA ps (nx ps.length i)).2 u v else metI x y u v (ptA ps i).1 (ptA ps i).2 (ptA ps (nx ps.length i)).1 (ptA ps (nx ps.length i)).2) := by
      show _ = _
      unfold badE
      rw [hx.out, hy.out, hu.out, hv.out]
     generalize (ptA ps i).1 = x2 at *
     generalize (ptA ps i).2 = y2 at *
     generalize (ptA ps (nx ps.length i)).1 = u2 at *
     generalize (ptA ps (nx ps.length i)).2 = v2 at *
     have V3 := (Box2.new w2 (lo := w.heap.size) (Nat.le_trans B.size Bi.size) (.int .i64 x2) (.int .i64 y2) 25).below (below1 _ (.cells #[.int .i64 u2, .int .i64 v2] 25))
     have V4 := Box2.new (w2.alloc (.cells #[.int .i64 x2, .int .i64 y2] 25)) (lo := w.heap.size) (by have := Nat.le_trans B.size Bi.size; simp; omega) (.int .i64 u2) (.int .i64 v2) 25
     rw [World.size_alloc] at V4
     have bn := below2 w2 (.cells #[.int .i64 x2, .int .i64 y2] 25) (.cells #[.int .i64 u2, .int .i64 v2] 25)
     replace Bi := Bi.trans (bn.mono Bi.size)
     clear bn
     have RF : Hid (badE ps j i = true → decide (0 ≤ (j : Int)) = slf ps ps.length ∧ -1 ≤ (j : Int) ∧ (j : Int) < ps.length + 1) := fun q => ⟨by rw [slf_found (show j < i by omega) hli q]; simp, by omega, by omega⟩
     have RN : Hid (badE ps j i = false → slfE ps j (i + 1) = false) := fun q => slfE_step M.out q
     clear M
     obtain ⟨g0, g1, _, _⟩ := V1.below Bi
     obtain ⟨g2, g3, _, _⟩ := V2.below Bi
     obtain ⟨g4, g5, _, _⟩ := id V3
     obtain ⟨g6, g7, _, _⟩ := id V4
     by_cases hk : i = j + 1
     ·have E2 := E
      rw [if_pos hk] at E2
      have hkb : ((i : Int) == (j : Int) + 1) = true := by rw [hk]; simp
      clear E
      go_upto_region 12 with fail
      clear g0 g1 g2 g3 g4 g5 g6 g7
      generalize (w2.alloc (.cells #[.int .i64 x2, .int .i64 y2] 25)).alloc (.cells #[.int .i64 u2, .int .i64 v2] 25) = W2 at *
      generalize w2.heap.size = q2 at *
      obtain ⟨g0, g1, _, _⟩ := V1.below Bi
      obtain ⟨g2, g3, _, _⟩ := V2.below Bi
      obtain ⟨g4, g5, _, _⟩ := id V3
      obtain ⟨g6, g7, _, _⟩ := id V4
      go_wp2_with fail
      refine (l3On_any x y u v u2 v2 _ a1 a2 a3 a4 c3 c4).mono ?_
      rintro e w3 ⟨rfl, hb⟩
      replace Bi := Bi.trans (hb.mono Bi.size)
      replace V3 := V3.below hb
      replace V4 := V4.below hb
      clear hb g0 g1 g2 g3 g4 g5 g6 g7
      cases o1 : onB x y u v u2 v2
      ·rw [o1, Bool.false_or] at E2
       obtain ⟨g0, g1, _, _⟩ := V1.below Bi
       obtain ⟨g4, g5, _, _⟩ := id V3
       obtain ⟨g6, g7, _, _⟩ := id V4
       go_wp2_with fail
       refine (l3On_any x2 y2 u2 v2 x y _ c1 c2 c3 c4 a1 a2).mono ?_
       rintro e w4 ⟨rfl, hb⟩
       replace Bi := Bi.trans (hb.mono Bi.size)
       clear hb g0 g1 g4 g5 g6 g7
       cases o2 : onB x2 y2 u2 v2 x y
       ·rw [o2] at E2
        have R := RN.out E2.out
        clear RN RF
        go_wp2
        go_roundw
        case rel => exact ⟨i + 1, by omega, by omega, by go_num, R, Bi⟩
        case measure => simp [intOf]; omega
       ·rw [o2] at E2
        have R4 : Hid (decide (0 ≤ (j : Int)) = slf ps ps.length ∧ -1 ≤ (j : Int) ∧ (j : Int) < ps.length + 1) := RF.out E2.out
        clear RN RF
        go_wp2
        go_ret
        exact ⟨_, rfl, R4, B.trans (Bi.mono B.size)⟩
      ·rw [o1, Bool.true_or] at E2
       have R4 : Hid (decide (0 ≤ (j : Int)) = slf ps ps.length ∧ -1 ≤ (j : Int) ∧ (j : Int) < ps.length + 1) := RF.out E2.out
       clear RN RF
       go_wp2
       go_ret
       exact ⟨_, rfl, R4, B.trans (Bi.mono B.size)⟩
     ·by_cases hz : j = 0 ∧ i = ps.length - 1
      ·have E2 := E
       rw [if_neg hk, if_pos hz] at E2
       have hkb : ((i : Int) == (j : Int) + 1) = false := by rw [beq_eq_false_iff_ne]; omega
       have hj0 : ((j : Int) == 0) = true := by rw [hz.1]; rfl
       have hin : ((i : Int) == (ps.length : Int) - 1) = true := by rw [beq_iff_eq]; omega
       clear E hz
       go_upto_region 12 with fail
       clear g0 g1 g2 g3 g4 g5 g6 g7
       generalize (w2.alloc (.cells #[.int .i64 x2, .int .i64 y2] 25)).alloc (.cells #[.int .i64 u2, .int .i64 v2] 25) = W2 at *
       generalize w2.heap.size = q2 at *
       obtain ⟨g0, g1, _, _⟩ := V1.below Bi
       obtain ⟨g2, g3, _, _⟩ := V2.below Bi
       obtain ⟨g4, g5, _, _⟩ := id V3
       obtain ⟨g6, g7, _, _⟩ := id V4
       go_wp2_with fail
       refine (l3On_any x y u v x2 y2 _ a1 a2 a3 a4 c1 c2).mono ?_
       rintro e w3 ⟨rfl, hb⟩
       replace Bi := Bi.trans (hb.mono Bi.size)
       replace V3 := V3.below hb
       replace V4 := V4.below hb
       clear hb g0 g1 g2 g3 g4 g5 g6 g7
       cases o1 : onB x y u v x2 y2
       ·rw [o1, Bool.false_or] at E2
        obtain ⟨g0, g1, _, _⟩ := V2.below Bi
        obtain ⟨g4, g5, _, _⟩ := id V3
        obtain ⟨g6, g7, _, _⟩ := id V4
        go_wp2_with fail
        refine (l3On_any x2 y2 u2 v2 u v _ c1 c2 c3 c4 a3 a4).mono ?_
        rintro e w4 ⟨rfl, hb⟩
        replace Bi := Bi.trans (hb.mono Bi.size)
        clear hb g0 g1 g4 g5 g6 g7
        cases o2 : onB x2 y2 u2 v2 u v
        ·rw [o2] at E2
         have R := RN.out E2.out
         clear RN RF
         go_wp2
         go_roundw
         case rel => exact ⟨i + 1, by omega, by omega, by go_num, R, Bi⟩
         case measure => simp [intOf]; omega
        ·rw [o2] at E2
         have R4 : Hid (decide (0 ≤ (j : Int)) = slf ps ps.length ∧ -1 ≤ (j : Int) ∧ (j : Int) < ps.length + 1) := RF.out E2.out
         clear RN RF
         go_wp2
         go_ret
         exact ⟨_, rfl, R4, B.trans (Bi.mono B.size)⟩
       ·rw [o1, Bool.true_or] at E2
        have R4 : Hid (decide (0 ≤ (j : Int)) = slf ps ps.length ∧ -1 ≤ (j : Int) ∧ (j : Int) < ps.length + 1) := RF.out E2.out
        clear RN RF
        go_wp2
        go_ret
        exact ⟨_, rfl, R4, B.trans (Bi.mono B.size)⟩
      ·by_cases hjz : j = 0
       ·have E2 := E
        rw [if_neg hk, if_neg hz] at E2
        have hkb : ((i : Int) == (j : Int) + 1) = false := by rw [beq_eq_false_iff_ne]; omega
        have hj0 : ((j : Int) == 0) = true := by rw [hjz]; rfl
        have hin : ((i : Int) == (ps.length : Int) - 1) = false := by rw [beq_eq_false_iff_ne]; intro q; exact hz ⟨hjz, by omega⟩
        clear E hz hjz
        go_upto_region 12 with fail
        clear g0 g1 g2 g3 g4 g5 g6 g7
        generalize (w2.alloc (.cells #[.int .i64 x2, .int .i64 y2] 25)).alloc (.cells #[.int .i64 u2, .int .i64 v2] 25) = W2 at *
        generalize w2.heap.size = q2 at *
        obtain ⟨g0, g1, _, _⟩ := V1.below Bi
        obtain ⟨g2, g3, _, _⟩ := V2.below Bi
        obtain ⟨g4, g5, _, _⟩ := id V3
        obtain ⟨g6, g7, _, _⟩ := id V4
        go_wp2_with fail
        refine (l3Meet_any x y u v x2 y2 u2 v2 _ a1 a2 a3 a4 c1 c2 c3 c4).mono ?_
        rintro e w3 ⟨rfl, hb⟩
        rw [← met_same]
        replace Bi := Bi.trans (hb.mono Bi.size)
        clear hb g0 g1 g2 g3 g4 g5 g6 g7
        cases o1 : metI x y u v x2 y2 u2 v2
        ·rw [o1] at E2
         have R := RN.out E2.out
         clear RN RF
         go_wp2
         go_roundw
         case rel => exact ⟨i + 1, by omega, by omega, by go_num, R, Bi⟩
         case measure => simp [intOf]; omega
        ·rw [o1] at E2
         have R4 : Hid (decide (0 ≤ (j : Int)) = slf ps ps.length ∧ -1 ≤ (j : Int) ∧ (j : Int) < ps.length + 1) := RF.out E2.out
         clear RN RF
         go_wp2
         go_ret
         exact ⟨_, rfl, R4, B.trans (Bi.mono B.size)⟩
       ·have E2 := E
        rw [if_neg hk, if_neg hz] at E2
        have hkb : ((i : Int) == (j : Int) + 1) = false := by rw [beq_eq_false_iff_ne]; omega
        have hj0 : ((j : Int) == 0) = false := by rw [beq_eq_false_iff_ne]; omega
        clear E hz hjz
        go_upto_region 12 with fail
        clear g0 g1 g2 g3 g4 g5 g6 g7
        generalize (w2.alloc (.cells #[.int .i64 x2, .int .i64 y2] 25)).alloc (.cells #[.int .i64 u2, .int .i64 v2] 25) = W2 at *
        generalize w2.heap.size = q2 at *
        obtain ⟨g0, g1, _, _⟩ := V1.below Bi
        obtain ⟨g2, g3, _, _⟩ := V2.below Bi
        obtain ⟨g4, g5, _, _⟩ := id V3
        obtain ⟨g6, g7, _, _⟩ := id V4
        go_wp2_with fail
        refine (l3Meet_any x y u v x2 y2 u2 v2 _ a1 a2 a3 a4 c1 c2 c3 c4).mono ?_
        rintro e w3 ⟨rfl, hb⟩
        rw [← met_same]
        replace Bi := Bi.trans (hb.mono Bi.size)
        clear hb g0 g1 g2 g3 g4 g5 g6 g7
        cases o1 : metI x y u v x2 y2 u2 v2
        ·rw [o1] at E2
         have R := RN.out E2.out
         clear RN RF
         go_wp2
         go_roundw
         case rel => exact ⟨i + 1, by omega, by omega, by go_num, R, Bi⟩
         case measure => simp [intOf]; omega
        ·rw [o1] at E2
         have R4 : Hid (decide (0 ≤ (j : Int)) = slf ps ps.length ∧ -1 ≤ (j : Int) ∧ (j : Int) < ps.length + 1) := RF.out E2.out
         clear RN RF
         go_wp2
         go_ret
         exact ⟨_, rfl, R4, B.trans (Bi.mono B.size)⟩
    ·obtain rfl : i = ps.length := by omega
     go_wp2
     go_roundw
     case rel => exact ⟨j + 1, by omega, by go_num, (by show _ = _; simp only [slf]; rw [T.out, M.out]; rfl), B.trans (Bi.mono B.size)⟩
     case measure => simp [intOf]; omega
  ·obtain rfl : j = ps.length := by omega
   go_wp2
   go_ret
   exact ⟨-1, rfl, ⟨by rw [T.out]; rfl, by omega, by omega⟩, B⟩
end Go.Proofs.YtinlomcaagdbiaaGreat
