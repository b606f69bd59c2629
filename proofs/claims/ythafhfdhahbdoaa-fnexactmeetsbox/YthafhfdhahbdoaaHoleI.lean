/- Where a hole lies among the rings ahead of it: of the program (holeFault). -/
import Derived.Test.YthafhfdhahbdoaaMeetI
import Derived.Test.YthafhfdhahbdoaaInS
import Derived.Test.YthafhfdhahbdoaaHeld
namespace Go.Proofs.Ythafhfdhahbdoaa
open Go.RowKit

/-- The first end of a row's first segment. -/
theorem startQ (a : Option Addr) (c : Nat) (es : List Sg) (w : World) (h : SeesQ w a c es) (h0 : 0 < es.length) :
    Calls Try.prog 78 #[.slice a es.length c] w fun e w' => e = .returned (.agg #[.int .i64 (sgA es 0).1.1, .int .i64 (sgA es 0).1.2]) ∧ Below w.heap.size w w' := by
  have bn := below1 w (.cells #[.int .i64 0, .int .i64 0] 35)
  obtain ⟨b, off, rfl, hc⟩ := (h.below bn).cells (by intro e; simp [e] at h0)
  obtain ⟨g1, g2, _, _⟩ := hc 0 h0
  have hlt : b < w.heap.size := by
    obtain ⟨b', off', e', hc'⟩ := h.cells (by intro e; simp [e] at h0)
    simp only [Option.some.injEq, Addr.mk.injEq] at e'
    obtain ⟨rfl, rfl, _⟩ := e'
    exact World.block_lt_of_cell? _ _ (hc' 0 h0).1
  simp only [Nat.zero_mul, Nat.add_zero] at g1 g2
  clear hc
  generalize (sgA es 0).1.1 = x at *
  generalize (sgA es 0).1.2 = y at *
  have hne : b ≠ w.heap.size := Nat.ne_of_lt hlt
  go_enter Try.func78, Try.ntmps78
  go_wp2
  go_returns
  exact ⟨rfl, below1 _ _⟩

/-- The point lies in the ring of these edges, as the program has it. -/
def arQ (es : List Sg) (p : Int × Int) : Bool := par (hqE es p.1 p.2) es.length
/-- One of the holes ahead has the hole in it, or lies in it. -/
def nestI (ps q : List (Int × Int)) : Bool := arQ (edL q) (ptA ps 0) || arQ (edL ps) (ptA q 0)
/-- A hole lies as it must among the rings ahead. -/
def holeI (ps : List (Int × Int)) : List (List (Int × Int)) → Bool
  | [] => true
  | q :: t => !anyQ (edL ps) (edL q) && (arQ (edL q) (ptA ps 0) && (!anyQ (edL ps) (t.map edL).flatten && !t.any (nestI ps)))
theorem okQ_edL {ps : List (Int × Int)} (h : okL ps = true) : okQ (edL ps) = true := by
  unfold okQ edL
  rw [List.all_eq_true]
  intro e he
  simp only [List.mem_map, List.mem_range] at he
  obtain ⟨i, hi, rfl⟩ := he
  have h1 := okL_at h hi
  have h2 := okL_at h (nx_lt hi)
  unfold Crd at h1 h2
  simp only [ptOk, Bool.and_eq_true, inB_true]
  exact ⟨h1, h2⟩
theorem okQ_flat {t : List (List (Int × Int))} (h : ∀ q ∈ t, okL q = true) : okQ (t.map edL).flatten = true := by
  unfold okQ
  rw [List.all_flatten, List.all_map, List.all_eq_true]
  intro q hq
  exact okQ_edL (h q hq)
theorem edL_start {ps : List (Int × Int)} (h : 0 < ps.length) : (sgA (edL ps) 0).1 = ptA ps 0 := by rw [edL_at h]
theorem rowQ_map {t : List (List (Int × Int))} {i : Nat} (h : i < t.length) : rowQ (t.map edL) i = edL (t[i]) := by
  unfold rowQ
  rw [List.getElem?_map, List.getElem?_eq_getElem h]
  rfl

theorem SeesR.tail {w : World} {b off c : Nat} {e : List Sg} {t : List (List Sg)} (h : SeesR w (some ⟨b, off, none⟩) c (e :: t)) : SeesR w (if c = 1 then some ⟨b, off, none⟩ else some ⟨b, off + 1, none⟩) (c - 1) t := by
  have hf := h.fits
  have hm := h.max
  simp only [List.length_cons] at hf
  refine ⟨by omega, by omega, fun hn => ?_⟩
  have ht : 0 < t.length := List.length_pos_iff.mpr hn
  rw [if_neg (by omega)]
  obtain ⟨b', off', he, hc⟩ := h.cells (by simp)
  simp only [Option.some.injEq, Addr.mk.injEq] at he
  obtain ⟨rfl, rfl, _⟩ := he
  refine ⟨b, off + 1, rfl, fun i hi => ?_⟩
  obtain ⟨a', c', g, S⟩ := hc (i + 1) (by simp; omega)
  rw [show rowQ (e :: t) (i + 1) = rowQ t i by simp [rowQ]] at g S
  rw [show off + (i + 1) = off + 1 + i by omega] at g
  exact ⟨a', c', g, S⟩
/-- A row of one row, made by a call. -/
theorem SeesR.one {w : World} {a : Option Addr} {c : Nat} {es : List Sg} (h : SeesQ w a c es) (t : TypeId) : SeesR (w.alloc (.cells #[.slice a es.length c] t)) (some ⟨w.heap.size, 0, none⟩) 1 [es] :=
  ⟨by simp, by simp [maxLen], fun _ => ⟨w.heap.size, 0, rfl, fun i hi => by
    obtain rfl : i = 0 := by simp at hi; omega
    exact ⟨a, c, cell_new w #[.slice a es.length c] t 0 rfl, h.below (below1 _ _)⟩⟩⟩

set_option maxRecDepth 20000 in
set_option maxHeartbeats 4000000 in
theorem holeFault_any (a1 : Option Addr) (c1 : Nat) (ps : List (Int × Int)) (a2 : Option Addr) (c2 : Nat) (qs : List (List (Int × Int))) (w : World) (h : SeesQ w a1 c1 (edL ps)) (k : SeesR w a2 c2 (qs.map edL)) (okp : okL ps = true) (np : 0 < ps.length) (okq : ∀ q ∈ qs, okL q = true ∧ 0 < q.length ∧ q.length ≤ 60) (hn : qs.length ≤ 12) :
    Calls Try.prog 68 #[.slice a1 ps.length c1, .slice a2 qs.length c2] w fun e w' => ∃ z x : Int, e = .returned (.tuple #[.int .i64 z, .int .i64 x]) ∧ Hid (decide (z = 0) = holeI ps qs) ∧ Below w.heap.size w w' := by
  cases qs with
  | nil =>
    go_enter Try.func68, Try.ntmps68
    go_wp2
    exact bodyPost_ret (v := .tuple #[.int .i64 0, .int .i64 0]) (by simp [results, Try.results68, go_sem]) rfl ⟨_, _, rfl, rfl, Below.refl _ _⟩
  | cons q t =>
  have km := k.max
  have kf := k.fits
  unfold maxLen at km
  obtain ⟨b, off, rfl, hc⟩ := k.cells (by simp)
  obtain ⟨aq, cq, g0, Q⟩ := hc 0 (by simp)
  rw [Nat.add_zero] at g0
  rw [show rowQ (List.map edL (q :: t)) 0 = edL q from rfl, edL_len] at g0
  replace Q : SeesQ w aq cq (edL q) := Q
  obtain ⟨oq, nq, sq⟩ := okq q (by simp)
  have ot : ∀ r ∈ t, okL r = true ∧ 0 < r.length ∧ r.length ≤ 60 := fun r hr => okq r (by simp [hr])
  have hl : (q :: t).length = t.length + 1 := rfl
  have kf2 : t.length + 1 ≤ c2 := by simpa using kf
  rw [hl]
  rw [hl] at hn
  have hl1 : (1 : Int) ≤ (t.length : Int) + 1 := by omega
  go_enter Try.func68, Try.ntmps68
  go_wp2_with fail
  have N := (Below.refl w.heap.size w).drew
  refine wp_region_held_drew (S := Below w.heap.size w) (by kernel_rfl) N (fun hHeld => ?_)
  clear hHeld
  refine takeW (i := 0) (by simp only [List.getElem?_toArray, List.getElem?_cons_zero]; exact rfl) (by kernel_rfl) (by kernel_rfl) (by kernel_rfl) (by exact fun _ _ _ h => h) (by rfl) (by intro wq hSw; go_simp <;> with_reducible rfl) (by assumption) ?_
  try simp only [Act.put, List.setIfInBounds_toArray, List.set_cons_zero, List.set_cons_succ]
  refine takeW (i := 1) (by simp only [List.getElem?_toArray, List.getElem?_cons_succ, List.getElem?_cons_zero]; exact rfl) (by kernel_rfl) (by kernel_rfl) (by kernel_rfl) (by exact fun _ _ _ h => h) (by rfl) (by intro wq hSw; go_simp <;> with_reducible rfl) (by assumption) ?_
  try simp only [Act.put, List.setIfInBounds_toArray, List.set_cons_zero, List.set_cons_succ]
  refine takeW (i := 2) (by simp only [List.getElem?_toArray, List.getElem?_cons_succ, List.getElem?_cons_zero]; exact rfl) (by kernel_rfl) (by kernel_rfl) (by kernel_rfl) (by exact fun _ _ _ h => h) (by rfl) (by intro wq hSw; have z0 := bat hSw g0; go_simp <;> with_reducible rfl) (by assumption) ?_
  try simp only [Act.put, List.setIfInBounds_toArray, List.set_cons_zero, List.set_cons_succ]
  refine takeW (i := 3) (by simp only [List.getElem?_toArray, List.getElem?_cons_succ, List.getElem?_cons_zero]; exact rfl) (by kernel_rfl) (by kernel_rfl) (by kernel_rfl) (by exact fun _ _ _ h => h) (by rfl) (by intro wq hSw; go_simp <;> with_reducible rfl) (by assumption) ?_
  try simp only [Act.put, List.setIfInBounds_toArray, List.set_cons_zero, List.set_cons_succ]
  refine takeW (i := 4) (by simp only [List.getElem?_toArray, List.getElem?_cons_succ, List.getElem?_cons_zero]; exact rfl) (by kernel_rfl) (by kernel_rfl) (by kernel_rfl) (by exact fun _ _ _ h => h) (by rfl) (by intro wq hSw; go_simp <;> with_reducible rfl) (by assumption) ?_
  try simp only [Act.put, List.setIfInBounds_toArray, List.set_cons_zero, List.set_cons_succ]
  refine takeW (i := 5) (by simp only [List.getElem?_toArray, List.getElem?_cons_succ, List.getElem?_cons_zero]; exact rfl) (by kernel_rfl) (by kernel_rfl) (by kernel_rfl) (by exact fun _ _ _ h => h) (by rfl) (by intro wq hSw; go_simp <;> with_reducible rfl) (by assumption) ?_
  try simp only [Act.put, List.setIfInBounds_toArray, List.set_cons_zero, List.set_cons_succ]
  refine takeW (i := 6) (by simp only [List.getElem?_toArray, List.getElem?_cons_succ, List.getElem?_cons_zero]; exact rfl) (by kernel_rfl) (by kernel_rfl) (by kernel_rfl) (by exact fun _ _ _ h => h) (by rfl) (by intro wq hSw; go_simp <;> with_reducible rfl) (by assumption) ?_
  try simp only [Act.put, List.setIfInBounds_toArray, List.set_cons_zero, List.set_cons_succ]
  refine wpAnyH_done (by kernel_rfl) ?_ _
  have HH : Hid (holeI ps (q :: t) = (!anyQ (edL ps) (edL q) && (arQ (edL q) (ptA ps 0) && (!anyQ (edL ps) (t.map edL).flatten && !t.any (nestI ps))))) := (rfl : holeI ps (q :: t) = _)
  have T := k.tail
  replace T : SeesR w _ (c2 - 1) (t.map edL) := T
  clear hc k
  replace h := h.below N
  replace Q := Q.below N
  replace T := T.below N
  generalize (if c2 = 1 then some (⟨b, off, none⟩ : Addr) else some ⟨b, off + 1, none⟩) = aT at *
  have B : Below w.heap.size w w.drew := N
  clear N g0
  generalize w.drew = w0 at *
  have OP := okQ_edL okp
  have OQ := okQ_edL oq
  have OT := okQ_flat (fun r hr => (ot r hr).1)
  have TL : ∀ i, i < (t.map edL).length → 0 < (rowQ (t.map edL) i).length ∧ (rowQ (t.map edL) i).length ≤ 60 := by
    intro i hi
    rw [List.length_map] at hi
    rw [rowQ_map hi, edL_len]
    exact (ot _ (List.getElem_mem hi)).2
  have TL1 : ∀ i, i < [edL q].length → 0 < (rowQ [edL q] i).length ∧ (rowQ [edL q] i).length ≤ 60 := by
    intro i hi
    obtain rfl : i = 0 := by simp at hi; omega
    rw [show rowQ [edL q] 0 = edL q from rfl, edL_len]
    exact ⟨nq, sq⟩
  have S1 := SeesR.one Q 77
  have bn := below1 w0 (.cells #[.slice aq (edL q).length cq] 77)
  have M1 := firstMeeting_any a1 _ c1 _ (edL ps) [edL q] _ (h.below bn) S1 OP (by simpa using OQ) (by simp) TL1
  rw [edL_len] at M1 bn
  rw [edL_len] at M1
  simp only [List.length_cons, List.length_nil, List.flatten_cons, List.flatten_nil, List.append_nil] at M1
  replace h := h.below bn
  replace Q := Q.below bn
  replace T := T.below bn
  replace B := B.trans (bn.mono B.size)
  clear bn S1 TL1
  go_wp2_with fail
  generalize w0.alloc (.cells #[.slice aq q.length cq] 77) = W1 at *
  refine M1.mono ?_
  rintro e w1 ⟨z1, rfl, HZ, hb⟩
  replace h := h.below hb
  replace Q := Q.below hb
  replace T := T.below hb
  replace B := B.trans (hb.mono B.size)
  clear hb M1
  by_cases hz : 0 ≤ z1
  · have F : Hid (holeI ps (q :: t) = false) := by
      show _ = _
      have := HZ.out.1
      rw [decide_eq_true hz] at this
      rw [HH.out, ← this]
      rfl
    clear HZ HH
    go_wp2
    exact bodyPost_ret (v := .tuple #[.int .i64 _, .int .i64 _]) (by simp [results, Try.results68, go_sem]; exact ⟨rfl, rfl⟩) rfl ⟨_, _, rfl, (by show _ = _; rw [F.out]; rfl), B⟩
  replace HH : Hid (holeI ps (q :: t) = (arQ (edL q) (ptA ps 0) && (!anyQ (edL ps) (t.map edL).flatten && !t.any (nestI ps)))) := by
    show _ = _
    have := HZ.out.1
    rw [decide_eq_false hz] at this
    rw [HH.out, ← this]
    rfl
  clear HZ
  have ST := startQ a1 c1 (edL ps) _ h (by rw [edL_len]; exact np)
  rw [edL_len, edL_start np] at ST
  obtain ⟨cx, cy⟩ := okL_at okp np
  obtain ⟨p0, hp0⟩ : ∃ z, Hid (ptA ps 0 = z) := ⟨_, rfl⟩
  rw [hp0.out] at ST cx cy HH
  have HN : Hid (∀ r, nestI ps r = (arQ (edL r) p0 || arQ (edL ps) (ptA r 0))) := by
    show ∀ r, _ = _
    intro r
    unfold nestI
    rw [hp0.out]
  obtain ⟨px, py⟩ := p0
  dsimp only at ST cx cy
  go_wp2_with fail
  refine ST.mono ?_
  rintro e w2 ⟨rfl, hb⟩
  replace h := h.below hb
  replace Q := Q.below hb
  replace T := T.below hb
  replace B := B.trans (hb.mono B.size)
  clear hb ST
  have AR := around_any aq cq (edL q) px py _ Q OQ cx cy
  rw [edL_len] at AR
  have EA : Hid (par (hqE (edL q) px py) q.length = arQ (edL q) (px, py)) := by
    show _ = _
    unfold arQ
    rw [edL_len]
  rw [EA.out] at AR
  go_wp2_with fail
  refine AR.mono ?_
  rintro e w3 ⟨rfl, hb⟩
  replace h := h.below hb
  replace T := T.below hb
  replace B := B.trans (hb.mono B.size)
  clear hb AR EA Q
  cases ha : arQ (edL q) (px, py)
  · have F : Hid (holeI ps (q :: t) = false) := by
      show _ = _
      rw [HH.out, ha]
      rfl
    clear HH HN
    go_wp2
    exact bodyPost_ret (v := .tuple #[.int .i64 _, .int .i64 _]) (by simp [results, Try.results68, go_sem]; exact ⟨rfl, rfl⟩) rfl ⟨_, _, rfl, (by show _ = _; rw [F.out]; rfl), B⟩
  replace HH : Hid (holeI ps (q :: t) = (!anyQ (edL ps) (t.map edL).flatten && !t.any (nestI ps))) := by
    show _ = _
    rw [HH.out, ha]
    rfl
  clear ha
  have M2 := firstMeeting_any a1 aT c1 (c2 - 1) (edL ps) (t.map edL) _ h T OP OT (by rw [List.length_map]; omega) TL
  rw [edL_len, List.length_map] at M2
  go_wp2_with fail
  refine M2.mono ?_
  rintro e w4 ⟨z2, rfl, HZ, hb⟩
  replace h := h.below hb
  replace T := T.below hb
  replace B := B.trans (hb.mono B.size)
  clear hb M2
  by_cases hz2 : 0 ≤ z2
  · have F : Hid (holeI ps (q :: t) = false) := by
      show _ = _
      have := HZ.out.1
      rw [decide_eq_true hz2] at this
      rw [HH.out, ← this]
      rfl
    clear HZ HH HN
    go_wp2
    exact bodyPost_ret (v := .tuple #[.int .i64 _, .int .i64 _]) (by simp [results, Try.results68, go_sem]; exact ⟨rfl, rfl⟩) rfl ⟨_, _, rfl, (by show _ = _; rw [F.out]; rfl), B⟩
  replace HH : Hid (holeI ps (q :: t) = !t.any (nestI ps)) := by
    show _ = _
    have := HZ.out.1
    rw [decide_eq_false hz2] at this
    rw [HH.out, ← this]
    rfl
  clear HZ
  go_wp2
  go_loopw [41] (fun s41 wr => ∃ j : Nat, j ≤ t.length ∧ s41 = .int .i64 j ∧ Hid ((t.take j).any (nestI ps) = false) ∧ Below w4.heap.size w4 wr) (fun s41 _ => t.length - (intOf s41).toNat)
  case atStart => exact ⟨0, Nat.zero_le _, rfl, rfl, Below.refl _ _⟩
  case round =>
    obtain ⟨j, hj, rfl, G, N⟩ := hrel
    rename World => wr
    by_cases hlt : j < t.length
    · have TJ := T.below N
      have hJ := h.below N
      obtain ⟨bT, oT, rfl, hc⟩ := TJ.cells (by intro e; simp [List.map_eq_nil_iff] at e; simp [e] at hlt)
      obtain ⟨a', c', g, S⟩ := hc j (by rw [List.length_map]; exact hlt)
      rw [rowQ_map hlt] at g S
      rw [edL_len] at g
      have hmem := List.getElem_mem hlt
      obtain ⟨o1, n1, s1⟩ := ot _ hmem
      have HT : Hid (nestI ps (t[j]) = true → holeI ps (q :: t) = false) := fun e => by
        rw [HH.out, List.any_eq_true.mpr ⟨_, hmem, e⟩]
        rfl
      have HF : Hid (nestI ps (t[j]) = false → (t.take (j + 1)).any (nestI ps) = false) := fun e => by
        rw [List.take_add_one, List.getElem?_eq_getElem hlt, List.any_append, G.out]
        simp [e]
      have HE := HN.out (t[j])
      clear G hc hmem
      generalize t[j] = r at *
      have O1 := okQ_edL o1
      have ST := startQ a1 c1 (edL ps) _ hJ (by rw [edL_len]; exact np)
      rw [edL_len, edL_start np, hp0.out] at ST
      dsimp only at ST
      go_wp2_with fail
      refine ST.mono ?_
      rintro e w5 ⟨rfl, hb⟩
      replace hJ := hJ.below hb
      replace S := S.below hb
      replace N := N.trans (hb.mono N.size)
      clear hb ST g
      have AR := around_any a' c' (edL r) px py _ S O1 cx cy
      rw [edL_len] at AR
      rw [show par (hqE (edL r) px py) r.length = arQ (edL r) (px, py) by unfold arQ; rw [edL_len]] at AR
      go_wp2_with fail
      refine AR.mono ?_
      rintro e w6 ⟨rfl, hb⟩
      replace hJ := hJ.below hb
      replace S := S.below hb
      replace N := N.trans (hb.mono N.size)
      clear hb AR
      cases h1 : arQ (edL r) (px, py)
      · have S2 := startQ a' c' (edL r) _ S (by rw [edL_len]; exact n1)
        rw [edL_len, edL_start n1] at S2
        obtain ⟨dx, dy⟩ := okL_at o1 n1
        rw [h1, Bool.false_or] at HE
        replace HE : Hid (nestI ps r = arQ (edL ps) (ptA r 0)) := HE
        clear h1
        generalize ptA r 0 = r0 at *
        obtain ⟨rx, ry⟩ := r0
        dsimp only at S2 dx dy
        go_wp2_with fail
        refine S2.mono ?_
        rintro e w7 ⟨rfl, hb⟩
        replace hJ := hJ.below hb
        replace N := N.trans (hb.mono N.size)
        clear hb S2
        have A2 := around_any a1 c1 (edL ps) rx ry _ hJ OP dx dy
        rw [edL_len] at A2
        rw [show par (hqE (edL ps) rx ry) ps.length = arQ (edL ps) (rx, ry) by unfold arQ; rw [edL_len]] at A2
        go_wp2_with fail
        refine A2.mono ?_
        rintro e w8 ⟨rfl, hb⟩
        replace N := N.trans (hb.mono N.size)
        clear hb A2
        cases h2 : arQ (edL ps) (rx, ry)
        · rw [h2] at HE
          have G' := HF.out HE.out
          clear HE HT HF h2
          go_wp2
          go_roundw
          case rel => exact ⟨j + 1, by omega, by go_num, G', N⟩
          case measure => simp [intOf]; omega
        · rw [h2] at HE
          have F : Hid (holeI ps (q :: t) = false) := HT.out HE.out
          have B' := B.trans (N.mono B.size)
          clear HE HT HF HH HN h2 B
          have B := B'
          clear B'
          go_wp2
          exact bodyPost_ret (v := .tuple #[.int .i64 _, .int .i64 _]) (by simp [results, Try.results68, go_sem]; exact ⟨rfl, rfl⟩) rfl ⟨_, _, rfl, (by show _ = _; rw [F.out]; rfl), B⟩
      · have F : Hid (holeI ps (q :: t) = false) := HT.out (by rw [HE, h1]; rfl)
        have B' := B.trans (N.mono B.size)
        clear HE HT HF HH HN h1 B
        have B := B'
        clear B'
        go_wp2
        exact bodyPost_ret (v := .tuple #[.int .i64 _, .int .i64 _]) (by simp [results, Try.results68, go_sem]; exact ⟨rfl, rfl⟩) rfl ⟨_, _, rfl, (by show _ = _; rw [F.out]; rfl), B⟩
    · obtain rfl : j = t.length := by omega
      have F : Hid (holeI ps (q :: t) = true) := by
        show _ = _
        have := G.out
        rw [List.take_length] at this
        rw [HH.out, this]
        rfl
      have B' := B.trans (N.mono B.size)
      clear G HH HN B
      have B := B'
      clear B'
      go_wp2
      exact bodyPost_ret (v := .tuple #[.int .i64 _, .int .i64 _]) (by simp [results, Try.results68, go_sem]; exact ⟨rfl, rfl⟩) rfl ⟨_, _, rfl, (by show _ = _; rw [F.out]; rfl), B⟩
end Go.Proofs.Ythafhfdhahbdoaa
