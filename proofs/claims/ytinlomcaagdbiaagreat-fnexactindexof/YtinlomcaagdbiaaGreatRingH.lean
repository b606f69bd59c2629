/- A ring's own faults, of the specification (l5Ring): a hole. -/
import Derived.Test.YtinlomcaagdbiaaGreatCrsI
import Derived.Test.YtinlomcaagdbiaaGreatInS
import Derived.Test.YtinlomcaagdbiaaGreatSeg
import Derived.Deep.DeepCutAuto
namespace Go.Proofs.YtinlomcaagdbiaaGreat
open Go.RowKit

def nstE (rs : List (List (Int × Int))) (r k : Nat) : Bool :=
 tch (rowA rs r) (rowA rs k) (rowA rs r).length || decide (inV (rowA rs k) (ptA (rowA rs r) 0).1 (ptA (rowA rs r) 0).2 = 2) || decide (inV (rowA rs r) (ptA (rowA rs k) 0).1 (ptA (rowA rs k) 0).2 = 2)
def nst (rs : List (List (Int × Int))) (r : Nat) : Nat → Bool
 | 0 => false
 | k + 1 => nst rs r k || (decide (1 ≤ k) && nstE rs r k)
theorem nst_mono {rs : List (List (Int × Int))} {r : Nat} : ∀ {k m : Nat}, k ≤ m → nst rs r k = true → nst rs r m = true
 | k, 0, h, e => by
   obtain rfl : k = 0 := by omega
   exact e
 | k, m + 1, h, e => by
  rcases Nat.lt_or_ge m k with c | c
  ·obtain rfl : k = m + 1 := by omega
   exact e
  ·simp only [nst]
   rw [nst_mono c e]
   rfl
theorem nst_found {rs : List (List (Int × Int))} {r k : Nat} (h1 : 1 ≤ k) (hk : k < r) (h : nstE rs r k = true) : nst rs r r = true :=
 nst_mono (show k + 1 ≤ r by omega) (by simp only [nst]; rw [h, decide_eq_true h1]; simp)
theorem nst_step {rs : List (List (Int × Int))} {r k : Nat} (h : nst rs r k = false) (hb : nstE rs r k = false) : nst rs r (k + 1) = false := by simp only [nst]; rw [h, hb]; simp
def holeB (rs : List (List (Int × Int))) (r : Nat) : Bool :=
 !slf (rowA rs r) (rowA rs r).length && (decide (tw (rowA rs r) (rowA rs r).length < 0) && (!tch (rowA rs r) (rowA rs 0) (rowA rs r).length && (decide (inV (rowA rs 0) (ptA (rowA rs r) 0).1 (ptA (rowA rs r) 0).2 = 2) && !nst rs r r)))

set_option maxRecDepth 20000 in
set_option maxHeartbeats 4000000 in
theorem l5Ring_hole (n : Int) (a : Option Addr) (c : Nat) (rs : List (List (Int × Int))) (r : Nat) (w : World) (h : SeesS w a c rs) (h0 : 0 < r) (hr : r < rs.length) (ok : ∀ i, i < rs.length → okL (rowA rs i) = true ∧ 0 < (rowA rs i).length ∧ (rowA rs i).length ≤ 60) :
  Calls Tryz.prog 68 #[.agg #[.int .i64 n, .slice a rs.length c], .int .i64 r] w fun e w' => ∃ z x y : Int, e = .returned (.tuple #[.int .i64 z, .int .i64 x, .int .i64 y]) ∧ Hid (decide (z = 0) = holeB rs r) ∧ Below w.heap.size w w' := by
 have hm := h.max
 have hf := h.fits
 unfold maxLen at hm
 have B0 := below1 w (.cells #[.int .i64 n, .slice a rs.length c] 50)
 have V0 := Box2.new w (lo := w.heap.size) (Nat.le_refl _) (.int .i64 n) (.slice a rs.length c) 50
 obtain ⟨b, off, rfl, hc⟩ := (h.below B0).cells (by intro e; simp [e] at hr)
 obtain ⟨a1, c1, g1, P⟩ := hc r hr
 obtain ⟨a2, c2, g2, Q⟩ := hc 0 (by omega)
 rw [Nat.add_zero] at g2
 obtain ⟨ok1, n1, s1⟩ := ok r hr
 obtain ⟨ok2, n2, s2⟩ := ok 0 (by omega)
 obtain ⟨k0, k1, _, _⟩ := id V0
 obtain ⟨ps, hps⟩ : ∃ z, Hid (rowA rs r = z) := ⟨_, rfl⟩
 obtain ⟨qs, hqs⟩ : ∃ z, Hid (rowA rs 0 = z) := ⟨_, rfl⟩
 obtain ⟨x, hx⟩ : ∃ z, Hid ((ptA ps 0).1 = z) := ⟨_, rfl⟩
 obtain ⟨y, hy⟩ : ∃ z, Hid ((ptA ps 0).2 = z) := ⟨_, rfl⟩
 obtain ⟨iv, hiv⟩ : ∃ z, Hid (inV qs x y = z) := ⟨_, rfl⟩
 have HB : Hid (holeB rs r = (!slf ps ps.length && (decide (tw ps ps.length < 0) && (!tch ps qs ps.length && (decide (iv = 2) && !nst rs r r))))) := by
  show _ = _
  unfold holeB
  rw [hps.out, hqs.out, hx.out, hy.out, hiv.out]
 have HE : Hid (∀ k, nstE rs r k = (tch ps (rowA rs k) ps.length || decide (inV (rowA rs k) x y = 2) || decide (inV ps (ptA (rowA rs k) 0).1 (ptA (rowA rs k) 0).2 = 2))) := by
  show ∀ k, _ = _
  intro k
  unfold nstE
  rw [hps.out, hx.out, hy.out]
 rw [hps.out] at g1 P ok1 n1 s1
 rw [hqs.out] at g2 Q ok2 n2 s2
 obtain ⟨b1, o1, rfl, pc⟩ := P.cells (by intro e; simp [e] at n1)
 obtain ⟨p0, p1⟩ := pc 0 n1
 obtain ⟨cx, cy⟩ := okL_at ok1 n1
 rw [hx.out] at cx
 rw [hy.out] at cy
 rw [show (ps[0]?.getD (0, 0)).1 = x from hx.out] at p0
 rw [show (ps[0]?.getD (0, 0)).2 = y from hy.out] at p1
 simp only [Nat.zero_mul, Nat.add_zero] at p0 p1
 have Pm := P.max
 have Pf := P.fits
 unfold maxLen at Pm
 have hr0 : ((r : Int) == 0) = false := by simp; omega
 have hrl : 0 < rs.length := by omega
 clear pc h V0 hx hy k0
 go_enter Tryz.func68, Tryz.ntmps68
 go_wp2_with fail
 generalize w.alloc (.cells #[.int .i64 n, .slice (some ⟨b, off, none⟩) rs.length c] 50) = W at *
 refine (l5Self_any _ c1 ps _ P ok1).mono ?_
 rintro e w1 ⟨z, rfl, hz, N⟩
 by_cases hz0 : 0 ≤ z
 ·have F : Hid (holeB rs r = false) := by
   show _ = _
   have := hz.out.1
   rw [decide_eq_true hz0] at this
   rw [HB.out, ← this]
   rfl
  clear hz HB HE
  go_wp2
  exact bodyPost_ret (v := .tuple #[.int .i64 _, .int .i64 _, .int .i64 _]) (by simp [results, Tryz.results68, go_sem]; exact ⟨rfl, rfl, rfl⟩) rfl ⟨_, _, _, rfl, (by show _ = _; rw [F.out]; rfl), B0.trans (N.mono B0.size)⟩
 replace HB : Hid (holeB rs r = (decide (tw ps ps.length < 0) && (!tch ps qs ps.length && (decide (iv = 2) && !nst rs r r)))) := by
  show _ = _
  have := hz.out.1
  rw [decide_eq_false hz0] at this
  rw [HB.out, ← this]
  rfl
 clear hz
 go_wp2_with fail
 refine (l5Twice_any _ c1 ps _ (P.below N) s1 ok1).mono ?_
 rintro e w2 ⟨rfl, hb⟩
 replace N := N.trans (hb.mono N.size)
 clear hb
 obtain ⟨t, ht⟩ : ∃ z, Hid (tw ps ps.length = z) := ⟨_, rfl⟩
 rw [ht.out]
 rw [ht.out] at HB
 by_cases ht0 : 0 ≤ t
 ·have F : Hid (holeB rs r = false) := by
   show _ = _
   rw [HB.out, decide_eq_false (by omega)]
   rfl
  clear HB HE
  go_wp2
  exact bodyPost_ret (v := .tuple #[.int .i64 _, .int .i64 _, .int .i64 _]) (by simp [results, Tryz.results68, go_sem]; exact ⟨rfl, rfl, rfl⟩) rfl ⟨_, _, _, rfl, (by show _ = _; rw [F.out]; rfl), B0.trans (N.mono B0.size)⟩
 replace HB : Hid (holeB rs r = (!tch ps qs ps.length && (decide (iv = 2) && !nst rs r r))) := by
  show _ = _
  rw [HB.out, decide_eq_true (by omega)]
  rfl
 have m1 := bat N k1
 have m2 := bat N g2
 go_wp2_with fail
 refine (l5Touch_any _ a2 c1 c2 ps qs _ (P.below N) (Q.below N) ok1 ok2).mono ?_
 rintro e w3 ⟨z2, rfl, hz2, hb⟩
 replace N := N.trans (hb.mono N.size)
 clear hb m1 m2
 by_cases hy0 : 0 ≤ z2
 ·have F : Hid (holeB rs r = false) := by
   show _ = _
   have := hz2.out.1
   rw [decide_eq_true hy0] at this
   rw [HB.out, ← this]
   rfl
  clear hz2 HB HE
  go_wp2
  exact bodyPost_ret (v := .tuple #[.int .i64 _, .int .i64 _, .int .i64 _]) (by simp [results, Tryz.results68, go_sem]; exact ⟨rfl, rfl, rfl⟩) rfl ⟨_, _, _, rfl, (by show _ = _; rw [F.out]; rfl), B0.trans (N.mono B0.size)⟩
 replace HB : Hid (holeB rs r = (decide (iv = 2) && !nst rs r r)) := by
  show _ = _
  have := hz2.out.1
  rw [decide_eq_false hy0] at this
  rw [HB.out, ← this]
  rfl
 clear hz2
 by_cases hi2 : iv = 2
 ·subst hi2
  replace HB : Hid (holeB rs r = !nst rs r r) := HB
  go_wp2_with fail
  replace N := N.drew
  refine wp_region_held_drew (S := Below W.heap.size W) (by kernel_rfl) N (fun hHeld => ?_)
  refine takeA (i := 0) (h := ?_)
  refine takeA (i := 1) (hy := by intro wq hSw; have z0 := bat hSw k1; have z1 := bat hSw g2; have z2 := bat hSw p0; have z3 := bat hSw p1; go_simp <;> with_reducible rfl) (h := ?_)
  refine takeA (i := 2) (h := ?_)
  refine takeA (i := 3) (hy := by intro wq hSw; have z0 := bat hSw k1; have z1 := bat hSw g2; have z2 := bat hSw p0; have z3 := bat hSw p1; go_simp <;> with_reducible rfl) (h := ?_)
  refine takeA (i := 4) (h := ?_)
  refine takeA (i := 5) (h := ?_)
  refine takeA (i := 6) (hy := by intro wq hSw; have z0 := bat hSw k1; have z1 := bat hSw g2; have z2 := bat hSw p0; have z3 := bat hSw p1; go_simp <;> with_reducible rfl) (h := ?_)
  refine wpAnyH_ready (rs := [7]) (by kernel_rfl) (by simp) ?_
  refine AllReadyH.cons (by simp only [List.getElem?_toArray, List.getElem?_cons_succ, List.getElem?_cons_zero]; exact rfl) (fun K hK => ?_) AllReadyH.nil
  go_simp
  refine (l5In_any a2 c2 qs x y _ (Q.below N) ok2 cx cy).mono ?_
  rintro e w4 ⟨rfl, hb⟩
  rw [hiv.out]
  replace N := N.trans (hb.mono N.size)
  clear hb
  clear hHeld
  refine hK.out _ _ (by first | exact N | exact N.drew) (fun hHeld => ?_)
  replace N := hHeld
  clear hK K
  try simp only [Act.put, pA, pB, pC]
  refine takeA (i := 8) (h := ?_)
  refine wpAnyH_done (by kernel_rfl) ?_ _
  clear hHeld
  go_wp2
  go_loopw [11, 12] (fun s11 _ wr => ∃ j : Nat, 1 ≤ j ∧ j ≤ r ∧ s11 = .int .i64 j ∧ Hid (nst rs r j = false) ∧ Below W.heap.size W wr) (fun s11 _ _ => r - (intOf s11).toNat)
  case atStart => exact ⟨1, Nat.le_refl _, h0, rfl, rfl, N⟩
  case round =>
   clear N
   obtain ⟨j, hj1, hj, rfl, T, N⟩ := hrel
   rename World => wr
   by_cases hlt : j < r
   ·obtain ⟨a3, c3, g3, O⟩ := hc j (by omega)
    obtain ⟨ok3, n3, s3⟩ := ok j (by omega)
    have hjl : j < rs.length := by omega
    have HJ := HE.out j
    have HT : Hid (nstE rs r j = true → holeB rs r = false) := fun q => by rw [HB.out, nst_found hj1 hlt q]; rfl
    have HF : Hid (nstE rs r j = false → nst rs r (j + 1) = false) := fun q => nst_step T.out q
    clear T
    generalize nstE rs r j = E at *
    generalize rowA rs j = ts at *
    obtain ⟨u, hu⟩ : ∃ z, Hid ((ptA ts 0).1 = z) := ⟨_, rfl⟩
    obtain ⟨v, hv⟩ : ∃ z, Hid ((ptA ts 0).2 = z) := ⟨_, rfl⟩
    obtain ⟨b3, o3, rfl, tc⟩ := O.cells (by intro e; simp [e] at n3)
    obtain ⟨t0, t1⟩ := tc 0 n3
    obtain ⟨cu, cv⟩ := okL_at ok3 n3
    rw [hu.out] at cu HJ
    rw [hv.out] at cv HJ
    rw [show (ts[0]?.getD (0, 0)).1 = u from hu.out] at t0
    rw [show (ts[0]?.getD (0, 0)).2 = v from hv.out] at t1
    simp only [Nat.zero_mul, Nat.add_zero] at t0 t1
    have Om := O.max
    have Of := O.fits
    unfold maxLen at Om
    obtain ⟨i1, hi1⟩ : ∃ z, Hid (inV ts x y = z) := ⟨_, rfl⟩
    obtain ⟨i2, hi2⟩ : ∃ z, Hid (inV ps u v = z) := ⟨_, rfl⟩
    rw [hi1.out, hi2.out] at HJ
    replace HJ : Hid (E = (tch ps ts ps.length || decide (i1 = 2) || decide (i2 = 2))) := HJ
    clear tc hu hv
    have m1 := bat N k1
    have m3 := bat N g3
    go_wp2_with fail
    refine (l5Touch_any _ _ c1 c3 ps ts _ (P.below N) (O.below N) ok1 ok3).mono ?_
    rintro e w5 ⟨z3, rfl, hz3, hb⟩
    replace N := N.trans (hb.mono N.size)
    clear hb m1 m3
    by_cases hy3 : 0 ≤ z3
    ·have F : Hid (holeB rs r = false) := by
      show _ = _
      have := hz3.out.1
      rw [decide_eq_true hy3] at this
      exact HT.out (by rw [HJ.out, ← this]; rfl)
     clear hz3 HB HE HJ HT HF
     go_wp2
     exact bodyPost_ret (v := .tuple #[.int .i64 _, .int .i64 _, .int .i64 _]) (by simp [results, Tryz.results68, go_sem]; exact ⟨rfl, rfl, rfl⟩) rfl ⟨_, _, _, rfl, (by show _ = _; rw [F.out]; rfl), B0.trans (N.mono B0.size)⟩
    replace HJ : Hid (E = (decide (i1 = 2) || decide (i2 = 2))) := by
     show _ = _
     have := hz3.out.1
     rw [decide_eq_false hy3] at this
     rw [HJ.out, ← this]
     rfl
    clear hz3
    by_cases q1 : i1 = 2
    ·have F : Hid (holeB rs r = false) := HT.out (by rw [HJ.out, decide_eq_true q1]; rfl)
     subst q1
     clear HB HE HJ HT HF
     go_wp2_with fail
     replace N := N.drew
     refine wp_region_held_drew (S := Below W.heap.size W) (by kernel_rfl) N (fun hHeld => ?_)
     refine takeA (i := 0) (h := ?_)
     refine takeA (i := 1) (hy := by intro wq hSw; have z0 := bat hSw k1; have z1 := bat hSw g3; have z2 := bat hSw p0; have z3 := bat hSw p1; have z4 := bat hSw t0; have z5 := bat hSw t1; go_simp <;> with_reducible rfl) (h := ?_)
     refine takeA (i := 2) (h := ?_)
     refine takeA (i := 3) (h := ?_)
     refine takeA (i := 4) (hy := by intro wq hSw; have z0 := bat hSw k1; have z1 := bat hSw g3; have z2 := bat hSw p0; have z3 := bat hSw p1; have z4 := bat hSw t0; have z5 := bat hSw t1; go_simp <;> with_reducible rfl) (h := ?_)
     refine takeA (i := 5) (h := ?_)
     refine takeA (i := 6) (h := ?_)
     refine takeA (i := 7) (hy := by intro wq hSw; have z0 := bat hSw k1; have z1 := bat hSw g3; have z2 := bat hSw p0; have z3 := bat hSw p1; have z4 := bat hSw t0; have z5 := bat hSw t1; go_simp <;> with_reducible rfl) (h := ?_)
     refine wpAnyH_ready (rs := [8]) (by kernel_rfl) (by simp) ?_
     refine AllReadyH.cons (by simp only [List.getElem?_toArray, List.getElem?_cons_succ, List.getElem?_cons_zero]; exact rfl) (fun K hK => ?_) AllReadyH.nil
     go_simp
     refine (l5In_any _ c3 ts x y _ (O.below N) ok3 cx cy).mono ?_
     rintro e w6 ⟨rfl, hb⟩
     rw [hi1.out]
     replace N := N.trans (hb.mono N.size)
     clear hb
     clear hHeld
     refine hK.out _ _ (by first | exact N | exact N.drew) (fun hHeld => ?_)
     replace N := hHeld
     clear hK K
     try simp only [Act.put, pA, pB, pC]
     refine takeA (i := 9) (h := ?_)
     refine takeA (i := 10) (h := ?_)
     refine takeN (i := 11) (by simp only [List.getElem?_toArray, List.getElem?_cons_succ, List.getElem?_cons_zero]; exact rfl) (by kernel_rfl) (by kernel_rfl) (by kernel_rfl) (by exact fun _ _ _ h => h) (by rfl) (by assumption) ?_
     try simp only [Act.put, pA, pB, pC]
     refine takeN (i := 12) (by simp only [List.getElem?_toArray, List.getElem?_cons_succ, List.getElem?_cons_zero]; exact rfl) (by kernel_rfl) (by kernel_rfl) (by kernel_rfl) (by exact fun _ _ _ h => h) (by rfl) (by assumption) ?_
     try simp only [Act.put, pA, pB, pC]
     refine takeN (i := 13) (by simp only [List.getElem?_toArray, List.getElem?_cons_succ, List.getElem?_cons_zero]; exact rfl) (by kernel_rfl) (by kernel_rfl) (by kernel_rfl) (by exact fun _ _ _ h => h) (by rfl) (by assumption) ?_
     try simp only [Act.put, pA, pB, pC]
     refine takeN (i := 14) (by simp only [List.getElem?_toArray, List.getElem?_cons_succ, List.getElem?_cons_zero]; exact rfl) (by kernel_rfl) (by kernel_rfl) (by kernel_rfl) (by exact fun _ _ _ h => h) (by rfl) (by assumption) ?_
     try simp only [Act.put, pA, pB, pC]
     refine takeN (i := 15) (by simp only [List.getElem?_toArray, List.getElem?_cons_succ, List.getElem?_cons_zero]; exact rfl) (by kernel_rfl) (by kernel_rfl) (by kernel_rfl) (by exact fun _ _ _ h => h) (by rfl) (by assumption) ?_
     try simp only [Act.put, pA, pB, pC]
     refine takeN (i := 16) (by simp only [List.getElem?_toArray, List.getElem?_cons_succ, List.getElem?_cons_zero]; exact rfl) (by kernel_rfl) (by kernel_rfl) (by kernel_rfl) (by exact fun _ _ _ h => h) (by rfl) (by assumption) ?_
     try simp only [Act.put, pA, pB, pC]
     refine takeN (i := 17) (by simp only [List.getElem?_toArray, List.getElem?_cons_succ, List.getElem?_cons_zero]; exact rfl) (by kernel_rfl) (by kernel_rfl) (by kernel_rfl) (by exact fun _ _ _ h => h) (by rfl) (by assumption) ?_
     try simp only [Act.put, pA, pB, pC]
     refine takeN (i := 18) (by simp only [List.getElem?_toArray, List.getElem?_cons_succ, List.getElem?_cons_zero]; exact rfl) (by kernel_rfl) (by kernel_rfl) (by kernel_rfl) (by exact fun _ _ _ h => h) (by rfl) (by assumption) ?_
     try simp only [Act.put, pA, pB, pC]
     refine takeN (i := 19) (by simp only [List.getElem?_toArray, List.getElem?_cons_succ, List.getElem?_cons_zero]; exact rfl) (by kernel_rfl) (by kernel_rfl) (by kernel_rfl) (by exact fun _ _ _ h => h) (by rfl) (by assumption) ?_
     try simp only [Act.put, pA, pB, pC]
     refine takeN (i := 20) (by simp only [List.getElem?_toArray, List.getElem?_cons_succ, List.getElem?_cons_zero]; exact rfl) (by kernel_rfl) (by kernel_rfl) (by kernel_rfl) (by exact fun _ _ _ h => h) (by rfl) (by assumption) ?_
     try simp only [Act.put, pA, pB, pC]
     refine takeA (i := 21) (h := ?_)
     refine wpAnyH_done (by kernel_rfl) ?_ _
     clear hHeld
     go_wp2
     exact bodyPost_ret (v := .tuple #[.int .i64 _, .int .i64 _, .int .i64 _]) (by simp [results, Tryz.results68, go_sem]; exact ⟨rfl, rfl, rfl⟩) rfl ⟨_, _, _, rfl, (by show _ = _; rw [F.out]; rfl), B0.trans (N.mono B0.size)⟩
    have b1f : (i1 == 2) = false := by simp [q1]
    obtain ⟨e1, he1⟩ : ∃ z, Hid ((i1 == 2) = z) := ⟨_, rfl⟩
    by_cases q2 : i2 = 2
    ·have F : Hid (holeB rs r = false) := HT.out (by rw [HJ.out, decide_eq_true q2]; simp)
     subst q2
     clear HB HE HJ HT HF q1
     go_wp2_with fail
     replace N := N.drew
     refine wp_region_held_drew (S := Below W.heap.size W) (by kernel_rfl) N (fun hHeld => ?_)
     refine takeA (i := 0) (h := ?_)
     refine takeA (i := 1) (hy := by intro wq hSw; have z0 := bat hSw k1; have z1 := bat hSw g3; have z2 := bat hSw p0; have z3 := bat hSw p1; have z4 := bat hSw t0; have z5 := bat hSw t1; go_simp <;> with_reducible rfl) (h := ?_)
     refine takeA (i := 2) (h := ?_)
     refine takeA (i := 3) (h := ?_)
     refine takeA (i := 4) (hy := by intro wq hSw; have z0 := bat hSw k1; have z1 := bat hSw g3; have z2 := bat hSw p0; have z3 := bat hSw p1; have z4 := bat hSw t0; have z5 := bat hSw t1; go_simp <;> with_reducible rfl) (h := ?_)
     refine takeA (i := 5) (h := ?_)
     refine takeA (i := 6) (h := ?_)
     refine takeA (i := 7) (hy := by intro wq hSw; have z0 := bat hSw k1; have z1 := bat hSw g3; have z2 := bat hSw p0; have z3 := bat hSw p1; have z4 := bat hSw t0; have z5 := bat hSw t1; go_simp <;> with_reducible rfl) (h := ?_)
     refine wpAnyH_ready (rs := [8]) (by kernel_rfl) (by simp) ?_
     refine AllReadyH.cons (by simp only [List.getElem?_toArray, List.getElem?_cons_succ, List.getElem?_cons_zero]; exact rfl) (fun K hK => ?_) AllReadyH.nil
     go_simp
     refine (l5In_any _ c3 ts x y _ (O.below N) ok3 cx cy).mono ?_
     rintro e w6 ⟨rfl, hb⟩
     rw [hi1.out]
     replace N := N.trans (hb.mono N.size)
     clear hb
     skip
     clear hHeld
     refine hK.out _ _ (by first | exact N | exact N.drew) (fun hHeld => ?_)
     replace N := hHeld
     clear hK K
     try simp only [Act.put, pA, pB, pC]
     refine takeA (i := 9) (h := ?_)
     refine takeA (i := 10) (h := ?_)
     refine takeA (i := 11) (h := ?_)
     refine takeA (i := 12) (h := ?_)
     refine takeA (i := 13) (hy := by intro wq hSw; have z0 := bat hSw k1; have z1 := bat hSw g3; have z2 := bat hSw p0; have z3 := bat hSw p1; have z4 := bat hSw t0; have z5 := bat hSw t1; go_simp <;> with_reducible rfl) (h := ?_)
     refine takeA (i := 14) (h := ?_)
     refine takeA (i := 15) (h := ?_)
     refine takeA (i := 16) (hy := by intro wq hSw; have z0 := bat hSw k1; have z1 := bat hSw g3; have z2 := bat hSw p0; have z3 := bat hSw p1; have z4 := bat hSw t0; have z5 := bat hSw t1; go_simp <;> with_reducible rfl) (h := ?_)
     refine takeA (i := 17) (h := ?_)
     refine takeA (i := 18) (hy := by intro wq hSw; have z0 := bat hSw k1; have z1 := bat hSw g3; have z2 := bat hSw p0; have z3 := bat hSw p1; have z4 := bat hSw t0; have z5 := bat hSw t1; go_simp <;> with_reducible rfl) (h := ?_)
     refine wpAnyH_ready (rs := [19]) (by kernel_rfl) (by simp) ?_
     refine AllReadyH.cons (by simp only [List.getElem?_toArray, List.getElem?_cons_succ, List.getElem?_cons_zero]; exact rfl) (fun K hK => ?_) AllReadyH.nil
     go_simp
     refine (l5In_any _ c1 ps u v _ (P.below N) ok1 cu cv).mono ?_
     rintro e w7 ⟨rfl, hb⟩
     rw [hi2.out]
     replace N := N.trans (hb.mono N.size)
     clear hb
     clear hHeld
     refine hK.out _ _ (by first | exact N | exact N.drew) (fun hHeld => ?_)
     replace N := hHeld
     clear hK K
     try simp only [Act.put, pA, pB, pC]
     refine takeA (i := 20) (h := ?_)
     refine takeA (i := 21) (h := ?_)
     refine wpAnyH_done (by kernel_rfl) ?_ _
     clear hHeld
     go_wp2
     exact bodyPost_ret (v := .tuple #[.int .i64 _, .int .i64 _, .int .i64 _]) (by simp [results, Tryz.results68, go_sem]; exact ⟨rfl, rfl, rfl⟩) rfl ⟨_, _, _, rfl, (by show _ = _; rw [F.out]; rfl), B0.trans (N.mono B0.size)⟩
    ·have b2f : (i2 == 2) = false := by simp [q2]
     have T' := HF.out (by rw [HJ.out, decide_eq_false q1, decide_eq_false q2]; rfl)
     clear HJ HT HF q1 q2
     go_wp2_with fail
     replace N := N.drew
     refine wp_region_held_drew (S := Below W.heap.size W) (by kernel_rfl) N (fun hHeld => ?_)
     refine takeA (i := 0) (h := ?_)
     refine takeA (i := 1) (hy := by intro wq hSw; have z0 := bat hSw k1; have z1 := bat hSw g3; have z2 := bat hSw p0; have z3 := bat hSw p1; have z4 := bat hSw t0; have z5 := bat hSw t1; go_simp <;> with_reducible rfl) (h := ?_)
     refine takeA (i := 2) (h := ?_)
     refine takeA (i := 3) (h := ?_)
     refine takeA (i := 4) (hy := by intro wq hSw; have z0 := bat hSw k1; have z1 := bat hSw g3; have z2 := bat hSw p0; have z3 := bat hSw p1; have z4 := bat hSw t0; have z5 := bat hSw t1; go_simp <;> with_reducible rfl) (h := ?_)
     refine takeA (i := 5) (h := ?_)
     refine takeA (i := 6) (h := ?_)
     refine takeA (i := 7) (hy := by intro wq hSw; have z0 := bat hSw k1; have z1 := bat hSw g3; have z2 := bat hSw p0; have z3 := bat hSw p1; have z4 := bat hSw t0; have z5 := bat hSw t1; go_simp <;> with_reducible rfl) (h := ?_)
     refine wpAnyH_ready (rs := [8]) (by kernel_rfl) (by simp) ?_
     refine AllReadyH.cons (by simp only [List.getElem?_toArray, List.getElem?_cons_succ, List.getElem?_cons_zero]; exact rfl) (fun K hK => ?_) AllReadyH.nil
     go_simp
     refine (l5In_any _ c3 ts x y _ (O.below N) ok3 cx cy).mono ?_
     rintro e w6 ⟨rfl, hb⟩
     rw [hi1.out]
     replace N := N.trans (hb.mono N.size)
     clear hb
     skip
     clear hHeld
     refine hK.out _ _ (by first | exact N | exact N.drew) (fun hHeld => ?_)
     replace N := hHeld
     clear hK K
     try simp only [Act.put, pA, pB, pC]
     refine takeA (i := 9) (h := ?_)
     refine takeA (i := 10) (h := ?_)
     refine takeA (i := 11) (h := ?_)
     refine takeA (i := 12) (h := ?_)
     refine takeA (i := 13) (hy := by intro wq hSw; have z0 := bat hSw k1; have z1 := bat hSw g3; have z2 := bat hSw p0; have z3 := bat hSw p1; have z4 := bat hSw t0; have z5 := bat hSw t1; go_simp <;> with_reducible rfl) (h := ?_)
     refine takeA (i := 14) (h := ?_)
     refine takeA (i := 15) (h := ?_)
     refine takeA (i := 16) (hy := by intro wq hSw; have z0 := bat hSw k1; have z1 := bat hSw g3; have z2 := bat hSw p0; have z3 := bat hSw p1; have z4 := bat hSw t0; have z5 := bat hSw t1; go_simp <;> with_reducible rfl) (h := ?_)
     refine takeA (i := 17) (h := ?_)
     refine takeA (i := 18) (hy := by intro wq hSw; have z0 := bat hSw k1; have z1 := bat hSw g3; have z2 := bat hSw p0; have z3 := bat hSw p1; have z4 := bat hSw t0; have z5 := bat hSw t1; go_simp <;> with_reducible rfl) (h := ?_)
     refine wpAnyH_ready (rs := [19]) (by kernel_rfl) (by simp) ?_
     refine AllReadyH.cons (by simp only [List.getElem?_toArray, List.getElem?_cons_succ, List.getElem?_cons_zero]; exact rfl) (fun K hK => ?_) AllReadyH.nil
     go_simp
     refine (l5In_any _ c1 ps u v _ (P.below N) ok1 cu cv).mono ?_
     rintro e w7 ⟨rfl, hb⟩
     rw [hi2.out]
     replace N := N.trans (hb.mono N.size)
     clear hb
     clear hHeld
     refine hK.out _ _ (by first | exact N | exact N.drew) (fun hHeld => ?_)
     replace N := hHeld
     clear hK K
     try simp only [Act.put, pA, pB, pC]
     refine takeA (i := 20) (h := ?_)
     refine takeA (i := 21) (h := ?_)
     refine wpAnyH_done (by kernel_rfl) ?_ _
     clear hHeld
     go_wp2
     go_roundw
     case rel => exact ⟨j + 1, by omega, by omega, by go_num, T', N⟩
     case measure => simp [intOf]; omega
   ·obtain rfl : j = r := by omega
    have F : Hid (holeB rs j = true) := by
     show _ = _
     rw [HB.out, T.out]
     rfl
    clear HB HE T
    go_wp2
    exact bodyPost_ret (v := .tuple #[.int .i64 _, .int .i64 _, .int .i64 _]) (by simp [results, Tryz.results68, go_sem]; exact ⟨rfl, rfl, rfl⟩) rfl ⟨_, _, _, rfl, (by show _ = _; rw [F.out]; rfl), B0.trans (N.mono B0.size)⟩
 ·have F : Hid (holeB rs r = false) := by
   show _ = _
   rw [HB.out, decide_eq_false hi2]
   rfl
  have hne : (iv != 2) = true := by simp [hi2]
  clear HB HE hi2
  go_wp2_with fail
  replace N := N.drew
  refine wp_region_held_drew (S := Below W.heap.size W) (by kernel_rfl) N (fun hHeld => ?_)
  refine takeA (i := 0) (h := ?_)
  refine takeA (i := 1) (hy := by intro wq hSw; have z0 := bat hSw k1; have z1 := bat hSw g2; have z2 := bat hSw p0; have z3 := bat hSw p1; go_simp <;> with_reducible rfl) (h := ?_)
  refine takeA (i := 2) (h := ?_)
  refine takeA (i := 3) (hy := by intro wq hSw; have z0 := bat hSw k1; have z1 := bat hSw g2; have z2 := bat hSw p0; have z3 := bat hSw p1; go_simp <;> with_reducible rfl) (h := ?_)
  refine takeA (i := 4) (h := ?_)
  refine takeA (i := 5) (h := ?_)
  refine takeA (i := 6) (hy := by intro wq hSw; have z0 := bat hSw k1; have z1 := bat hSw g2; have z2 := bat hSw p0; have z3 := bat hSw p1; go_simp <;> with_reducible rfl) (h := ?_)
  refine wpAnyH_ready (rs := [7]) (by kernel_rfl) (by simp) ?_
  refine AllReadyH.cons (by simp only [List.getElem?_toArray, List.getElem?_cons_succ, List.getElem?_cons_zero]; exact rfl) (fun K hK => ?_) AllReadyH.nil
  go_simp
  refine (l5In_any a2 c2 qs x y _ (Q.below N) ok2 cx cy).mono ?_
  rintro e w4 ⟨rfl, hb⟩
  rw [hiv.out]
  replace N := N.trans (hb.mono N.size)
  clear hb
  clear hHeld
  refine hK.out _ _ (by first | exact N | exact N.drew) (fun hHeld => ?_)
  replace N := hHeld
  clear hK K
  try simp only [Act.put, pA, pB, pC]
  refine takeA (i := 8) (h := ?_)
  refine wpAnyH_done (by kernel_rfl) ?_ _
  clear hHeld
  go_wp2
  exact bodyPost_ret (v := .tuple #[.int .i64 _, .int .i64 _, .int .i64 _]) (by simp [results, Tryz.results68, go_sem]; exact ⟨rfl, rfl, rfl⟩) rfl ⟨_, _, _, rfl, (by show _ = _; rw [F.out]; rfl), B0.trans (N.mono B0.size)⟩
end Go.Proofs.YtinlomcaagdbiaaGreat
