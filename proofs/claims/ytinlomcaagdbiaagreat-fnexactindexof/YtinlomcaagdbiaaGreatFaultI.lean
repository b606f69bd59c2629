/- The faults of an area's rings: of the program ((area).fault). -/
import Derived.Test.YtinlomcaagdbiaaGreatHoleI
import Derived.Test.YtinlomcaagdbiaaGreatCrsI
import Derived.Test.YtinlomcaagdbiaaGreatFormI
namespace Go.Proofs.YtinlomcaagdbiaaGreat
open Go.RowKit

theorem infoEs : (Tryz.prog.info? 161).map (fun i => (i.zero, i.size, i.bytes)) = some (some (.slice none 0 0), 1, 24) := by kernel_rfl
theorem slice_new (w : World) (x : Value) (t : TypeId) : ∀ j u, [x][j]? = some u → (w.alloc (.cells #[x] t)).cell? ((⟨w.heap.size, 0, none⟩ : Addr).add j) = some u := by
 intro j u hu
 rcases j with _ | j
 ·simp at hu; subst hu; exact cell_new w #[x] t 0 rfl
 ·simp at hu
structure RowR (base : Nat) (w : World) (v : Value) (vs : List Value) (rs : List (List Sg)) : Prop where
 o : w.ownsRow base 161 1 v rs.length vs
 n : vs.length = rs.length
 z : rs = [] → v = .slice none 0 0
 q : ∀ i, i < rs.length → ∃ g c', vs[i]? = some (.slice (some ⟨g, 0, none⟩) (rowQ rs i).length c') ∧ SeesQ w (some ⟨g, 0, none⟩) c' (rowQ rs i) ∧ 0 < (rowQ rs i).length
theorem RowR.nil (base : Nat) (w : World) : RowR base w (.slice none 0 0) [] [] := ⟨⟨rfl, .inl ⟨rfl, rfl⟩⟩, rfl, fun _ => rfl, fun i hi => absurd hi (by simp)⟩
theorem RowR.below {base : Nat} {w w' : World} {v : Value} {vs : List Value} {rs : List (List Sg)} (h : RowR base w v vs rs) (hb : Below w.heap.size w w') : RowR base w' v vs rs :=
 ⟨owns_below h.o hb, h.n, h.z, fun i hi => by obtain ⟨g, c', h1, h2, h3⟩ := h.q i hi; exact ⟨g, c', h1, h2.below hb, h3⟩⟩
theorem RowR.shape {base : Nat} {w : World} {v : Value} {vs : List Value} {rs : List (List Sg)} (h : RowR base w v vs rs) : ∃ a cap, v = .slice a rs.length cap ∧ rs.length ≤ cap ∧ cap ≤ maxLen := by
 rcases h.o.2 with ⟨hv, h0⟩ | ⟨q, cap, cur, hv, _, _, hf, hm, _⟩
 ·exact ⟨none, 0, by rw [hv, h0], by omega, by simp [maxLen]⟩
 ·exact ⟨_, cap, hv, hf, hm⟩
theorem RowR.sees {base : Nat} {w : World} {a : Option Addr} {cap : Nat} {vs : List Value} {rs : List (List Sg)} (h : RowR base w (.slice a rs.length cap) vs rs) : SeesR w a cap rs := by
 have hn := h.n
 have hq := h.q
 rcases h.o.2 with ⟨hv, h0⟩ | ⟨q, cap', cur, hv, hb, hh, hf, hm, hs, ht⟩
 ·injection hv with h1 h2 h3
  subst h1 h3
  exact ⟨by omega, by simp [maxLen], fun hn => absurd (List.eq_nil_of_length_eq_zero h0) hn⟩
 ·injection hv with h1 h2 h3
  subst h1 h3
  refine ⟨hf, hm, fun _ => ⟨q, 0, rfl, fun i hi => ?_⟩⟩
  obtain ⟨g, c', e1, e2, _⟩ := hq i hi
  refine ⟨_, c', ?_, e2⟩
  rw [← ht, Nat.mul_one, List.getElem?_take_of_lt hi] at e1
  rw [Nat.zero_add]
  exact (cell_of_row w q i _ _ _ hh).trans (by simpa using e1)
theorem SeesQ.kept {w w' : World} {g c : Nat} {es : List Sg} {row : Option Nat} (h : SeesQ w (some ⟨g, 0, none⟩) c es) (G : w.grownBy w' row) (ne : some g ≠ row) : SeesQ w' (some ⟨g, 0, none⟩) c es :=
 ⟨h.fits, h.max, fun hn => by
  obtain ⟨b, off, ha, hc⟩ := h.cells hn
  simp only [Option.some.injEq, Addr.mk.injEq] at ha
  obtain ⟨rfl, rfl, _⟩ := ha
  exact ⟨g, 0, rfl, fun i hi => ⟨G.cell (hc i hi).1 ne, G.cell (hc i hi).2.1 ne, G.cell (hc i hi).2.2.1 ne, G.cell (hc i hi).2.2.2 ne⟩⟩⟩
theorem RowR.apart {base : Nat} {w : World} {v : Value} {vs : List Value} {rs : List (List Sg)} {g c : Nat} {es : List Sg} (h : RowR base w v vs rs) (k : SeesQ w (some ⟨g, 0, none⟩) c es) (h0 : 0 < es.length) : some g ≠ v.ownBlock := by
 intro e
 rcases Nat.eq_zero_or_pos rs.length with z | z
 ·rw [h.z (List.eq_nil_of_length_eq_zero z)] at e
  simp [Value.ownBlock] at e
 ·obtain ⟨g', c', e1, _, _⟩ := h.q 0 z
  have c1 := World.ownsRow.cells h.o e.symm 0 _ e1
  obtain ⟨b, off, ha, hc⟩ := k.cells (by intro e; simp [e] at h0)
  simp only [Option.some.injEq, Addr.mk.injEq] at ha
  obtain ⟨rfl, rfl, _⟩ := ha
  have c2 := (hc 0 h0).1
  rw [show (⟨g, 0, none⟩ : Addr).add 0 = ⟨g, 0, none⟩ from rfl] at c1
  rw [Nat.zero_mul, Nat.add_zero] at c2
  rw [c1] at c2
  simp at c2
theorem rowQ_snoc {rs : List (List Sg)} {es : List Sg} {i : Nat} : rowQ (rs ++ [es]) i = if i < rs.length then rowQ rs i else if i = rs.length then es else [] := by
 unfold rowQ
 rcases Nat.lt_trichotomy i rs.length with c | c | c
 ·rw [List.getElem?_append_left c, if_pos c]
 ·rw [if_neg (by omega), if_pos c, List.getElem?_append_right (by omega), c, Nat.sub_self]
  rfl
 ·rw [if_neg (by omega), if_neg (by omega), List.getElem?_append_right (by omega), List.getElem?_eq_none (by simp; omega)]
  rfl
theorem RowR.snoc {base : Nat} {w w' : World} {v v' : Value} {vs : List Value} {rs : List (List Sg)} {g c : Nat} {es : List Sg} (h : RowR base w v vs rs) (k : SeesQ w (some ⟨g, 0, none⟩) c es) (h0 : 0 < es.length) (O : w'.ownsRow base 161 1 v' (rs.length + 1) (vs ++ [.slice (some ⟨g, 0, none⟩) es.length c])) (G : w.grownBy w' v.ownBlock) : RowR base w' v' (vs ++ [.slice (some ⟨g, 0, none⟩) es.length c]) (rs ++ [es]) := by
 have hn := h.n
 refine ⟨by rw [List.length_append]; exact O, by simp [hn], fun e => by simp at e, fun i hi => ?_⟩
 rw [List.length_append, List.length_singleton] at hi
 rw [rowQ_snoc]
 by_cases hl : i < rs.length
 ·rw [if_pos hl]
  obtain ⟨g', c', h1, h2, h3⟩ := h.q i hl
  exact ⟨g', c', by rw [List.getElem?_append_left (by omega)]; exact h1, h2.kept G (h.apart h2 h3), h3⟩
 ·obtain rfl : i = rs.length := by omega
  rw [if_neg hl, if_pos rfl]
  exact ⟨g, c, by rw [List.getElem?_append_right (by omega), hn, Nat.sub_self]; rfl, k.kept G (h.apart k h0), h0⟩

def turnI (r : Nat) (t : Int) : Bool := if r = 0 then decide (0 < t) else decide (t < 0)
def ringI (rs : List (List (Int × Int))) (r : Nat) : Bool := !slf (rowA rs r) (rowA rs r).length && (turnI r (tw (rowA rs r) (rowA rs r).length) && holeI (rowA rs r) (rs.take r))
def ringsI (rs : List (List (Int × Int))) : Nat → Bool
 | 0 => true
 | j + 1 => ringsI rs j && ringI rs j
theorem ringsI_bad {rs : List (List (Int × Int))} {r : Nat} (h : ringI rs r = false) : ∀ {m : Nat}, r < m → ringsI rs m = false
 | 0, hm => absurd hm (by omega)
 | m + 1, hm => by
  simp only [ringsI]
  rcases Nat.lt_or_ge r m with c | c
  ·rw [ringsI_bad h c]
   rfl
  ·obtain rfl : r = m := by omega
   rw [h, Bool.and_false]
theorem take_rows {rs : List (List (Int × Int))} {j : Nat} (h : j < rs.length) : (rs.take (j + 1)).map edL = (rs.take j).map edL ++ [edL (rowA rs j)] := by
 rw [List.take_add_one, List.getElem?_eq_getElem h, List.map_append]
 unfold rowA
 rw [List.getElem?_eq_getElem h]
 rfl
theorem rows_mem {rs : List (List (Int × Int))} {j : Nat} {P : List (Int × Int) → Prop} (h : ∀ i, i < rs.length → P (rowA rs i)) : ∀ q ∈ rs.take j, P q := by
 intro q hq
 obtain ⟨i, hi, e⟩ := List.mem_iff_getElem.mp (List.mem_of_mem_take hq)
 have := h i hi
 unfold rowA at this
 rw [List.getElem?_eq_getElem hi, Option.getD_some, e] at this
 exact this

set_option maxRecDepth 20000 in
set_option maxHeartbeats 3000000 in
theorem fault_any (a : Option Addr) (c : Nat) (rs : List (List (Int × Int))) (w : World) (h : SeesS w a c rs) (hn : rs.length ≤ 12) (ok : ∀ i, i < rs.length → okL (rowA rs i) = true ∧ 3 ≤ (rowA rs i).length ∧ (rowA rs i).length ≤ 60) :
  Calls Tryz.prog 76 #[.agg #[.slice a rs.length c]] w fun e w' => ∃ z x y : Int, e = .returned (.agg #[.int .i64 z, .int .i64 x, .int .i64 y]) ∧ Hid (decide (z = 0) = ringsI rs rs.length) ∧ Below w.heap.size w w' := by
 obtain ⟨i0, hi, hz0, hz1, hz2⟩ := info_parts infoEs
 have hm := h.max
 have hf := h.fits
 unfold maxLen at hm
 have OK : Hid (∀ i, i < rs.length → okL (rowA rs i) = true ∧ 3 ≤ (rowA rs i).length ∧ (rowA rs i).length ≤ 60) := ok
 clear ok
 have bn := below1 w (.cells #[.slice a rs.length c] 130)
 have bz := bn.size
 have B0 := bn.trans ((below1 _ (.cells #[.int .i64 0, .int .i64 0, .int .i64 0] 104)).mono bz)
 have V0 := Box3.new (w.alloc (.cells #[.slice a rs.length c] 130)) (lo := w.heap.size) bz (.int .i64 0) (.int .i64 0) (.int .i64 0) 104
 rw [World.size_alloc] at V0
 clear bn bz
 have SW := h.below B0
 go_enter Tryz.func76, Tryz.ntmps76
 go_wp2
 generalize (w.alloc (.cells #[.slice a rs.length c] 130)).alloc (.cells #[.int .i64 0, .int .i64 0, .int .i64 0] 104) = W at *
 go_loopw [3, 14] (fun s3 s14 wr => ∃ (j : Nat) (vs : List Value), j ≤ rs.length ∧ s14 = .int .i64 j ∧ RowR W.heap.size wr s3 vs ((rs.take j).map edL) ∧ Hid (ringsI rs j = true) ∧ Below W.heap.size W wr) (fun _ s14 _ => rs.length - (intOf s14).toNat)
 case atStart => exact ⟨0, [], Nat.zero_le _, rfl, RowR.nil _ _, rfl, Below.refl _ _⟩
 case round =>
  obtain ⟨j, vs, hj, rfl, RR, T, N⟩ := hrel
  rename World => wr
  by_cases hlt : j < rs.length
  ·obtain ⟨b, off, rfl, hc⟩ := SW.cells (by intro e; simp [e] at hlt)
   obtain ⟨a3, c3, g3, O⟩ := hc j hlt
   obtain ⟨ok1, n1, s1⟩ := OK.out j hlt
   have HT : Hid (ringI rs j = false → ringsI rs rs.length = false) := fun q => ringsI_bad q hlt
   have HF : Hid (ringI rs j = true → ringsI rs (j + 1) = true) := fun q => by simp only [ringsI]; rw [T.out, q]; rfl
   have HR : Hid (ringI rs j = (!slf (rowA rs j) (rowA rs j).length && (turnI j (tw (rowA rs j) (rowA rs j).length) && holeI (rowA rs j) (rs.take j)))) := (rfl : ringI rs j = _)
   have HTK := take_rows hlt
   have HQ : Hid (∀ q ∈ rs.take j, okL q = true ∧ 0 < q.length ∧ q.length ≤ 60) := rows_mem (fun i hi => ⟨(OK.out i hi).1, by have := (OK.out i hi).2.1; omega, (OK.out i hi).2.2⟩)
   have htl : Hid ((rs.take j).length = j) := (by rw [List.length_take]; omega : (rs.take j).length = j)
   replace HTK : Hid ((rs.take (j + 1)).map edL = (rs.take j).map edL ++ [edL (rowA rs j)]) := HTK
   clear hc T
   generalize rowA rs j = ts at *
   generalize rs.take j = qs at *
   have m3 := bat N g3
   go_wp2_with fail
   refine (edgesOf_any a3 c3 ts _ (O.below N) s1).mono ?_
   rintro e w1 ⟨rfl, SE, hb⟩
   replace RR := RR.below hb
   replace N := N.trans (hb.mono N.size)
   clear hb m3
   generalize wr.heap.size = ge at *
   go_wp2_with fail
   refine (firstCrossed_any ge ts _ SE s1 ok1).mono ?_
   rintro e w2 ⟨z1, rfl, HZ, hb⟩
   replace RR := RR.below hb
   replace SE := SE.below hb
   replace N := N.trans (hb.mono N.size)
   clear hb
   by_cases hz : 0 ≤ z1
   ·have F : Hid (ringsI rs rs.length = false) := HT.out (by
     have := HZ.out.1
     rw [decide_eq_true hz] at this
     rw [HR.out, ← this]
     rfl)
    clear HZ HR HTK HQ RR
    have RB := V0.below N
    have RN := B0.trans (N.mono B0.size)
    clear HT HF
    have RC := Box3.chain RN RB (.int .i64 (2)) (.int .i64 (j)) (.int .i64 (z1))
    obtain ⟨r0, r1, r2⟩ := RB.reads (.int .i64 (2)) (.int .i64 (j)) (.int .i64 (z1))
    obtain ⟨o0, o1, o2, of, _⟩ := id RB
    go_wp2
    refine bodyPost_ret (v := .agg #[.int .i64 (2), .int .i64 (j), .int .i64 (z1)]) (by simp [results, Tryz.results76, go_sem, r0, r1, r2]) rfl ?_
    first
    | exact ⟨_, _, _, rfl, (by show _ = _; rw [F.out]; rfl), RC⟩
    | exact ⟨_, ⟨_, _, rfl⟩, (by show _ = _; rw [F.out]; rfl), RC⟩
   replace HR : Hid (ringI rs j = (turnI j (tw ts ts.length) && holeI ts qs)) := by
    show _ = _
    have := HZ.out.1
    rw [decide_eq_false hz] at this
    rw [HR.out, ← this]
    rfl
   clear HZ
   go_wp2_with fail
   refine (twiceArea_any ge ts _ SE s1 ok1).mono ?_
   rintro e w3 ⟨rfl, hb⟩
   replace RR := RR.below hb
   replace SE := SE.below hb
   replace N := N.trans (hb.mono N.size)
   clear hb
   generalize tw ts ts.length = tt at *
   have HJ : (j = 0 ∧ tt ≤ 0) ∨ (0 < j ∧ 0 ≤ tt) ∨ (j = 0 ∧ 0 < tt) ∨ (0 < j ∧ tt < 0) := by omega
   rcases HJ with ⟨e0, e1⟩ | ⟨e0, e1⟩ | ⟨e0, e1⟩ | ⟨e0, e1⟩
   ·have F : Hid (ringsI rs rs.length = false) := HT.out (by
     rw [HR.out, turnI, if_pos e0, decide_eq_false (by omega)]
     rfl)
    have b0 : ((j : Int) == 0) = true := by rw [e0]; rfl
    clear HR HTK HQ RR e0
    have RB := V0.below N
    have RN := B0.trans (N.mono B0.size)
    clear HT HF
    have RC := Box3.chain RN RB (.int .i64 (3)) (.int .i64 (j)) (.int .i64 (0))
    obtain ⟨r0, r1, r2⟩ := RB.reads (.int .i64 (3)) (.int .i64 (j)) (.int .i64 (0))
    obtain ⟨o0, o1, o2, of, _⟩ := id RB
    go_wp2
    refine bodyPost_ret (v := .agg #[.int .i64 (3), .int .i64 (j), .int .i64 (0)]) (by simp [results, Tryz.results76, go_sem, r0, r1, r2]) rfl ?_
    first
    | exact ⟨_, _, _, rfl, (by show _ = _; rw [F.out]; rfl), RC⟩
    | exact ⟨_, ⟨_, _, rfl⟩, (by show _ = _; rw [F.out]; rfl), RC⟩
   ·have F : Hid (ringsI rs rs.length = false) := HT.out (by
     rw [HR.out, turnI, if_neg (by omega), decide_eq_false (by omega)]
     rfl)
    have b0 : ((j : Int) == 0) = false := by rw [beq_eq_false_iff_ne]; omega
    have b1 : (0 : Int) < (j : Int) := by omega
    clear HR HTK HQ RR e0
    have RB := V0.below N
    have RN := B0.trans (N.mono B0.size)
    clear HT HF
    have RC := Box3.chain RN RB (.int .i64 (3)) (.int .i64 (j)) (.int .i64 (0))
    obtain ⟨r0, r1, r2⟩ := RB.reads (.int .i64 (3)) (.int .i64 (j)) (.int .i64 (0))
    obtain ⟨o0, o1, o2, of, _⟩ := id RB
    go_wp2
    refine bodyPost_ret (v := .agg #[.int .i64 (3), .int .i64 (j), .int .i64 (0)]) (by simp [results, Tryz.results76, go_sem, r0, r1, r2]) rfl ?_
    first
    | exact ⟨_, _, _, rfl, (by show _ = _; rw [F.out]; rfl), RC⟩
    | exact ⟨_, ⟨_, _, rfl⟩, (by show _ = _; rw [F.out]; rfl), RC⟩
   ·replace HR : Hid (ringI rs j = holeI ts qs) := by
     show _ = _
     rw [HR.out, turnI, if_pos e0, decide_eq_true (by omega)]
     rfl
    have b0 : ((j : Int) == 0) = true := by rw [e0]; rfl
    have b2 : ¬ (tt ≤ 0) := by omega
    have b3 : ¬ ((0 : Int) < (j : Int)) := by omega
    clear e0
    obtain ⟨aR, cR, eR, fR, mR⟩ := RR.shape
    have hmR : cR ≤ maxLen := mR
    have QE := SE.q s1
    have HOLE := holeFault_any (some ⟨ge, 0, none⟩) ts.length ts aR cR qs _ QE (by rw [eR] at RR; exact RR.sees) ok1 (by omega) HQ.out (by have := htl.out; omega)
    rw [List.length_map] at eR
    subst eR
    go_wp2_with fail
    refine HOLE.mono ?_
    rintro e w4 ⟨z2, x2, rfl, HZ, hb⟩
    replace RR := RR.below hb
    replace QE := QE.below hb
    replace N := N.trans (hb.mono N.size)
    clear hb HOLE SE
    by_cases hz2 : z2 = 0
    ·subst hz2
     have T' := HF.out (by rw [HR.out]; exact HZ.out.symm)
     have BN := below1 w4 (.cells #[.slice (some ⟨ge, 0, none⟩) ts.length ts.length] 161)
     replace QE := QE.below BN
     replace RR := RR.below BN
     replace N := N.trans (BN.mono N.size)
     have NZ := N.size
     have O5 := RR.o
     clear BN HZ HR HT HF HQ
     have hql : ((qs.map edL).length) ≤ 12 := by rw [List.length_map, htl.out]; omega
     go_wp2_with (at_builtin; refine wpList_append_own _ rfl (.tmp 58) (.tmp 60) 159 rfl W.heap.size 161 i0 (.slice none 0 0) 1 24 Tryz.underlying159 hi hz0 hz1 hz2 rfl (by decide) (.slice aR qs.length cR) (qs.map edL).length vs rfl O5 ⟨w4.heap.size, 0, none⟩ 1 _ [.slice (some ⟨ge, 0, none⟩) ts.length ts.length] rfl rfl (slice_new _ _ _) (by simp [Value.oneCell']) (by unfold maxLen; omega) (by omega) NZ ?_)
     intro v7 w7 R7 G7 _
     have RR7 := RR.snoc QE (by rw [edL_len]; omega) (by rw [edL_len, List.length_map]; exact R7) G7
     rw [← HTK.out] at RR7
     have N7 := N.grown G7 NZ (fun k hk => (World.ownsRow.lt O5 k hk).1)
     clear R7 G7 O5 RR QE
     go_wp2
     go_roundw
     case rel => exact ⟨j + 1, _, by omega, by go_num, RR7, T', N7⟩
     case measure => simp [intOf]; omega
    ·have F : Hid (ringsI rs rs.length = false) := HT.out (by
      rw [HR.out, ← HZ.out]
      exact decide_eq_false hz2)
     have bz : (z2 == 0) = false := by simp [hz2]
     clear HZ HR HTK HQ RR
     have RB := V0.below N
     have RN := B0.trans (N.mono B0.size)
     clear HT HF
     have RC := Box3.chain RN RB (.int .i64 (z2)) (.int .i64 (j)) (.int .i64 (x2))
     obtain ⟨r0, r1, r2⟩ := RB.reads (.int .i64 (z2)) (.int .i64 (j)) (.int .i64 (x2))
     obtain ⟨o0, o1, o2, of, _⟩ := id RB
     go_wp2
     refine bodyPost_ret (v := .agg #[.int .i64 (z2), .int .i64 (j), .int .i64 (x2)]) (by simp [results, Tryz.results76, go_sem, r0, r1, r2]) rfl ?_
     first
     | exact ⟨_, _, _, rfl, (by show _ = _; rw [F.out]; exact decide_eq_false hz2), RC⟩
     | exact ⟨_, ⟨_, _, rfl⟩, (by show _ = _; rw [F.out]; exact decide_eq_false hz2), RC⟩
   ·replace HR : Hid (ringI rs j = holeI ts qs) := by
     show _ = _
     rw [HR.out, turnI, if_neg (by omega), decide_eq_true (by omega)]
     rfl
    have b0 : ((j : Int) == 0) = false := by rw [beq_eq_false_iff_ne]; omega
    have b1 : (0 : Int) < (j : Int) := by omega
    have b2 : ¬ (0 ≤ tt) := by omega
    clear e0
    obtain ⟨aR, cR, eR, fR, mR⟩ := RR.shape
    have hmR : cR ≤ maxLen := mR
    have QE := SE.q s1
    have HOLE := holeFault_any (some ⟨ge, 0, none⟩) ts.length ts aR cR qs _ QE (by rw [eR] at RR; exact RR.sees) ok1 (by omega) HQ.out (by have := htl.out; omega)
    rw [List.length_map] at eR
    subst eR
    go_wp2_with fail
    refine HOLE.mono ?_
    rintro e w4 ⟨z2, x2, rfl, HZ, hb⟩
    replace RR := RR.below hb
    replace QE := QE.below hb
    replace N := N.trans (hb.mono N.size)
    clear hb HOLE SE
    by_cases hz2 : z2 = 0
    ·subst hz2
     have T' := HF.out (by rw [HR.out]; exact HZ.out.symm)
     have BN := below1 w4 (.cells #[.slice (some ⟨ge, 0, none⟩) ts.length ts.length] 161)
     replace QE := QE.below BN
     replace RR := RR.below BN
     replace N := N.trans (BN.mono N.size)
     have NZ := N.size
     have O5 := RR.o
     clear BN HZ HR HT HF HQ
     have hql : ((qs.map edL).length) ≤ 12 := by rw [List.length_map, htl.out]; omega
     go_wp2_with (at_builtin; refine wpList_append_own _ rfl (.tmp 58) (.tmp 60) 159 rfl W.heap.size 161 i0 (.slice none 0 0) 1 24 Tryz.underlying159 hi hz0 hz1 hz2 rfl (by decide) (.slice aR qs.length cR) (qs.map edL).length vs rfl O5 ⟨w4.heap.size, 0, none⟩ 1 _ [.slice (some ⟨ge, 0, none⟩) ts.length ts.length] rfl rfl (slice_new _ _ _) (by simp [Value.oneCell']) (by unfold maxLen; omega) (by omega) NZ ?_)
     intro v7 w7 R7 G7 _
     have RR7 := RR.snoc QE (by rw [edL_len]; omega) (by rw [edL_len, List.length_map]; exact R7) G7
     rw [← HTK.out] at RR7
     have N7 := N.grown G7 NZ (fun k hk => (World.ownsRow.lt O5 k hk).1)
     clear R7 G7 O5 RR QE
     go_wp2
     go_roundw
     case rel => exact ⟨j + 1, _, by omega, by go_num, RR7, T', N7⟩
     case measure => simp [intOf]; omega
    ·have F : Hid (ringsI rs rs.length = false) := HT.out (by
      rw [HR.out, ← HZ.out]
      exact decide_eq_false hz2)
     have bz : (z2 == 0) = false := by simp [hz2]
     clear HZ HR HTK HQ RR
     have RB := V0.below N
     have RN := B0.trans (N.mono B0.size)
     clear HT HF
     have RC := Box3.chain RN RB (.int .i64 (z2)) (.int .i64 (j)) (.int .i64 (x2))
     obtain ⟨r0, r1, r2⟩ := RB.reads (.int .i64 (z2)) (.int .i64 (j)) (.int .i64 (x2))
     obtain ⟨o0, o1, o2, of, _⟩ := id RB
     go_wp2
     refine bodyPost_ret (v := .agg #[.int .i64 (z2), .int .i64 (j), .int .i64 (x2)]) (by simp [results, Tryz.results76, go_sem, r0, r1, r2]) rfl ?_
     first
     | exact ⟨_, _, _, rfl, (by show _ = _; rw [F.out]; exact decide_eq_false hz2), RC⟩
     | exact ⟨_, ⟨_, _, rfl⟩, (by show _ = _; rw [F.out]; exact decide_eq_false hz2), RC⟩
  ·obtain rfl : j = rs.length := by omega
   have F : Hid (ringsI rs rs.length = true) := T
   have RB := V0.below N
   have RN := B0.trans (N.mono B0.size)
   clear T RR
   have RC := Box3.chain RN RB (.int .i64 (0)) (.int .i64 (0)) (.int .i64 (0))
   obtain ⟨r0, r1, r2⟩ := RB.reads (.int .i64 (0)) (.int .i64 (0)) (.int .i64 (0))
   obtain ⟨o0, o1, o2, of, _⟩ := id RB
   go_wp2
   refine bodyPost_ret (v := .agg #[.int .i64 (0), .int .i64 (0), .int .i64 (0)]) (by simp [results, Tryz.results76, go_sem, r0, r1, r2]) rfl ?_
   first
   | exact ⟨_, _, _, rfl, (by show _ = _; rw [F.out]; rfl), RC⟩
   | exact ⟨_, ⟨_, _, rfl⟩, (by show _ = _; rw [F.out]; rfl), RC⟩
end Go.Proofs.YtinlomcaagdbiaaGreat
