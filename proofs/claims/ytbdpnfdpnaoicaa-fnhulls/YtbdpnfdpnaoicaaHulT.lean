/- Hull of the program. -/
import Derived.Test.YtbdpnfdpnaoicaaHulO
import Derived.Test.YtbdpnfdpnaoicaaConH
import Derived.Test.YtbdpnfdpnaoicaaClnP
import Derived.Test.YtbdpnfdpnaoicaaRingI
import Derived.Test.YtbdpnfdpnaoicaaMarkR
import Derived.Test.YtbdpnfdpnaoicaaBase
namespace Go.Proofs.Ytbdpnfdpnaoicaa
open Go.RowKit

/-- What Hull answers. -/
def HullOf (ps H : List Pn) : Prop := (okL ps = true ∧ ps.length ≤ 500 ∧ ∃ S, Sus ps S ∧ S.length ≤ ps.length ∧ H = hul S) ∨ (¬ (okL ps = true ∧ ps.length ≤ 500) ∧ H = [])
theorem HullOf.one {ps H H' : List Pn} (h : HullOf ps H) (k : HullOf ps H') : H = H' := by
  rcases h with ⟨a, b, S, c, _, rfl⟩ | ⟨a, rfl⟩
  · rcases k with ⟨_, _, S', c', _, rfl⟩ | ⟨a', _⟩
    · rw [c.one c']
    · exact absurd ⟨a, b⟩ a'
  · rcases k with ⟨a', b', _⟩ | ⟨_, rfl⟩
    · exact absurd ⟨a', b'⟩ a
    · rfl
theorem HullOf.len {ps H : List Pn} (h : HullOf ps H) : H.length ≤ 1000 := by
  rcases h with ⟨_, b, S, _, c, rfl⟩ | ⟨_, rfl⟩
  · have := hul_len S
    omega
  · simp
theorem okCrd {ps : List Pn} (h : okL ps = true) : ∀ q ∈ ps, Crd q.1 ∧ Crd q.2 := fun q hq => by
  have := List.all_eq_true.1 h q hq
  unfold ptOk at this
  simp only [Bool.and_eq_true, inB_true] at this
  exact this
theorem seesTwo {lo : Nat} {w : World} {q : Nat} {a a' : Option Addr} {n n' c c' : Nat} {r r' : List Pn} (K : Box2 lo w q (.slice a n c) (.slice a' n' c')) (h : SeesP w a c r) (h' : SeesP w a' c' r') (hn : r.length = n) (hn' : r'.length = n') : SeesS w (some ⟨q, 0, none⟩) 2 [r, r'] := by
  refine ⟨by simp, by simp [maxLen], fun _ => ⟨q, 0, rfl, fun i hi => ?_⟩⟩
  have : i = 0 ∨ i = 1 := by simp at hi; omega
  rcases this with rfl | rfl
  · exact ⟨a, c, by rw [show (rowA [r, r'] 0).length = n from hn]; exact K.c0, h⟩
  · exact ⟨a', c', by rw [show (rowA [r, r'] 1).length = n' from hn']; exact K.c1, h'⟩
theorem twoLen {r r' : List Pn} (h1 : 0 < r.length) (h2 : r.length ≤ 500) (h3 : 0 < r'.length) (h4 : r'.length ≤ 500) : ∀ i, i < [r, r'].length → 0 < (rowA [r, r'] i).length ∧ (rowA [r, r'] i).length ≤ 500 := fun i hi => by
  have : i = 0 ∨ i = 1 := by simp at hi; omega
  rcases this with rfl | rfl
  · exact ⟨h1, h2⟩
  · exact ⟨h3, h4⟩
theorem compact_short (a : Option Addr) (n c : Nat) (w : World) (h : n < 2) :
    Calls Try.prog 21 #[.slice a n c] w fun e w' => e = .returned (.slice a n c) ∧ w' = w := by
  go_enter Try.func21, Try.ntmps21
  go_wp2
  go_ret
  exact ⟨rfl, rfl⟩
theorem sort_noneP (p : Option Addr) (cap : Nat) (fv : Value) (w : World) :
    Calls Try.prog 19 #[.slice p 0 cap, fv] w fun e w' => e = .returned (.tuple #[]) ∧ w' = w := AnyF.slices_SortFunc_none Try.sortPts p cap fv w
theorem leftTurnsN (a : Option Addr) (c n : Nat) (ps : List Pn) (w : World) (hn : ps.length = n) (h : SeesP w a c ps) (hl : ps.length ≤ 500) (ok : ∀ q ∈ ps, Crd q.1 ∧ Crd q.2) :
    Calls Try.prog 22 #[.slice a n c] w fun e w' => ∃ v, e = .returned v ∧ RowPt w.heap.size w' v (chn ps) ∧ Below w.heap.size w w' := by
  subst hn
  exact leftTurns_any a c ps w h hl ok
theorem dropLast_eq {l : List Pn} {n : Nat} (h : l.length = n) : l.take (n - 1) = l.dropLast := by rw [List.dropLast_eq_take, h]

set_option maxRecDepth 20000 in
set_option maxHeartbeats 1500000 in
theorem implHull (ad : Addr) (c : Nat) (ps : List Pn) (w : World) (h : SeesP w (some ad) c ps) (hl : ps.length ≤ 1048576) :
    Calls Try.prog 6 #[.slice (some ad) ps.length c] w fun e w' => ∃ v, e = .returned v ∧ ∃ H : List Pn, HullOf ps H ∧ RowPt w.heap.size w' v H ∧ Below w.heap.size w w' := by
  have hm := h.max
  have hf := h.fits
  unfold maxLen at hm
  by_cases h5 : ps.length ≤ 500
  · cases ok : okL ps
    · have NO : Hid (HullOf ps []) := .inr ⟨(fun t => by rw [ok] at t; cases t.1), rfl⟩
      go_enter Try.func6, Try.ntmps6
      go_wp2_with fail
      refine (containsWrong _ _ _ _ h).mono ?_
      rintro e w1 ⟨rfl, B⟩
      rw [ok]
      go_wp2
      go_ret
      exact ⟨_, rfl, [], NO.out, RowPt.nil _ _, B⟩
    · have OK : Hid (okL ps = true) := ok
      have HL : Hid (ps.length ≤ 500) := h5
      have CR : Hid (∀ q ∈ ps, Crd q.1 ∧ Crd q.2) := okCrd ok
      go_enter Try.func6, Try.ntmps6
      go_wp2_with fail
      refine (containsWrong _ _ _ _ h).mono ?_
      rintro e w1 ⟨rfl, B⟩
      rw [ok]
      clear ok
      go_wp2_with fail
      refine (cloneP ad c ps _ (h.below B) hl).mono ?_
      rintro e w2 ⟨v, rfl, RC, hb⟩
      have RC2 : RowPt w.heap.size w2 v ps := row_base RC B.size
      replace B := B.trans (hb.mono B.size)
      clear hb RC
      rcases Nat.eq_zero_or_pos ps.length with z | z
      · obtain rfl : ps = [] := List.eq_nil_of_length_eq_zero z
        obtain ⟨a', c', e', _, _⟩ := RC2.shape
        subst e'
        go_wp2_with fail
        refine (sort_noneP a' c' _ _).mono ?_
        rintro e w3 ⟨rfl, rfl⟩
        go_wp2_with fail
        refine (compact_short a' 0 c' _ (by omega)).mono ?_
        rintro e w4 ⟨rfl, rfl⟩
        go_wp2
        go_ret
        exact ⟨_, rfl, [], .inl ⟨OK.out, HL.out, [], Sus.nil, Nat.le_refl _, rfl⟩, RC2, B⟩
      · obtain ⟨g, cg, e', _, _⟩ := RC2.nonnil z
        subst e'
        have g1 := (World.ownsRow.lt RC2 g rfl).1
        go_wp2_with fail
        refine (sortPts_any w.heap.size g cg ps _ RC2 h5).mono ?_
        rintro e w3 ⟨rfl, qs, ql, RQ, QP, QS, GQ⟩
        replace B := B.grown GQ B.size (fun k hk => by injection hk with hk; omega)
        have SU0 := dedN_sus QP QS
        have SL0 := dedN_len qs qs.length
        rw [← ql] at RQ ⊢
        have QL : Hid (qs.length = ps.length) := ql
        have q5 : qs.length ≤ 500 := by omega
        have q0 : 0 < qs.length := by omega
        clear GQ RC2 ql
        go_wp2_with fail
        refine (compactPts w.heap.size g cg qs _ RQ q5 q0).mono ?_
        rintro e w4 ⟨v4, rfl, rfl, RS, GS⟩
        replace B := B.grown GS B.size (fun k hk => by injection hk with hk; omega)
        clear GS RQ
        generalize dedN qs qs.length = S at *
        have SL : S.length ≤ ps.length := by have := QL.out; omega
        have SLH : Hid (S.length ≤ ps.length) := SL
        clear SL0
        have SU : Hid (Sus ps S) := SU0
        have CS : ∀ q ∈ S, Crd q.1 ∧ Crd q.2 := fun q hq => CR.out q ((SU0.2 q).1 hq)
        have CS2 : ∀ q ∈ S.reverse, Crd q.1 ∧ Crd q.2 := fun q hq => CS q (List.mem_reverse.1 hq)
        clear SU0 QP QS QL q5 q0
        by_cases s2 : S.length < 2
        · have HU : Hid (hul S = S) := by show _ = _; unfold hul; rw [if_pos s2]
          go_wp2
          go_ret
          refine ⟨_, rfl, hul S, .inl ⟨OK.out, HL.out, S, SU.out, SLH.out, rfl⟩, ?_, B⟩
          rw [HU.out]
          exact RS
        · have HU : Hid (hul S = [(chn S).dropLast, (chn S.reverse).dropLast].flatten) := by show _ = _; unfold hul; rw [if_neg s2]; simp
          have s3 : 2 ≤ S.length := by omega
          go_wp2_with fail
          refine (leftTurns_any _ _ S _ RS.seesP (by omega) CS).mono ?_
          rintro e w5 ⟨vt, rfl, RT, hb⟩
          have l4 := World.ownsRow.lt RS g rfl
          replace RS := RS.below hb
          have RT1 : RowPt (g + 1) w5 vt (chn S) := row_base RT (by have := B.size; omega)
          replace B := B.trans (hb.mono B.size)
          clear hb RT
          go_wp2_with fail
          refine (reversePts w.heap.size g cg S _ RS (by omega) (by omega)).mono ?_
          rintro e w6 ⟨rfl, RV, GV⟩
          replace B := B.grown GV B.size (fun k hk => by injection hk with hk; omega)
          replace RT1 : RowPt (g + 1) w6 vt (chn S) := owns_kept RT1 GV (fun k hk e => by have := (World.ownsRow.lt RT1 k hk).1; injection e with e; omega)
          have rl : Hid (S.reverse.length = S.length) := List.length_reverse
          clear GV RS l4
          go_wp2_with fail
          refine (leftTurnsN (some ⟨g, 0, none⟩) cg S.length S.reverse _ rl.out RV.seesN (by rw [rl.out]; omega) CS2).mono ?_
          rintro e w7 ⟨vu, rfl, RU, hb⟩
          replace RT1 := RT1.below hb
          replace B := B.trans (hb.mono B.size)
          have T1 := chn_two s3
          have T2 := chn_two (ps := S.reverse) (by rw [rl.out]; exact s3)
          have T3 := chn_len S
          have T4 := chn_len S.reverse
          rw [rl.out] at T4
          clear hb RV CS CS2
          obtain ⟨gT, ct, e', hct, hmt⟩ := RT1.nonnil (by omega)
          subst e'
          obtain ⟨gU, cu, e', hcu, hmu⟩ := RU.nonnil (by omega)
          subst e'
          have RT := RT1.cut (m := (chn S).length - 1) (by omega)
          have RU2 := RU.cut (m := (chn S.reverse).length - 1) (by omega)
          rw [dropLast_eq rfl] at RT RU2
          have LT : (chn S).dropLast.length = (chn S).length - 1 := List.length_dropLast
          have LU : (chn S.reverse).dropLast.length = (chn S.reverse).length - 1 := List.length_dropLast
          unfold maxLen at hmt hmu
          clear RU RT1
          have RU := RU2
          clear RU2 rl
          obtain ⟨nt, hnt⟩ : ∃ n, (chn S).length = n := ⟨_, rfl⟩
          obtain ⟨nu, hnu⟩ : ∃ n, (chn S.reverse).length = n := ⟨_, rfl⟩
          rw [hnt] at RT LT T1 T3 hct ⊢
          rw [hnu] at RU LU T2 T4 hcu ⊢
          have T1' : 0 < (chn S).dropLast.length := by omega
          have T2' : (chn S).dropLast.length ≤ 500 := by omega
          have T3' : 0 < (chn S.reverse).dropLast.length := by omega
          have T4' : (chn S.reverse).dropLast.length ≤ 500 := by omega
          have k1 : (nt : Int) - 1 = ((nt - 1 : Nat) : Int) := by omega
          have k2 : (nu : Int) - 1 = ((nu - 1 : Nat) : Int) := by omega
          have wt : IntKind.i64.wrap ((nt - 1 : Nat) : Int) = ((nt - 1 : Nat) : Int) := by rw [IntKind.wrap_i64]; omega
          have wu : IntKind.i64.wrap ((nu - 1 : Nat) : Int) = ((nu - 1 : Nat) : Int) := by rw [IntKind.wrap_i64]; omega
          have bt : ((nt - 1 : Nat) : Int) ≤ (ct : Int) := by omega
          have bu : ((nu - 1 : Nat) : Int) ≤ (cu : Int) := by omega
          clear T1 T2 T3 T4 hnt hnu
          have T1 := T1'
          have T2 := T2'
          have T3 := T3'
          have T4 := T4'
          clear T1' T2' T3' T4'
          go_upto_region 11 with fail
          generalize w7 = W at *
          refine wp_region_held_drew (S := Below W.heap.size W) (by kernel_rfl) ((Below.refl _ _).drew) (fun hHeld => ?_)
          have N : Below W.heap.size W W.drew := hHeld
          revert hHeld N
          generalize W.drew = ww0
          intro hHeld N
          refine takeQ (i := 0) (gt rfl) (by kernel_rfl) (fun _ _ _ h => h) (by rfl) (by intro wq _; go_simp <;> with_reducible rfl) (by assumption) ?_
          try simp only [Act.put, sA, sB, sC]
          refine takeQ (i := 1) (gt rfl) (by kernel_rfl) (fun _ _ _ h => h) (by rfl) (by intro wq _; go_simp <;> with_reducible rfl) (by assumption) ?_
          try simp only [Act.put, sA, sB, sC]
          refine takeQ (i := 2) (gt rfl) (by kernel_rfl) (fun _ _ _ h => h) (by rfl) (by intro wq _; go_simp <;> with_reducible rfl) (by assumption) ?_
          try simp only [Act.put, sA, sB, sC]
          refine takeQ (i := 3) (gt rfl) (by kernel_rfl) (fun _ _ _ h => h) (by rfl) (by intro wq _; go_simp <;> with_reducible rfl) (by assumption) ?_
          try simp only [Act.put, sA, sB, sC]
          refine takeQ (i := 4) (gt rfl) (by kernel_rfl) (fun _ _ _ h => h) (by rfl) (by intro wq _; go_simp <;> with_reducible rfl) (by assumption) ?_
          try simp only [Act.put, sA, sB, sC]
          refine takeQ (i := 5) (gt rfl) (by kernel_rfl) (fun _ _ _ h => h) (by rfl) (by intro wq _; go_simp <;> with_reducible rfl) (by assumption) ?_
          try simp only [Act.put, sA, sB, sC]
          refine takeQ (i := 6) (gt rfl) (by kernel_rfl) (fun _ _ _ h => h) (by rfl) (by intro wq _; go_simp <;> with_reducible rfl) (by assumption) ?_
          try simp only [Act.put, sA, sB, sC]
          refine takeQ (i := 7) (gt rfl) (by kernel_rfl) (fun _ _ _ h => h) (by rfl) (by intro wq _; go_simp <;> with_reducible rfl) (by assumption) ?_
          try simp only [Act.put, sA, sB, sC]
          refine takeQ (i := 8) (gt rfl) (by kernel_rfl) (fun _ _ _ h => h) (by rfl) (by intro wq _; go_simp <;> with_reducible rfl) (by assumption) ?_
          try simp only [Act.put, sA, sB, sC]
          refine takeQ (i := 9) (gt rfl) (by kernel_rfl) (fun _ _ _ h => h) (by rfl) (by intro wq _; go_simp <;> with_reducible rfl) (by assumption) ?_
          try simp only [Act.put, sA, sB, sC]
          refine wpAnyH_ready (rs := [10]) (by kernel_rfl) (by simp) (AllReadyH.cons (gt rfl) (fun K hK => ?_) AllReadyH.nil)
          go_simp
          have KB := Box2.new ww0 N.size (.slice (some ⟨gT, 0, none⟩) (nt - 1) ct) (.slice (some ⟨gU, 0, none⟩) (nu - 1) cu) 24
          have hb := below1 ww0 (.cells #[.slice (some ⟨gT, 0, none⟩) (nt - 1) ct, .slice (some ⟨gU, 0, none⟩) (nu - 1) cu] 24)
          replace N := N.trans (hb.mono N.size)
          clear hb
          generalize ww0.heap.size = zb at *
          generalize ww0.alloc (.cells #[.slice (some ⟨gT, 0, none⟩) (nt - 1) ct, .slice (some ⟨gU, 0, none⟩) (nu - 1) cu] 24) = ww1 at *
          refine hK.out _ _ N (fun hHeld => ?_)
          clear hK K
          try simp only [Act.put, sA, sB, sC]
          refine wpAnyH_ready (rs := [11]) (by kernel_rfl) (by simp) (AllReadyH.cons (gt rfl) (fun K hK => ?_) AllReadyH.nil)
          go_simp
          have NB := N.size
          refine (concatH (some ⟨zb, 0, none⟩) 2 [(chn S).dropLast, (chn S.reverse).dropLast] _ (seesTwo KB (RT.below N).seesN (RU.below N).seesN LT LU) (by simp) (twoLen T1 T2 T3 T4)).mono ?_
          rintro e1 ww2 ⟨vr, rfl, RR, hb⟩
          replace KB := KB.below hb
          replace N := N.trans (hb.mono N.size)
          clear hb
          refine hK.out _ _ N (fun hHeld => ?_)
          clear hK K
          try simp only [Act.put, sA, sB, sC]
          refine takeQ (i := 12) (gt rfl) (by kernel_rfl) (fun _ _ _ h => h) (by rfl) (by intro wq _; go_simp <;> with_reducible rfl) (by assumption) ?_
          try simp only [Act.put, sA, sB, sC]
          refine wpAnyH_done (by kernel_rfl) ?_ _
          go_wp2
          go_ret
          refine ⟨_, rfl, hul S, .inl ⟨OK.out, HL.out, S, SU.out, SLH.out, rfl⟩, ?_, B.trans (N.mono B.size)⟩
          rw [HU.out]
          exact row_base RR (Nat.le_trans B.size NB)
  · have NO : Hid (HullOf ps []) := .inr ⟨fun t => h5 t.2, rfl⟩
    go_enter Try.func6, Try.ntmps6
    go_wp2
    go_ret
    exact ⟨_, rfl, [], NO.out, RowPt.nil _ _, Below.refl _ _⟩
end Go.Proofs.Ytbdpnfdpnaoicaa
