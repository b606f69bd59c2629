/- The program's long division of limbs: impl.divMag. -/
import Derived.Test.YtnefdfgonolafaaMost
import Derived.Test.YtnefdfgonolafaaShift
import Derived.Test.YtnefdfgonolafaaBitn
import Derived.Test.YtnefdfgonolafaaCmp
import Derived.Test.YtnefdfgonolafaaWindow
namespace Go.Proofs.Ytnefdfgonolafaa
open Go.RowKit

/-- What does not lie in the other row. -/
def Apart (a1 : Option Addr) (qs : List Int) (a2 : Option Addr) (rs : List Int) : Prop := ∀ b off, a1 = some ⟨b, off, none⟩ → qs ≠ [] → rowOf a2 rs ≠ some b

theorem below_of_row {w w' : World} {B : Nat} (hg : w.grownBy w' (some B)) (hb : B ≤ w.heap.size) : Below B w w' :=
  ⟨hg.os, hg.tape, hg.output, hg.size, fun i hi => hg.block i (by omega) (fun e => by simp only [Option.some.injEq] at e; omega)⟩

set_option maxRecDepth 20000 in
set_option maxHeartbeats 4000000 in
theorem divMagC (a b : Option Addr) (c d : Nat) (xs ys : List Int) (w : World) (h : Sees w a c xs) (k : Sees w b d ys) (nx : Nrm xs) (ny : Nrm ys) (hy0 : ys ≠ []) (hx : xs.length ≤ 1048576) (hy : ys.length ≤ 1048576) :
    Calls Try.prog 57 #[.slice a xs.length c, .slice b ys.length d] w fun e w' => ∃ a1 c1 a2 c2 qs rs, e = .returned (.tuple #[.slice a1 qs.length c1, .slice a2 rs.length c2]) ∧
      Own w.heap.size w' a1 c1 qs ∧ Own w.heap.size w' a2 c2 rs ∧ Nrm qs ∧ Nrm rs ∧ val qs = val xs / val ys ∧ val rs = val xs % val ys ∧ Apart a1 qs a2 rs ∧ Below w.heap.size w w' := by
  obtain ⟨i0, hi, hz0, hz1, hz2⟩ := info_parts infoU
  have HX : Hid (xs.length ≤ 1048576) := hx
  have HY : Hid (ys.length ≤ 1048576) := hy
  have mx : xs.length ≤ 4611686018427387900 := by omega
  have my : ys.length ≤ 4611686018427387900 := by omega
  have V0 : Hid (0 < val ys) := val_pos k.lim ny hy0
  have NX : Hid (Nrm xs) := nx
  have NY : Hid (Nrm ys) := ny
  clear hx hy nx ny
  by_cases hlt : val xs < val ys
  · have E : cmpZ (val xs) (val ys) = -1 := by unfold cmpZ; rw [if_pos hlt]
    have E1 : Hid (0 = val xs / val ys) := (Int.ediv_eq_zero_of_lt (val_nonneg h.lim) hlt).symm
    have E2 : Hid (val xs = val xs % val ys) := (Int.emod_eq_of_lt (val_nonneg h.lim) hlt).symm
    clear hlt hi hz0 hz1 hz2
    go_enter Try.func57, Try.ntmps57
    go_wp2_with fail
    refine (cmpMagC a b c d xs ys _ h k NX.out NY.out).mono ?_
    rintro e w1 ⟨rfl, n, rfl⟩
    rw [E]
    go_wp2_with fail
    refine (cloneC a c xs _ (h.below (below_drewN (Below.refl _ _) n)) (by have := HX.out; omega)).mono ?_
    rintro e w2 ⟨a2, c2, rfl, ho, hb⟩
    go_wp2
    go_ret2
    exact ⟨none, 0, a2, c2, [], xs, rfl, Own.nil _ _, ho, trivial, NX.out, E1.out, E2.out, (fun _ _ _ hh => absurd rfl hh), (below_drewN (Below.refl _ _) n).trans hb⟩
  · have E : Hid (¬ cmpZ (val xs) (val ys) < 0) := by
      show ¬ _
      unfold cmpZ; rw [if_neg hlt]; split <;> omega
    obtain ⟨n, hn⟩ : ∃ n, ys.length = n + 1 := ⟨ys.length - 1, by have := List.length_pos_iff.2 hy0; omega⟩
    have hNM : n < xs.length := by
      by_cases c1 : n < xs.length
      · exact c1
      · exact absurd (cmp_len h.lim k.lim NY.out (by omega)) hlt
    have TP := top_pos k.lim NY.out hn
    obtain ⟨b2, o2, eb, hc2⟩ := k.cells hy0
    have g0 := hc2 n (by omega)
    have tl := (k.lim.get n).2
    obtain ⟨yt, hyt⟩ : ∃ yt, Hid (ys[n]?.getD 0 = yt) := ⟨_, rfl⟩
    rw [hyt.out] at TP g0 tl
    have HN : Hid (ys.length = n + 1) := hn
    have EC : ∃ z, cmpZ (val xs) (val ys) = z ∧ ¬ z < 0 ∧ z ≤ 1 := ⟨_, rfl, E.out, by unfold cmpZ; split <;> (try split) <;> omega⟩
    obtain ⟨z, ez, ez0, ez1⟩ := EC
    have HK := cmpMagC a b c d xs ys w h k NX.out NY.out
    rw [ez, HN.out] at HK
    rw [hn] at my ⊢
    subst eb
    clear hlt hc2 hn E ez
    go_enter Try.func57, Try.ntmps57
    go_wp2_with fail
    refine HK.mono ?_
    rintro e w1 ⟨rfl, m1, rfl⟩
    clear HK
    go_wp2_with fail
    refine (lzC yt _ TP (by omega)).mono ?_
    rintro e w1 ⟨⟨s, rfl, hs, hsf⟩, rfl⟩
    have HSF : Hid ((ys[n]?.getD 0 + 1) * 2 ^ s ≤ 4294967296) := by show _ ≤ _; rw [hyt.out]; exact hsf
    have hb1 : Below w.heap.size w (w.drewN m1) := below_drewN (Below.refl _ _) m1
    have hsz : Hid ((w.drewN m1).heap.size = w.heap.size) := rfl
    clear hsf hyt g0 TP tl
    generalize w.drewN m1 = w1 at *
    go_wp2_with fail
    refine (shiftedUpC a c xs s _ (h.below hb1) hs HX.out).mono ?_
    rintro e w2 ⟨rs0, rfl, hor, hrl, hrv, hB2⟩
    have hB2' : Below w.heap.size w w2 := hb1.trans (hB2.mono (Nat.le_of_eq hsz.out.symm))
    go_wp2_with fail
    have hq := shiftedUpC (some ⟨b2, o2, none⟩) d ys s w2 (k.below hB2') hs HY.out
    rw [HN.out] at hq
    refine hq.mono ?_
    clear hq
    rintro e w3 ⟨v0, rfl, hov, hvl, hvv, hB3⟩
    have HVL : Hid (v0.length = n + 1 + 1) := hvl
    have HVV : Hid (val v0 = val ys * 2 ^ s) := hvv
    have HRL : Hid (rs0.length = xs.length + 1) := hrl
    have HRV : Hid (val rs0 = val xs * 2 ^ s) := hrv
    clear hvl hvv hrl hrv
    go_wp2_with fail
    have hq := trimmedC w2.heap.size _ _ v0 w3 hov
    rw [HVL.out] at hq
    refine hq.mono ?_
    clear hq
    rintro e w4 ⟨rfl, a3, j, rfl, hj, ha, hnv, hvt⟩
    have BB := by_bounds k.lim NY.out HN.out (p2_pos s) HSF.out
    have hvs : Own w2.heap.size w4 a3 j (v0.take j) := hov.cut (by rw [HVL.out]; exact hj) ha
    have hvt2 : val (v0.take j) = val ys * 2 ^ s := by rw [hvt, HVV.out]
    have hjl : (v0.take j).length = j := by rw [List.length_take, HVL.out]; omega
    have hjn : j = n + 1 := by
      rw [← hjl]
      exact len_of_val hvs.lim hnv (by rw [hvt2]; exact BB.2.1) (by rw [hvt2]; exact BB.2.2)
    generalize v0.take j = vs at *
    subst hjn
    have TV : Hid (0 < vs[n]?.getD 0) := top_pos hvs.lim hnv hjl
    have HJL : Hid (vs.length = n + 1) := hjl
    have HVT : Hid (val vs = val ys * 2 ^ s) := hvt2
    have HBB : Hid (4294967296 ^ n * 2 ^ s ≤ val ys * 2 ^ s ∧ val ys * 2 ^ s < 4294967296 ^ (n + 1)) := ⟨BB.1, BB.2.2⟩
    obtain ⟨K, hK⟩ : ∃ K, K + n = xs.length := ⟨xs.length - n, by omega⟩
    have hK0 : 0 < K := by omega
    clear BB hvt hvt2 hjl hov hnv ha HVL HVV hj
    have hlt2 := hor.lt rfl (by intro e; have := HRL.out; rw [e] at this; simp at this)
    have B3 : Below w1.heap.size w1 w4 := hB2.trans (hB3.mono hB2.size)
    have or3 := hor.below hB3
    clear hor
    go_wp2_with (at_make; refine wpList_make_full _ rfl _ _ 22 rfl w1.heap.size 80 i0 (.int .u32 0) 1 Try.underlying22 hi hz0 hz1 .i64 .i64 _ _ K rfl rfl ?m1 ?m2 ?b2 ?b3 B3.size ?_; (case m1 => omega); (case m2 => omega); (case b2 => rw [hz2]; have := HX.out; omega); (case b3 => have := HX.out; unfold maxLen; omega); intro w5 hown5 hgrow5; rw [made_list] at hown5; have hoq := (Own.of_row (xs := List.replicate K 0) (by rw [List.map_replicate]; exact hown5) (Lim.zeros _)).1; have hlt5 := (hown5.lt _ rfl).2; have hb5 : Below w4.heap.size w4 w5 := ((Below.refl _ _).grown hgrow5 (Nat.le_refl _) (fun k h => by cases h)); clear hown5 hgrow5)
    have hqb : w1.heap.size < w4.heap.size := Nat.lt_of_lt_of_le hlt2 hB3.size
    have D0 : Divs w1.heap.size w5 w4.heap.size w1.heap.size (List.replicate K 0) rs0 K (xs.length + 1) := ⟨hoq, or3.below hb5, by simp, HRL.out, by omega⟩
    have S0 : Sees w5 a3 (n + 1) vs := (hvs.below hb5).toSees
    have AP : Hid (∀ q off, a3 = some ⟨q, off, none⟩ → vs ≠ [] → q ≠ w1.heap.size ∧ q ≠ w4.heap.size) := by
      intro q off e1 e2
      have h1 := (hvs.new q off e1 e2).1
      have h2 := hvs.lt e1 e2
      exact ⟨by omega, by omega⟩
    have LV : Hid (Lim vs) := hvs.lim
    have LX : Hid (Lim xs) := h.lim
    have L0 : Hid (LongAt (val xs * 2 ^ s) (val vs) K K (List.replicate K 0) rs0) := LongAt.start h.lim hK HRV.out (p2_pos s) HBB.out.1 HVT.out
    have B5 : Below w1.heap.size w1 w5 := B3.trans (hb5.mono (Nat.le_of_lt hqb))
    have VP : Hid (0 < val vs ∧ val vs < 4294967296 ^ (n + 1)) := ⟨by rw [HVT.out]; exact Int.mul_pos V0.out (p2_pos s), by rw [HVT.out]; exact HBB.out.2⟩
    clear hoq or3 hb5 hvs hB2' hB2 hB3 hlt2 B3 hi hz0 hz1 hz2 HRL HRV hlt5 h k
    generalize w4.heap.size = qb at *
    go_loopw [10] (fun i wr => ∃ (j : Nat) (qs rs : List Int), j ≤ K ∧ i = .int .i64 ((j : Int) - 1) ∧ Divs w1.heap.size wr qb w1.heap.size qs rs K (xs.length + 1) ∧ Sees wr a3 (n + 1) vs ∧ Hid (LongAt (val xs * 2 ^ s) (val vs) K j qs rs) ∧ Below w1.heap.size w1 wr) (fun i _ => (intOf i + 1).toNat)
    case atStart => exact ⟨K, _, _, Nat.le_refl _, by go_num, D0, S0, L0, B5⟩
    case round =>
      obtain ⟨j, qs, rs, hj, rfl, hD, hS, hat, hB⟩ := hrel
      clear D0 S0 L0 B5
      by_cases h0 : j = 0
      · subst h0
        obtain ⟨q1, q2⟩ := hat.out.done (val_nonneg hD.r.lim) VP.out.1
        have QV : Hid (val qs = val xs / val ys) := by
          show _ = _
          rw [q1, HVT.out]
          exact (shift_div (p2_pos s) V0.out).1
        have RV : Hid (val rs / 2 ^ s = val xs % val ys) := by
          show _ = _
          rw [q2, HVT.out]
          exact (shift_div (p2_pos s) V0.out).2
        clear q1 q2 hat
        go_wp2_with fail
        have hq := trimmedC w1.heap.size _ _ qs wr hD.q
        rw [hD.ql] at hq
        refine hq.mono ?_
        clear hq
        rintro e w6 ⟨rfl, a4, jq, rfl, hjq, ha4, hn4, hv4⟩
        have Q4 := hD.q.cut (by rw [hD.ql]; exact hjq) ha4
        have l4 : (qs.take jq).length = jq := by rw [List.length_take, hD.ql]; omega
        generalize qs.take jq = qs4 at *
        subst l4
        have QV4 : Hid (val qs4 = val xs / val ys) := by show _ = _; rw [hv4]; exact QV.out
        have N4 : Hid (Nrm qs4) := hn4
        clear hn4 hv4 QV ha4
        have hm4 : qs4.length ≤ 4611686018427387900 := by omega
        go_wp2_with fail
        have hq := shiftedDownC _ _ rs s w6 hD.r.toSees hs (by rw [hD.rl]; have := HX.out; omega)
        rw [hD.rl] at hq
        refine hq.mono ?_
        clear hq
        rintro e w7 ⟨zs, rfl, hoz, hzl, hzv, hB7⟩
        have HZL : Hid (zs.length = xs.length + 1) := hzl
        have HZV : Hid (val zs = val rs / 2 ^ s) := hzv
        clear hzl hzv
        go_wp2_with fail
        have hq := trimmedC w6.heap.size _ _ zs w7 hoz
        rw [HZL.out] at hq
        refine hq.mono ?_
        clear hq
        rintro e w8 ⟨rfl, a5, jr, rfl, hjr, ha5, hn5, hv5⟩
        have Q5 := hoz.cut (by rw [HZL.out]; exact hjr) ha5
        have l5 : (zs.take jr).length = jr := by rw [List.length_take, HZL.out]; omega
        generalize zs.take jr = rs5 at *
        subst l5
        have RV5 : Hid (val rs5 = val xs % val ys) := by show _ = _; rw [hv5, HZV.out]; exact RV.out
        have N5 : Hid (Nrm rs5) := hn5
        clear hn5 hv5 ha5
        go_wp2
        go_ret2
        refine ⟨a4, _, a5, _, qs4, rs5, rfl, (Q4.below hB7).base_le (Nat.le_of_eq hsz.out.symm), Q5.base_le (Nat.le_trans (Nat.le_of_eq hsz.out.symm) hB.size), N4.out, N5.out, QV4.out, RV5.out, ?_, ?_⟩
        · intro bq oq e1 e2 e3
          exact row_ne_low Q5 (Q4.lt e1 e2) e3.symm
        · exact hb1.trans ((hB.trans (hB7.mono hB.size)).mono (Nat.le_of_eq hsz.out.symm))
      · obtain ⟨i, rfl⟩ : ∃ i, j = i + 1 := ⟨j - 1, by omega⟩
        have hrl := hD.rl
        have LW : val (rs.drop (i + (n + 2))) = 0 ∧ val ((rs.drop i).take (n + 2)) < 4294967296 * val vs := hat.out.window hD.r.lim VP.out.2 (by rw [hrl]; omega)
        have hwin : Own w1.heap.size wr (some ⟨w1.heap.size, i, none⟩) (xs.length + 1 - i) ((rs.drop i).take (n + 2)) := by
          have := hD.r.window (i := i) (m := n + 2) (by rw [hrl]; omega)
          rw [Nat.zero_add] at this
          exact this
        have hul : ((rs.drop i).take (n + 2)).length = n + 2 := by simp [hrl]; omega
        have hune : (rs.drop i).take (n + 2) ≠ [] := by intro e; rw [e] at hul; simp at hul
        have erow : rowOf (some (⟨w1.heap.size, i, none⟩ : Addr)) ((rs.drop i).take (n + 2)) = some w1.heap.size := by unfold rowOf; rw [if_neg hune]; rfl
        have hap : ∀ q off, a3 = some ⟨q, off, none⟩ → vs ≠ [] → rowOf (some (⟨w1.heap.size, i, none⟩ : Addr)) ((rs.drop i).take (n + 2)) ≠ some q := by
          intro q off e1 e2 e3
          rw [erow] at e3
          exact (AP.out q off e1 e2).1 (Option.some.inj e3).symm
        have hq := takeMostC w1.heap.size (some ⟨w1.heap.size, i, none⟩) a3 (xs.length + 1 - i) (n + 1) _ vs n wr hwin hS hul HJL.out TV.out hap LW.2
        have HST : Hid (∀ us : List Int, us.length = n + 2 → val us = val ((rs.drop i).take (n + 2)) % val vs → LongAt (val xs * 2 ^ s) (val vs) K i (qs.set i (val ((rs.drop i).take (n + 2)) / val vs)) (patch rs us i (n + 2))) :=
          fun us e1 e2 => hat.out.step hD.r.lim VP.out.1 (by rw [hrl]; omega) (by omega) e1 LW.1 e2
        have hQ0 : 0 ≤ val ((rs.drop i).take (n + 2)) / val vs := Int.ediv_nonneg (val_nonneg hwin.lim) (by have := VP.out; omega)
        have hQ1 : val ((rs.drop i).take (n + 2)) / val vs < 4294967296 := Int.ediv_lt_of_lt_mul VP.out.1 LW.2
        rw [hul] at hq
        have HQ : Hid _ := hq
        clear hq LW hat hwin hul hune
        go_wp2_with fail
        rw [show i + (n + 1) + 1 - i = n + 2 by omega]
        refine Calls.mono HQ.out ?_
        clear HQ
        rintro e w6 ⟨us, rfl, hou, hul, huv, hW⟩
        rw [erow] at hW
        have D2 : Divs w1.heap.size w6 qb w1.heap.size qs (patch rs us i (n + 2)) K (xs.length + 1) := hD.took (by omega) hou hul hW
        have S2 : Sees w6 a3 (n + 1) vs := hS.kept hW.1 (by rw [← erow]; exact hap)
        have LN : Hid (LongAt (val xs * 2 ^ s) (val vs) K i (qs.set i (val ((rs.drop i).take (n + 2)) / val vs)) (patch rs us i (n + 2))) := HST.out us hul huv
        obtain ⟨g1, g2⟩ := D2.cellQ (j := i) (by omega)
        have D3 := D2.setQ (j := i) (by omega) (v := val ((rs.drop i).take (n + 2)) / val vs) ⟨hQ0, hQ1⟩
        have S3 := S2.kept (grownBy_setCell (grownBy_refl w6 (some qb)) rfl (.int .u32 (val ((rs.drop i).take (n + 2)) / val vs)) (p := ⟨qb, i, none⟩)) (fun q off e1 e2 e3 => (AP.out q off e1 e2).2 (Option.some.inj e3).symm)
        have B6 : Below w1.heap.size w1 w6 := hB.trans (below_of_row hW.1 hB.size)
        have B7 := B6.setCell (p := ⟨qb, i, none⟩) (Nat.le_of_lt hqb) (.int .u32 (val ((rs.drop i).take (n + 2)) / val vs))
        clear D2 S2 hW hD hS hB huv hou hul hap erow HST B6
        generalize val ((rs.drop i).take (n + 2)) / val vs = Q at *
        generalize patch rs us i (n + 2) = rs' at *
        generalize qs[i]?.getD 0 = z0 at *
        go_wp2
        go_roundw
        case rel => exact ⟨i, _, _, by omega, by go_num, D3, S3, LN, B7⟩
        case measure => simp [intOf]
end Go.Proofs.Ytnefdfgonolafaa
