import Derived.Test.YtnjbedhealpgcaaGreatMost
import Derived.Test.YtnjbedhealpgcaaGreatShift
import Derived.Test.YtnjbedhealpgcaaGreatBitn
import Derived.Test.YtnjbedhealpgcaaGreatBase
import Derived.Test.YtnjbedhealpgcaaGreatWindow
import Derived.Deep.LoopGhost
import Derived.Deep.RegionHeld3
import Derived.Test.YtnjbedhealpgcaaGreatPtG
import Derived.Test.YtnjbedhealpgcaaGreatFTake
/- The program's long division of limbs: impl.divMag. -/
namespace Go.Proofs.YtnjbedhealpgcaaGreat
open Go.RowKit

def Apart (a1 : Option Addr) (qs : List Int) (a2 : Option Addr) (rs : List Int) : Prop := ∀ b off, a1 = some ⟨b, off, none⟩ → qs ≠ [] → rowOf a2 rs ≠ some b

theorem below_of_row {w w' : World} {B : Nat} (hg : w.grownBy w' (some B)) (hb : B ≤ w.heap.size) : Below B w w' :=
 ⟨hg.os, hg.tape, hg.output, hg.size, fun i hi => hg.block i (by omega) (fun e => by simp only [Option.some.injEq] at e; omega)⟩

set_option maxRecDepth 20000 in
set_option maxHeartbeats 4000000 in
theorem divMagC (a b : Option Addr) (c d : Nat) (xs ys : List Int) (w : World) (h : Sees w a c xs) (k : Sees w b d ys) (nx : Nrm xs) (ny : Nrm ys) (hy0 : ys ≠ []) (hx : xs.length ≤ 1048576) (hy : ys.length ≤ 1048576) :
  Calls Tryz.prog 117 #[.slice a xs.length c, .slice b ys.length d] w fun e w' => ∃ a1 c1 a2 c2 qs rs, e = .returned (.tuple #[.slice a1 qs.length c1, .slice a2 rs.length c2]) ∧
   Own w.heap.size w' a1 c1 qs ∧ Own w.heap.size w' a2 c2 rs ∧ Nrm qs ∧ Nrm rs ∧ val qs = val xs / val ys ∧ val rs = val xs % val ys ∧ Apart a1 qs a2 rs ∧ Below w.heap.size w w' := by
 obtain ⟨i0, hi, hz0, hz1, hz2⟩ := info_parts infoU
 have HX : Hid (xs.length ≤ 1048576) := hx
 have HY : Hid (ys.length ≤ 1048576) := hy
 have mx : xs.length ≤ 4611686018427387900 := by omega
 have my : ys.length ≤ 4611686018427387900 := by omega
 have V0 : Hid (0 < val ys) := val_pos k.lim ny hy0
 have NX : Hid (Nrm xs) := nx
 have NY : Hid (Nrm ys) := ny
 clear hx hy nx ny
 by_cases hlt : val xs < val ys
 ·have E : cmpZ (val xs) (val ys) = -1 := by unfold cmpZ; rw [if_pos hlt]
  have E1 : Hid (0 = val xs / val ys) := (Int.ediv_eq_zero_of_lt (val_nonneg h.lim) hlt).symm
  have E2 : Hid (val xs = val xs % val ys) := (Int.emod_eq_of_lt (val_nonneg h.lim) hlt).symm
  clear hlt hi hz0 hz1 hz2
  go_enter Tryz.func117, Tryz.ntmps117
  go_wp2_with fail
  refine (cmpMagC a b c d xs ys _ h k NX.out NY.out).mono ?_
  rintro e w1 ⟨rfl, n, rfl⟩
  rw [E]
  go_wp2_with fail
  refine (cloneC a c xs _ (h.below (below_drewN (Below.refl _ _) n)) (by have := HX.out; omega)).mono ?_
  rintro e w2 ⟨a2, c2, rfl, ho, hb⟩
  go_wp2
  go_ret2
  exact ⟨none, 0, a2, c2, [], xs, rfl, Own.nil _ _, ho, trivial, NX.out, E1.out, E2.out, (fun _ _ _ hh => absurd rfl hh), (below_drewN (Below.refl _ _) n).trans hb⟩
 ·have E : Hid (¬ cmpZ (val xs) (val ys) < 0) := by
   show ¬ _
   unfold cmpZ; rw [if_neg hlt]; split <;> omega
  obtain ⟨n, hn⟩ : ∃ n, ys.length = n + 1 := ⟨ys.length - 1, by have := List.length_pos_iff.2 hy0; omega⟩
  have hNM : n < xs.length := by
   by_cases c1 : n < xs.length
   ·exact c1
   ·exact absurd (cmp_len h.lim k.lim NY.out (by omega)) hlt
  have TP := top_pos k.lim NY.out hn
  obtain ⟨b2, o2, eb, hc2⟩ := k.cells hy0
  have g0 := hc2 n (by omega)
  have tl := (k.lim.get n).2
  obtain ⟨yt, hyt⟩ : ∃ yt, Hid (ys[n]?.getD 0 = yt) := ⟨_, rfl⟩
  rw [hyt.out] at TP g0 tl
  have HN : Hid (ys.length = n + 1) := hn
  have EC : ∃ z, cmpZ (val xs) (val ys) = z ∧ ¬ z < 0 ∧ z ≤ 1 := ⟨_, rfl, E.out, by unfold cmpZ; split <;> (try split) <;> omega⟩
  obtain ⟨z, ez, ez0, ez1⟩ := EC
  have HK := cmpMagC a b c d xs ys w h k NX.out NY.out
  rw [ez, HN.out] at HK
  rw [hn] at my ⊢
  subst eb
  clear hlt hc2 hn E ez
  go_enter Tryz.func117, Tryz.ntmps117
  go_wp2_with fail
  refine HK.mono ?_
  rintro e w1 ⟨rfl, m1, rfl⟩
  clear HK
  go_wp2_with fail
  refine (lzC yt _ TP (by omega)).mono ?_
  rintro e w1 ⟨⟨s, rfl, hs, hsf⟩, rfl⟩
  have HSF : Hid ((ys[n]?.getD 0 + 1) * 2 ^ s ≤ 4294967296) := by show _ ≤ _; rw [hyt.out]; exact hsf
  have hb1 : Below w.heap.size w (w.drewN m1) := below_drewN (Below.refl _ _) m1
  have hsz : Hid ((w.drewN m1).heap.size = w.heap.size) := rfl
  clear hsf hyt g0 TP tl
  generalize w.drewN m1 = w1 at *
  go_wp2_with fail
  refine (shiftedUpC a c xs s _ (h.below hb1) hs HX.out).mono ?_
  rintro e w2 ⟨rs0, rfl, hor, hrl, hrv, hB2⟩
  have hB2' : Below w.heap.size w w2 := hb1.trans (hB2.mono (Nat.le_of_eq hsz.out.symm))
  go_wp2_with fail
  have hq := shiftedUpC (some ⟨b2, o2, none⟩) d ys s w2 (k.below hB2') hs HY.out
  rw [HN.out] at hq
  refine hq.mono ?_
  clear hq
  rintro e w3 ⟨v0, rfl, hov, hvl, hvv, hB3⟩
  have HVL : Hid (v0.length = n + 1 + 1) := hvl
  have HVV : Hid (val v0 = val ys * 2 ^ s) := hvv
  have HRL : Hid (rs0.length = xs.length + 1) := hrl
  have HRV : Hid (val rs0 = val xs * 2 ^ s) := hrv
  clear hvl hvv hrl hrv
  go_wp2_with fail
  have hq := trimmedC w2.heap.size _ _ v0 w3 hov
  rw [HVL.out] at hq
  refine hq.mono ?_
  clear hq
  rintro e w4 ⟨rfl, a3, j, rfl, hj, ha, hnv, hvt⟩
  have BB := by_bounds k.lim NY.out HN.out (p2_pos s) HSF.out
  have hvs : Own w2.heap.size w4 a3 j (v0.take j) := hov.cut (by rw [HVL.out]; exact hj) ha
  have hvt2 : val (v0.take j) = val ys * 2 ^ s := by rw [hvt, HVV.out]
  have hjl : (v0.take j).length = j := by rw [List.length_take, HVL.out]; omega
  have hjn : j = n + 1 := by
   rw [← hjl]
   exact len_of_val hvs.lim hnv (by rw [hvt2]; exact BB.2.1) (by rw [hvt2]; exact BB.2.2)
  generalize v0.take j = vs at *
  subst hjn
  have TV : Hid (0 < vs[n]?.getD 0) := top_pos hvs.lim hnv hjl
  have HJL : Hid (vs.length = n + 1) := hjl
  have HVT : Hid (val vs = val ys * 2 ^ s) := hvt2
  have HBB : Hid (4294967296 ^ n * 2 ^ s ≤ val ys * 2 ^ s ∧ val ys * 2 ^ s < 4294967296 ^ (n + 1)) := ⟨BB.1, BB.2.2⟩
  obtain ⟨K, hK⟩ : ∃ K, K + n = xs.length := ⟨xs.length - n, by omega⟩
  have hK0 : 0 < K := by omega
  clear BB hvt hvt2 hjl hov hnv ha HVL HVV hj
  have hlt2 := hor.lt rfl (by intro e; have := HRL.out; rw [e] at this; simp at this)
  have B3 : Below w1.heap.size w1 w4 := hB2.trans (hB3.mono hB2.size)
  have or3 := hor.below hB3
  clear hor
  go_wp2_with (at_make; refine wpList_make_full _ rfl _ _ 28 rfl w1.heap.size 100 i0 (.int .u32 0) 1 Tryz.underlying28 hi hz0 hz1 .i64 .i64 _ _ K rfl rfl ?m1 ?m2 ?b2 ?b3 B3.size ?_; (case m1 => omega); (case m2 => omega); (case b2 => rw [hz2]; have := HX.out; omega); (case b3 => have := HX.out; unfold maxLen; omega); intro w5 hown5 hgrow5; rw [made_list] at hown5; have hoq := (Own.of_row (xs := List.replicate K 0) (by rw [List.map_replicate]; exact hown5) (Lim.zeros _)).1; have hlt5 := (hown5.lt _ rfl).2; have hb5 : Below w4.heap.size w4 w5 := ((Below.refl _ _).grown hgrow5 (Nat.le_refl _) (fun k h => by cases h)); clear hown5 hgrow5)
  have hqb : w1.heap.size < w4.heap.size := Nat.lt_of_lt_of_le hlt2 hB3.size
  have D0 : Divs w1.heap.size w5 w4.heap.size w1.heap.size (List.replicate K 0) rs0 K (xs.length + 1) := ⟨hoq, or3.below hb5, by simp, HRL.out, by omega⟩
  have S0 : Sees w5 a3 (n + 1) vs := (hvs.below hb5).toSees
  have AP : Hid (∀ q off, a3 = some ⟨q, off, none⟩ → vs ≠ [] → q ≠ w1.heap.size ∧ q ≠ w4.heap.size) := by
   intro q off e1 e2
   have h1 := (hvs.new q off e1 e2).1
   have h2 := hvs.lt e1 e2
   exact ⟨by omega, by omega⟩
  have LV : Hid (Lim vs) := hvs.lim
  have LX : Hid (Lim xs) := h.lim
  have L0 : Hid (LongAt (val xs * 2 ^ s) (val vs) K K (List.replicate K 0) rs0) := LongAt.start h.lim hK HRV.out (p2_pos s) HBB.out.1 HVT.out
  have B5 : Below w1.heap.size w1 w5 := B3.trans (hb5.mono (Nat.le_of_lt hqb))
  have VP : Hid (0 < val vs ∧ val vs < 4294967296 ^ (n + 1)) := ⟨by rw [HVT.out]; exact Int.mul_pos V0.out (p2_pos s), by rw [HVT.out]; exact HBB.out.2⟩
  clear hoq or3 hb5 hvs hB2' hB2 hB3 hlt2 B3 hi hz0 hz1 hz2 HRL HRV hlt5 h k
  generalize w4.heap.size = qb at *
  go_loopw [10] (fun i wr => ∃ (j : Nat) (qs rs : List Int), j ≤ K ∧ i = .int .i64 ((j : Int) - 1) ∧ Divs w1.heap.size wr qb w1.heap.size qs rs K (xs.length + 1) ∧ Sees wr a3 (n + 1) vs ∧ Hid (LongAt (val xs * 2 ^ s) (val vs) K j qs rs) ∧ Below w1.heap.size w1 wr) (fun i _ => (intOf i + 1).toNat)
  case atStart => exact ⟨K, _, _, Nat.le_refl _, by go_num, D0, S0, L0, B5⟩
  case round =>
   obtain ⟨j, qs, rs, hj, rfl, hD, hS, hat, hB⟩ := hrel
   clear D0 S0 L0 B5
   by_cases h0 : j = 0
   ·subst h0
    obtain ⟨q1, q2⟩ := hat.out.done (val_nonneg hD.r.lim) VP.out.1
    have QV : Hid (val qs = val xs / val ys) := by
     show _ = _
     rw [q1, HVT.out]
     exact (shift_div (p2_pos s) V0.out).1
    have RV : Hid (val rs / 2 ^ s = val xs % val ys) := by
     show _ = _
     rw [q2, HVT.out]
     exact (shift_div (p2_pos s) V0.out).2
    clear q1 q2 hat
    go_wp2_with fail
    have hq := trimmedC w1.heap.size _ _ qs wr hD.q
    rw [hD.ql] at hq
    refine hq.mono ?_
    clear hq
    rintro e w6 ⟨rfl, a4, jq, rfl, hjq, ha4, hn4, hv4⟩
    have Q4 := hD.q.cut (by rw [hD.ql]; exact hjq) ha4
    have l4 : (qs.take jq).length = jq := by rw [List.length_take, hD.ql]; omega
    generalize qs.take jq = qs4 at *
    subst l4
    have QV4 : Hid (val qs4 = val xs / val ys) := by show _ = _; rw [hv4]; exact QV.out
    have N4 : Hid (Nrm qs4) := hn4
    clear hn4 hv4 QV ha4
    have hm4 : qs4.length ≤ 4611686018427387900 := by omega
    go_wp2_with fail
    have hq := shiftedDownC _ _ rs s w6 hD.r.toSees hs (by rw [hD.rl]; have := HX.out; omega)
    rw [hD.rl] at hq
    refine hq.mono ?_
    clear hq
    rintro e w7 ⟨zs, rfl, hoz, hzl, hzv, hB7⟩
    have HZL : Hid (zs.length = xs.length + 1) := hzl
    have HZV : Hid (val zs = val rs / 2 ^ s) := hzv
    clear hzl hzv
    go_wp2_with fail
    have hq := trimmedC w6.heap.size _ _ zs w7 hoz
    rw [HZL.out] at hq
    refine hq.mono ?_
    clear hq
    rintro e w8 ⟨rfl, a5, jr, rfl, hjr, ha5, hn5, hv5⟩
    have Q5 := hoz.cut (by rw [HZL.out]; exact hjr) ha5
    have l5 : (zs.take jr).length = jr := by rw [List.length_take, HZL.out]; omega
    generalize zs.take jr = rs5 at *
    subst l5
    have RV5 : Hid (val rs5 = val xs % val ys) := by show _ = _; rw [hv5, HZV.out]; exact RV.out
    have N5 : Hid (Nrm rs5) := hn5
    clear hn5 hv5 ha5
    go_wp2
    go_ret2
    refine ⟨a4, _, a5, _, qs4, rs5, rfl, (Q4.below hB7).base_le (Nat.le_of_eq hsz.out.symm), Q5.base_le (Nat.le_trans (Nat.le_of_eq hsz.out.symm) hB.size), N4.out, N5.out, QV4.out, RV5.out, ?_, ?_⟩
    ·intro bq oq e1 e2 e3
     exact row_ne_low Q5 (Q4.lt e1 e2) e3.symm
    ·exact hb1.trans ((hB.trans (hB7.mono hB.size)).mono (Nat.le_of_eq hsz.out.symm))
   ·obtain ⟨i, rfl⟩ : ∃ i, j = i + 1 := ⟨j - 1, by omega⟩
    have hrl := hD.rl
    have LW : val (rs.drop (i + (n + 2))) = 0 ∧ val ((rs.drop i).take (n + 2)) < 4294967296 * val vs := hat.out.window hD.r.lim VP.out.2 (by rw [hrl]; omega)
    have hwin : Own w1.heap.size wr (some ⟨w1.heap.size, i, none⟩) (xs.length + 1 - i) ((rs.drop i).take (n + 2)) := by
     have := hD.r.window (i := i) (m := n + 2) (by rw [hrl]; omega)
     rw [Nat.zero_add] at this
     exact this
    have hul : ((rs.drop i).take (n + 2)).length = n + 2 := by simp [hrl]; omega
    have hune : (rs.drop i).take (n + 2) ≠ [] := by intro e; rw [e] at hul; simp at hul
    have erow : rowOf (some (⟨w1.heap.size, i, none⟩ : Addr)) ((rs.drop i).take (n + 2)) = some w1.heap.size := by unfold rowOf; rw [if_neg hune]; rfl
    have hap : ∀ q off, a3 = some ⟨q, off, none⟩ → vs ≠ [] → rowOf (some (⟨w1.heap.size, i, none⟩ : Addr)) ((rs.drop i).take (n + 2)) ≠ some q := by
     intro q off e1 e2 e3
     rw [erow] at e3
     exact (AP.out q off e1 e2).1 (Option.some.inj e3).symm
    have hq := takeMostC w1.heap.size (some ⟨w1.heap.size, i, none⟩) a3 (xs.length + 1 - i) (n + 1) _ vs n wr hwin hS hul HJL.out TV.out hap LW.2
    have HST : Hid (∀ us : List Int, us.length = n + 2 → val us = val ((rs.drop i).take (n + 2)) % val vs → LongAt (val xs * 2 ^ s) (val vs) K i (qs.set i (val ((rs.drop i).take (n + 2)) / val vs)) (patch rs us i (n + 2))) :=
     fun us e1 e2 => hat.out.step hD.r.lim VP.out.1 (by rw [hrl]; omega) (by omega) e1 LW.1 e2
    have hQ0 : 0 ≤ val ((rs.drop i).take (n + 2)) / val vs := Int.ediv_nonneg (val_nonneg hwin.lim) (by have := VP.out; omega)
    have hQ1 : val ((rs.drop i).take (n + 2)) / val vs < 4294967296 := Int.ediv_lt_of_lt_mul VP.out.1 LW.2
    rw [hul] at hq
    have HQ : Hid _ := hq
    clear hq LW hat hwin hul hune
    go_wp2_with fail
    rw [show i + (n + 1) + 1 - i = n + 2 by omega]
    refine Calls.mono HQ.out ?_
    clear HQ
    rintro e w6 ⟨us, rfl, hou, hul, huv, hW⟩
    rw [erow] at hW
    have D2 : Divs w1.heap.size w6 qb w1.heap.size qs (patch rs us i (n + 2)) K (xs.length + 1) := hD.took (by omega) hou hul hW
    have S2 : Sees w6 a3 (n + 1) vs := hS.kept hW.1 (by rw [← erow]; exact hap)
    have LN : Hid (LongAt (val xs * 2 ^ s) (val vs) K i (qs.set i (val ((rs.drop i).take (n + 2)) / val vs)) (patch rs us i (n + 2))) := HST.out us hul huv
    obtain ⟨g1, g2⟩ := D2.cellQ (j := i) (by omega)
    have D3 := D2.setQ (j := i) (by omega) (v := val ((rs.drop i).take (n + 2)) / val vs) ⟨hQ0, hQ1⟩
    have S3 := S2.kept (grownBy_setCell (grownBy_refl w6 (some qb)) rfl (.int .u32 (val ((rs.drop i).take (n + 2)) / val vs)) (p := ⟨qb, i, none⟩)) (fun q off e1 e2 e3 => (AP.out q off e1 e2).2 (Option.some.inj e3).symm)
    have B6 : Below w1.heap.size w1 w6 := hB.trans (below_of_row hW.1 hB.size)
    have B7 := B6.setCell (p := ⟨qb, i, none⟩) (Nat.le_of_lt hqb) (.int .u32 (val ((rs.drop i).take (n + 2)) / val vs))
    clear D2 S2 hW hD hS hB huv hou hul hap erow HST B6
    generalize val ((rs.drop i).take (n + 2)) / val vs = Q at *
    generalize patch rs us i (n + 2) = rs' at *
    generalize qs[i]?.getD 0 = z0 at *
    go_wp2
    go_roundw
    case rel => exact ⟨i, _, _, by omega, by go_num, D3, S3, LN, B7⟩
    case measure => simp [intOf]
open Go.RowKit

theorem gcd_step {u v : Int} (hu : 0 ≤ u) : Int.gcd v (u % v) = Int.gcd u v := by
 show Nat.gcd v.natAbs (u % v).natAbs = Nat.gcd u.natAbs v.natAbs
 rw [Int.natAbs_emod_of_nonneg hu, Nat.gcd_comm u.natAbs, Nat.gcd_rec v.natAbs u.natAbs, Nat.gcd_comm]

theorem var3 (w : World) (o1 o2 : Obj) (T : TypeId) (n : Nat) :
  ((((w.alloc o1).alloc o2).alloc (.cells #[.bool false, .slice none 0 0] T)).drewN n).heap.size = w.heap.size + 3 ∧
  ((((w.alloc o1).alloc o2).alloc (.cells #[.bool false, .slice none 0 0] T)).drewN n).cell? ⟨w.heap.size + 2, 0, none⟩ = some (.bool false) ∧
  ((((w.alloc o1).alloc o2).alloc (.cells #[.bool false, .slice none 0 0] T)).drewN n).cell? ⟨w.heap.size + 2, 1, none⟩ = some (.slice none 0 0) ∧
  ((((w.alloc o1).alloc o2).alloc (.cells #[.bool false, .slice none 0 0] T)).drewN n).frozen? ⟨w.heap.size + 2, 0, none⟩ = false ∧
  ((((w.alloc o1).alloc o2).alloc (.cells #[.bool false, .slice none 0 0] T)).drewN n).frozen? ⟨w.heap.size + 2, 1, none⟩ = false := by
 refine ⟨by simp [go_sem], by simp [go_sem], by simp [go_sem], by simp [go_sem], by simp [go_sem]⟩

set_option maxHeartbeats 4000000 in
theorem commonDivisorC (g g' : Bool) (a b : Option Addr) (c d : Nat) (xs ys : List Int) (w : World) (h : Sees w a c xs) (k : Sees w b d ys) (nx : Nrm xs) (ny : Nrm ys) (hx : xs.length ≤ 1048576) (hy : ys.length ≤ 1048576) :
  Calls Tryz.prog 85 #[.agg #[.bool g, .slice a xs.length c], .agg #[.bool g', .slice b ys.length d]] w fun e w' => ∃ v, e = .returned v ∧ IsNum w.heap.size w' v (Int.gcd (val xs) (val ys)) ∧ Below w.heap.size w w' := by
 obtain ⟨G, hG⟩ : ∃ G, Hid (Int.gcd (val xs) (val ys) = G) := ⟨_, rfl⟩
 have H0 : Hid (Nrm xs ∧ Nrm ys ∧ xs.length ≤ 1048576 ∧ ys.length ≤ 1048576) := ⟨nx, ny, hx, hy⟩
 rw [hG.out]
 clear nx ny hx hy
 go_enter Tryz.func85, Tryz.ntmps85
 go_wp2
 go_quiet (fail)
 have B0 := below_drewN (below3 w (.cells #[.bool g, .slice a xs.length c] 30) (.cells #[.bool g', .slice b ys.length d] 30) (.cells #[.bool false, .slice none 0 0] 30)) nq
 have V := var3 w (.cells #[.bool g, .slice a xs.length c] 30) (.cells #[.bool g', .slice b ys.length d] 30) 30 nq
 have h1 := h.below B0
 have k1 := k.below B0
 clear h k
 generalize (((w.alloc (.cells #[.bool g, .slice a xs.length c] 30)).alloc (.cells #[.bool g', .slice b ys.length d] 30)).alloc (.cells #[.bool false, .slice none 0 0] 30)).drewN nq = W at *
 go_wp2
 go_loopg [5, 6] (val ys).toNat (fun kk s5 s6 wr => ∃ a5 c5 a6 c6 us vs, s5 = .slice a5 us.length c5 ∧ s6 = .slice a6 vs.length c6 ∧ Sees wr a5 c5 us ∧ Sees wr a6 c6 vs ∧ Hid (Nrm us ∧ Nrm vs ∧ us.length ≤ 1048576 ∧ vs.length ≤ 1048576 ∧ kk = (val vs).toNat ∧ Int.gcd (val us) (val vs) = G) ∧ Below W.heap.size W wr)
 case atStart => exact ⟨a, c, b, d, xs, ys, rfl, rfl, h1, k1, ⟨H0.out.1, H0.out.2.1, H0.out.2.2.1, H0.out.2.2.2, rfl, hG.out⟩, Below.refl _ _⟩
 case round =>
  obtain ⟨a5, c5, a6, c6, us, vs, rfl, rfl, su, sv, hI, hB⟩ := hrel
  clear h1 k1 H0 hG
  have mu : us.length ≤ 4611686018427387900 := by have := hI.out.2.2.1; omega
  have mv : vs.length ≤ 4611686018427387900 := by have := hI.out.2.2.2.1; omega
  by_cases h0 : vs = []
  ·subst h0
   have E : Hid (sg false (val us) = (G : Int)) := by
    have e := hI.out.2.2.2.2.2
    show val us = (G : Int)
    rw [← e]
    show _ = ((Int.gcd (val us) 0 : Nat) : Int)
    rw [Int.gcd_zero_right]
    exact (Int.natAbs_of_nonneg (val_nonneg su.lim)).symm
   have hz : (([] : List Int).length : Int) = 0 := rfl
   go_wp2_with fail
   refine (cloneC a5 c5 us _ su (by have := hI.out.2.2.1; omega)).mono ?_
   rintro e w2 ⟨a2, c2, rfl, ho2, hb2⟩
   have B2 := hB.trans (hb2.mono hB.size)
   clear hb2
   go_wp2_with fail
   refine (signedC (w.heap.size + 3) false a2 c2 us _ (ho2.base_le (by rw [← V.1]; exact hB.size))).mono ?_
   rintro e w3 ⟨v, rfl, hI3, hb3⟩
   have B3 := B2.trans (hb3.mono B2.size)
   have hJ := hI3.eq E.out
   obtain ⟨g5, a7, l7, c7, rfl⟩ := hI3.shape
   obtain ⟨q0, q1, q2, q3⟩ := V.2
   replace q0 := bat B3 q0
   replace q1 := bat B3 q1
   have q4 := (B3.frozen (p := ⟨w.heap.size + 2, 0, none⟩) (by dsimp only; rw [V.1]; omega)).trans q2
   have q5 := (B3.frozen (p := ⟨w.heap.size + 2, 1, none⟩) (by dsimp only; rw [V.1]; omega)).trans q3
   have BF := B0.trans (B3.mono B0.size)
   clear hb3 hI3 q2 q3 V B3 B2 hB B0 ho2 su sv hI
   go_wp2
   exact bodyPost_ret (v := .agg #[.bool g5, .slice a7 l7 c7]) (by simp [results, Tryz.results85, go_sem, q0, q1]) rfl ⟨_, rfl, hJ.put' (by omega) (by omega), below_put' BF (by omega) _ _⟩
  ·have hp : (0 : Int) < vs.length := by have := List.length_pos_iff.2 h0; omega
   go_wp2_with fail
   refine (divMagC a5 a6 c5 c6 us vs _ su sv hI.out.1 hI.out.2.1 h0 hI.out.2.2.1 hI.out.2.2.2.1).mono ?_
   rintro e w2 ⟨a1, c1, a2, c2, qs, rs, rfl, hq, hr, nq', nr, vq, vr, _, hb2⟩
   have vp := val_pos sv.lim hI.out.2.1 h0
   have hlt := Int.emod_lt_of_pos (val us) vp
   have hge := val_nonneg hr.lim
   have hl := len_le_of_val sv.lim hr.lim nr (by omega)
   have NI : Hid (Nrm vs ∧ Nrm rs ∧ vs.length ≤ 1048576 ∧ rs.length ≤ 1048576 ∧ Int.gcd (val vs) (val rs) = G) := ⟨hI.out.2.1, nr, hI.out.2.2.2.1, by have := hI.out.2.2.2.1; omega, by rw [vr, gcd_step (val_nonneg su.lim)]; exact hI.out.2.2.2.2.2⟩
   have hm : (val rs).toNat < gk := by rw [hI.out.2.2.2.2.1]; omega
   have B2 := hB.trans (hb2.mono hB.size)
   have sv2 := sv.below hb2
   have sr2 := hr.toSees
   clear hb2 hB su sv hr hI vr vq nr nq' hl hge hlt vp hq
   go_wp2
   go_roundg (val rs).toNat
   case measure => exact hm
   case rel => exact ⟨a6, c6, a2, c2, vs, rs, rfl, rfl, sv2, sr2, ⟨NI.out.1, NI.out.2.1, NI.out.2.2.1, NI.out.2.2.2.1, rfl, NI.out.2.2.2.2⟩, B2⟩

open Go.RowKit

def IsTwo (base : Nat) (w : World) (v u : Value) (z y : Int) : Prop :=
 ∃ a1 c1 qs a2 c2 rs, v = .agg #[.bool (decide (z < 0)), .slice a1 qs.length c1] ∧ u = .agg #[.bool (decide (y < 0)), .slice a2 rs.length c2] ∧
  Own base w a1 c1 qs ∧ Own base w a2 c2 rs ∧ Nrm qs ∧ Nrm rs ∧ val qs = mg z ∧ val rs = mg y ∧ Apart a1 qs a2 rs

theorem IsTwo.base_le {base base' : Nat} {w : World} {v u : Value} {z y : Int} (h : IsTwo base w v u z y) (hb : base' ≤ base) : IsTwo base' w v u z y := by
 obtain ⟨a1, c1, qs, a2, c2, rs, e1, e2, o1, o2, r⟩ := h
 exact ⟨a1, c1, qs, a2, c2, rs, e1, e2, o1.base_le hb, o2.base_le hb, r⟩
theorem IsTwo.setCell {base : Nat} {w : World} {v u : Value} {z y : Int} (h : IsTwo base w v u z y) {p : Addr} (hp : p.block < base) (x : Value) : IsTwo base (w.setCell p x) v u z y := by
 obtain ⟨a1, c1, qs, a2, c2, rs, e1, e2, o1, o2, r⟩ := h
 exact ⟨a1, c1, qs, a2, c2, rs, e1, e2, o1.setCell hp x, o2.setCell hp x, r⟩
theorem IsTwo.eq {base : Nat} {w : World} {v u : Value} {z y z' y' : Int} (h : IsTwo base w v u z y) (e1 : z = z') (e2 : y = y') : IsTwo base w v u z' y' := e1 ▸ e2 ▸ h

def Kept (a : Option Addr) (xs : List Int) (a' : Option Addr) (zs : List Int) : Prop := zs ≠ [] → a' = a ∧ xs ≠ []
theorem Apart.kept {a1 a2 b1 b2 : Option Addr} {qs rs qs' rs' : List Int} (h : Apart a1 qs a2 rs) (k1 : Kept a1 qs b1 qs') (k2 : Kept a2 rs b2 rs') : Apart b1 qs' b2 rs' := by
 intro b off e hne e2
 obtain ⟨f1, f2⟩ := k1 hne
 unfold rowOf at e2
 split at e2
 ·cases e2
 ·next hr =>
  obtain ⟨f3, f4⟩ := k2 hr
  refine h b off (by rw [← f1]; exact e) f2 ?_
  unfold rowOf
  rw [if_neg f4, ← f3]
  exact e2

set_option maxHeartbeats 400000 in
theorem signedA (base : Nat) (neg : Bool) (a : Option Addr) (c : Nat) (xs : List Int) (w : World) (h : Own base w a c xs) :
  Calls Tryz.prog 78 #[.bool neg, .slice a xs.length c] w fun e w' => ∃ a' c' zs, e = .returned (.agg #[.bool (decide (sg neg (val xs) < 0)), .slice a' zs.length c']) ∧ Own base w' a' c' zs ∧ Nrm zs ∧ val zs = val xs ∧ Kept a xs a' zs ∧ Below w.heap.size w w' := by
 go_enter Tryz.func78, Tryz.ntmps78
 go_wp2_with fail
 refine (trimmedC base a c xs _ (h.below (below1 _ _))).mono ?_
 rintro e w' ⟨rfl, a', j, rfl, hj, ha, hn, hv⟩
 have hl : (xs.take j).length = j := by simp; omega
 have hm := h.max
 have hf := h.fits
 unfold maxLen at hm
 have key : ∀ o, ∃ a2 c2 zs, (Value.agg #[.bool (neg && decide (0 < j)), .slice a' j j] = .agg #[.bool (decide (sg neg (val xs) < 0)), .slice a2 zs.length c2]) ∧ Own base (w.alloc o) a2 c2 zs ∧ Nrm zs ∧ val zs = val xs ∧ Kept a xs a2 zs := fun o => by
  refine ⟨a', j, xs.take j, ?_, h.below (below1 w o) |>.cut hj ha, hn, hv, ?_⟩
  ·have := sg_flag (neg := neg) (h.lim.take j) hn
   rw [hv, hl] at this
   rw [this, hl]
  ·intro hne
   have h0 : j ≠ 0 := by intro e; rw [e] at hne; simp at hne
   refine ⟨ha.resolve_left (fun x => h0 x.1), ?_⟩
   rintro rfl
   simp at hj
   exact h0 hj
 clear h hn hv hl ha
 have K : Hid (∀ o, ∃ a2 c2 zs, (Value.agg #[.bool (neg && decide (0 < j)), .slice a' j j] = .agg #[.bool (decide (sg neg (val xs) < 0)), .slice a2 zs.length c2]) ∧ Own base (w.alloc o) a2 c2 zs ∧ Nrm zs ∧ val zs = val xs ∧ Kept a xs a2 zs) := key
 clear key
 cases neg
 ·go_wp2
  refine bodyPost_ret (v := .agg #[.bool (false && decide (0 < j)), .slice a' j j]) (by simp [results, Tryz.results78, go_sem]) rfl ?_
  obtain ⟨a2, c2, zs, e, r1, r2, r3, r4⟩ := K.out (.cells #[.bool (false && decide (0 < j)), .slice a' j j] 30)
  exact ⟨a2, c2, zs, by rw [e], r1, r2, r3, r4, below1 _ _⟩
 ·by_cases h0 : 0 < j
  ·have hp : (0 : Int) < j := by omega
   go_wp2
   refine bodyPost_ret (v := .agg #[.bool (true && decide (0 < j)), .slice a' j j]) (by simp [results, Tryz.results78, go_sem, h0]) rfl ?_
   obtain ⟨a2, c2, zs, e, r1, r2, r3, r4⟩ := K.out (.cells #[.bool true, .slice a' j j] 30)
   exact ⟨a2, c2, zs, by rw [e], r1, r2, r3, r4, below1 _ _⟩
  ·obtain rfl : j = 0 := by omega
   go_wp2
   refine bodyPost_ret (v := .agg #[.bool (true && decide (0 < 0)), .slice a' 0 0]) (by simp [results, Tryz.results78, go_sem]) rfl ?_
   obtain ⟨a2, c2, zs, e, r1, r2, r3, r4⟩ := K.out (.cells #[.bool false, .slice a' 0 0] 30)
   exact ⟨a2, c2, zs, by rw [e], r1, r2, r3, r4, below1 _ _⟩

/-! ### What is asked of a quotient and a rest -/
theorem div_pos_case {x y : Int} (g' : Bool) (_hy : 0 < y) : sg g' (x / y) = sg false x / sg g' y ∧ x % y = sg false x % sg g' y := by
 cases g'
 ·simp [sg]
 ·simp [sg, Int.ediv_neg, Int.emod_neg]
theorem div_neg_zero {x y : Int} (g' : Bool) (_hy : 0 < y) (h : x % y = 0) : sg (!g') (x / y) = sg true x / sg g' y ∧ 0 = sg true x % sg g' y := by
 have hd : y ∣ x := Int.dvd_of_emod_eq_zero h
 have e1 : -x / y = -(x / y) := Int.neg_ediv_of_dvd hd
 have e2 : -x % y = 0 := Int.emod_eq_zero_of_dvd (Int.dvd_neg.2 hd)
 cases g'
 ·simp [sg, e1, e2]
 ·simp [sg, Int.ediv_neg, Int.emod_neg, e1, e2]
theorem div_neg_up {x y : Int} (g' : Bool) (hy : 0 < y) (h : x % y ≠ 0) : sg (!g') (x / y + 1) = sg true x / sg g' y ∧ y - x % y = sg true x % sg g' y := by
 have r0 := Int.emod_nonneg x (show y ≠ 0 by omega)
 have r1 := Int.emod_lt_of_pos x hy
 have e := Int.mul_ediv_add_emod x y
 have key := (Int.ediv_emod_unique (a := -x) (b := y) (r := y - x % y) (q := -(x / y + 1)) hy).2 ⟨by rw [Int.mul_neg, Int.mul_add, Int.mul_one]; omega, by omega, by omega⟩
 cases g'
 ·simp only [sg, Bool.not_false, if_true, Bool.false_eq_true, if_false]
  exact ⟨key.1.symm, key.2.symm⟩
 ·simp only [sg, Bool.not_true, if_true, Bool.false_eq_true, if_false, Int.ediv_neg, Int.emod_neg, key.1, key.2]
  exact ⟨by omega, trivial⟩

theorem Own.lit1 (w : World) (e : TypeId) (x : Int) (hx : 0 ≤ x ∧ x < 4294967296) :
  Own w.heap.size (w.alloc (.cells #[.int .u32 x] e)) (some ⟨w.heap.size, 0, none⟩) 1 [x] := by
 have hh := heap_alloc_new w (.cells #[.int .u32 x] e)
 refine (Own.of_row (n := 1) ⟨rfl, .inr ⟨w.heap.size, 1, #[.int .u32 x], rfl, Nat.le_refl _, hh, Nat.le_refl _, by simp [maxLen], rfl, rfl⟩⟩ (Lim.mk hx Lim.nil)).1

structure Var4 (w W : World) (g g' : Bool) (a b : Option Addr) (n m c d : Nat) : Prop where
 size : W.heap.size = w.heap.size + 4
 x0 : W.cell? ⟨w.heap.size, 0, none⟩ = some (.bool g)
 x1 : W.cell? ⟨w.heap.size, 1, none⟩ = some (.slice a n c)
 y0 : W.cell? ⟨w.heap.size + 1, 0, none⟩ = some (.bool g')
 y1 : W.cell? ⟨w.heap.size + 1, 1, none⟩ = some (.slice b m d)
 p0 : W.cell? ⟨w.heap.size + 2, 0, none⟩ = some (.bool false)
 p1 : W.cell? ⟨w.heap.size + 2, 1, none⟩ = some (.slice none 0 0)
 r0 : W.cell? ⟨w.heap.size + 3, 0, none⟩ = some (.bool false)
 r1 : W.cell? ⟨w.heap.size + 3, 1, none⟩ = some (.slice none 0 0)
 f0 : W.frozen? ⟨w.heap.size + 2, 0, none⟩ = false
 f1 : W.frozen? ⟨w.heap.size + 2, 1, none⟩ = false
 e0 : W.frozen? ⟨w.heap.size + 3, 0, none⟩ = false
 e1 : W.frozen? ⟨w.heap.size + 3, 1, none⟩ = false
 s0 : W.frozen? ⟨w.heap.size, 0, none⟩ = false
 s1 : W.frozen? ⟨w.heap.size, 1, none⟩ = false
 t0 : W.frozen? ⟨w.heap.size + 1, 0, none⟩ = false
 t1 : W.frozen? ⟨w.heap.size + 1, 1, none⟩ = false
theorem var4 (w : World) (g g' : Bool) (a b : Option Addr) (n m c d : Nat) (T : TypeId) :
  Var4 w ((((w.alloc (.cells #[.bool g, .slice a n c] T)).alloc (.cells #[.bool g', .slice b m d] T)).alloc (.cells #[.bool false, .slice none 0 0] T)).alloc (.cells #[.bool false, .slice none 0 0] T)) g g' a b n m c d := by
 constructor <;> simp [go_sem]
theorem Var4.below {w W W' : World} {g g' : Bool} {a b : Option Addr} {n m c d : Nat} (V : Var4 w W g g' a b n m c d) (hb : Below W.heap.size W W') :
  W'.cell? ⟨w.heap.size, 0, none⟩ = some (.bool g) ∧ W'.cell? ⟨w.heap.size, 1, none⟩ = some (.slice a n c) ∧ W'.cell? ⟨w.heap.size + 1, 0, none⟩ = some (.bool g') ∧ W'.cell? ⟨w.heap.size + 1, 1, none⟩ = some (.slice b m d) :=
 ⟨bat hb V.x0, bat hb V.x1, bat hb V.y0, bat hb V.y1⟩

set_option maxHeartbeats 4000000 in
theorem dividedC (g g' : Bool) (a b : Option Addr) (c d : Nat) (xs ys : List Int) (w : World) (h : Sees w a c xs) (k : Sees w b d ys) (nx : Nrm xs) (ny : Nrm ys) (hy0 : ys ≠ []) (hx : xs.length ≤ 1048575) (hy : ys.length ≤ 1048575) :
  Calls Tryz.prog 87 #[.agg #[.bool g, .slice a xs.length c], .agg #[.bool g', .slice b ys.length d]] w fun e w' => ∃ vq vr, e = .returned (.tuple #[vq, vr]) ∧ IsTwo w.heap.size w' vq vr (sg g (val xs) / sg g' (val ys)) (sg g (val xs) % sg g' (val ys)) ∧ Below w.heap.size w w' := by
 have HX : Hid (xs.length ≤ 1048575) := hx
 have HY : Hid (ys.length ≤ 1048575) := hy
 have V0 : Hid (0 < val ys) := val_pos k.lim ny hy0
 have NX : Hid (Nrm xs) := nx
 have NY : Hid (Nrm ys) := ny
 clear hx hy nx ny
 go_enter Tryz.func87, Tryz.ntmps87
 go_wp2_with fail
 have B0 := below4 w (.cells #[.bool g, .slice a xs.length c] 30) (.cells #[.bool g', .slice b ys.length d] 30) (.cells #[.bool false, .slice none 0 0] 30) (.cells #[.bool false, .slice none 0 0] 30)
 have V := var4 w g g' a b xs.length ys.length c d 30
 have h1 := h.below B0
 have k1 := k.below B0
 clear h k
 generalize ((((w.alloc (.cells #[.bool g, .slice a xs.length c] 30)).alloc (.cells #[.bool g', .slice b ys.length d] 30)).alloc (.cells #[.bool false, .slice none 0 0] 30)).alloc (.cells #[.bool false, .slice none 0 0] 30)) = W at *
 refine (divMagC a b c d xs ys _ h1 k1 NX.out NY.out hy0 (by have := HX.out; omega) (by have := HY.out; omega)).mono ?_
 rintro e w1 ⟨a1, c1, a2, c2, qs, rs, rfl, oq, orr, nq, nr, vq, vr, ap, hb1⟩
 have hlt := Int.emod_lt_of_pos (val xs) V0.out
 have r0 := val_nonneg orr.lim
 have q1 : val xs / val ys ≤ val xs := Int.ediv_le_self _ (val_nonneg h1.lim)
 have HLQ : Hid (qs.length ≤ xs.length) := len_le_of_val h1.lim oq.lim nq (by omega)
 have HLR : Hid (rs.length ≤ ys.length) := len_le_of_val k1.lim orr.lim nr (by omega)
 have HRV : Hid (val rs < val ys) := by show _ < _; omega
 have HVQ : Hid (val qs = val xs / val ys) := vq
 have HVR : Hid (val rs = val xs % val ys) := vr
 have HNR : Hid (Nrm rs) := nr
 have mr : rs.length ≤ 4611686018427387900 := by have := HLR.out; have := HY.out; omega
 obtain ⟨v0, v1, v2, v3⟩ := V.below hb1
 have B1 := B0.trans (hb1.mono B0.size)
 have k2 := k1.below hb1
 clear hlt r0 q1 vq vr nr nq h1 k1
 by_cases hadj : g = true ∧ rs ≠ []
 ·obtain ⟨rfl, hrne⟩ := hadj
  have hp : (0 : Int) < rs.length := by have := List.length_pos_iff.2 hrne; omega
  have szw : w.heap.size + 4 ≤ (w1.alloc (.cells #[.int .u32 1] 100)).heap.size := by rw [← V.size]; exact Nat.le_trans hb1.size (below1 w1 _).size
  have L1 := Own.lit1 w1 100 1 (by decide)
  have hbl := below1 w1 (.cells #[.int .u32 1] 100)
  have HLM : Hid (Lim rs) := orr.lim
  go_wp2_with fail
  refine (addMagC a1 (some ⟨w1.heap.size, 0, none⟩) c1 1 qs [1] _ (oq.below hbl).toSees L1.toSees (by have := HLQ.out; have := HX.out; omega) (by decide)).mono ?_
  rintro e w2 ⟨a4, c4, qs4, rfl, o4, n4, e4, _, hb4⟩
  have B4 : Below W.heap.size W w2 := (hb1.trans (hbl.mono hb1.size)).trans (hb4.mono (Nat.le_trans hb1.size hbl.size))
  have k4 := (k2.below hbl).below hb4
  have r4 := (orr.below hbl).below hb4
  have E4 : Hid (val qs4 = val xs / val ys + 1) := by
   show _ = _
   rw [e4, HVQ.out]
   simp [val]
  obtain ⟨v0, v1, v2, v3⟩ := V.below B4
  clear n4 e4 L1 oq hb1 k2
  go_wp2_with fail
  refine (subMagC b a2 d c2 ys rs _ k4 r4.toSees (by have := HY.out; omega) HLR.out (Int.le_of_lt HRV.out)).mono ?_
  rintro e w3 ⟨a5, c5, rs5, rfl, o5, n5, e5, _, hb5⟩
  have B5 := B4.trans (hb5.mono B4.size)
  have E5 : Hid (val rs5 = val ys - val xs % val ys) := by show _ = _; rw [e5, HVR.out]
  have o4' : Own (w.heap.size + 4) w3 a4 c4 qs4 := (o4.below hb5).base_le szw
  have o5' : Own (w.heap.size + 4) w3 a5 c5 rs5 := o5.base_le (by rw [← V.size]; exact B4.size)
  have AP5 : Hid (Apart a4 qs4 a5 rs5) := fun b off e1 e2 e3 => row_ne_low o5 (o4.lt e1 e2) e3.symm
  obtain ⟨v0, v1, v2, v3⟩ := V.below B5
  clear n5 e5 r4 k4 orr o4 o5 hb4 hb5 hbl ap
  go_wp2_with fail
  refine (signedA (w.heap.size + 4) (!g') a4 c4 qs4 _ o4').mono ?_
  rintro e w8 ⟨a8, c8, z8, rfl, o8, n8, e8, kp8, hb8⟩
  have r8 := o5'.below hb8
  have B8 := B5.trans (hb8.mono B5.size)
  have H8 : Hid (Nrm z8 ∧ val z8 = val qs4) := ⟨n8, e8⟩
  clear n8 e8 hb8
  go_wp2_with fail
  refine (signedA (w.heap.size + 4) false a5 c5 rs5 _ r8).mono ?_
  rintro e w9 ⟨a9, c9, z9, rfl, o9, n9, e9, kp9, hb9⟩
  have o8' := o8.below hb9
  have B9 := B8.trans (hb9.mono B8.size)
  have H9 : Hid (Nrm z9 ∧ val z9 = val rs5) := ⟨n9, e9⟩
  have AP : Hid (Apart a8 z8 a9 z9) := (AP5.out).kept kp8 kp9
  have BF := B0.trans (B9.mono B0.size)
  have c0 := bat B9 V.p0
  have c1' := bat B9 V.p1
  have c2' := bat B9 V.r0
  have c3' := bat B9 V.r1
  have f0 := (B9.frozen (p := ⟨w.heap.size + 2, 0, none⟩) (by dsimp only; rw [V.size]; omega)).trans V.f0
  have f1 := (B9.frozen (p := ⟨w.heap.size + 2, 1, none⟩) (by dsimp only; rw [V.size]; omega)).trans V.f1
  have f2 := (B9.frozen (p := ⟨w.heap.size + 3, 0, none⟩) (by dsimp only; rw [V.size]; omega)).trans V.e0
  have f3 := (B9.frozen (p := ⟨w.heap.size + 3, 1, none⟩) (by dsimp only; rw [V.size]; omega)).trans V.e1
  have T9 : IsTwo (w.heap.size + 4) w9 (.agg #[.bool (decide (sg (!g') (val qs4) < 0)), .slice a8 z8.length c8]) (.agg #[.bool (decide (sg false (val rs5) < 0)), .slice a9 z9.length c9]) (sg (!g') (val qs4)) (sg false (val rs5)) :=
   ⟨a8, c8, z8, a9, c9, z9, rfl, rfl, o8', o9, H8.out.1, H9.out.1, by rw [H8.out.2, mg_sg (val_nonneg o4'.lim)], by rw [H9.out.2, mg_sg (val_nonneg o5'.lim)], AP.out⟩
  have EQ : Hid (sg (!g') (val qs4) = sg true (val xs) / sg g' (val ys) ∧ sg false (val rs5) = sg true (val xs) % sg g' (val ys)) := by
   rw [E4.out, E5.out]
   exact div_neg_up g' V0.out (by have := val_pos HLM.out HNR.out hrne; rw [HVR.out] at this; omega)
  have TF := ((((T9.eq EQ.out.1 EQ.out.2).setCell (p := ⟨w.heap.size + 2, 0, none⟩) (by dsimp only; omega) (.bool (decide (sg (!g') (val qs4) < 0)))).setCell (p := ⟨w.heap.size + 2, 1, none⟩) (by dsimp only; omega) (.slice a8 z8.length c8)).setCell (p := ⟨w.heap.size + 3, 0, none⟩) (by dsimp only; omega) (.bool (decide (sg false (val rs5) < 0)))).setCell (p := ⟨w.heap.size + 3, 1, none⟩) (by dsimp only; omega) (.slice a9 z9.length c9)
  have BZ := below_put' (below_put' BF (show w.heap.size ≤ w.heap.size + 2 by omega) (.bool (decide (sg (!g') (val qs4) < 0))) (.slice a8 z8.length c8)) (show w.heap.size ≤ w.heap.size + 3 by omega) (.bool (decide (sg false (val rs5) < 0))) (.slice a9 z9.length c9)
  clear T9 o8 o8' o9 r8 H8 H9 AP kp8 kp9 n9 e9 hb9 B9 B8 BF
  generalize decide (sg (!g') (val qs4) < 0) = d1 at *
  generalize decide (sg false (val rs5) < 0) = d2 at *
  go_wp2
  exact bodyPost_ret (v := .tuple #[.agg #[.bool d1, .slice a8 z8.length c8], .agg #[.bool d2, .slice a9 z9.length c9]]) (by simp [results, Tryz.results87, go_sem, c0, c1', c2', c3']) rfl ⟨_, _, rfl, TF.base_le (by omega), BZ⟩
 ·have hcond : g = false ∨ rs = [] := by
   by_cases e : g = true
   ·right
    by_cases e2 : rs = []
    ·exact e2
    ·exact absurd ⟨e, e2⟩ hadj
   ·left; simpa using e
  have oq' : Own (w.heap.size + 4) w1 a1 c1 qs := oq.base_le (Nat.le_of_eq V.size.symm)
  have or' : Own (w.heap.size + 4) w1 a2 c2 rs := orr.base_le (Nat.le_of_eq V.size.symm)
  have HCC : Hid (g = false ∨ rs = []) := hcond
  clear oq orr hadj k2
  rcases hcond with rfl | rfl
  ·go_wp2_with fail
   refine (signedA (w.heap.size + 4) g' a1 c1 qs _ oq').mono ?_
   rintro e w8 ⟨a8, c8, z8, rfl, o8, n8, e8, kp8, hb8⟩
   have r8 := or'.below hb8
   have B8 := hb1.trans (hb8.mono hb1.size)
   have H8 : Hid (Nrm z8 ∧ val z8 = val qs) := ⟨n8, e8⟩
   clear n8 e8 hb8
   go_wp2_with fail
   refine (signedA (w.heap.size + 4) false a2 c2 rs _ r8).mono ?_
   rintro e w9 ⟨a9, c9, z9, rfl, o9, n9, e9, kp9, hb9⟩
   have o8' := o8.below hb9
   have B9 := B8.trans (hb9.mono B8.size)
   have H9 : Hid (Nrm z9 ∧ val z9 = val rs) := ⟨n9, e9⟩
   have AP : Hid (Apart a8 z8 a9 z9) := (ap).kept kp8 kp9
   have BF := B0.trans (B9.mono B0.size)
   have c0 := bat B9 V.p0
   have c1' := bat B9 V.p1
   have c2' := bat B9 V.r0
   have c3' := bat B9 V.r1
   have f0 := (B9.frozen (p := ⟨w.heap.size + 2, 0, none⟩) (by dsimp only; rw [V.size]; omega)).trans V.f0
   have f1 := (B9.frozen (p := ⟨w.heap.size + 2, 1, none⟩) (by dsimp only; rw [V.size]; omega)).trans V.f1
   have f2 := (B9.frozen (p := ⟨w.heap.size + 3, 0, none⟩) (by dsimp only; rw [V.size]; omega)).trans V.e0
   have f3 := (B9.frozen (p := ⟨w.heap.size + 3, 1, none⟩) (by dsimp only; rw [V.size]; omega)).trans V.e1
   have T9 : IsTwo (w.heap.size + 4) w9 (.agg #[.bool (decide (sg g' (val qs) < 0)), .slice a8 z8.length c8]) (.agg #[.bool (decide (sg false (val rs) < 0)), .slice a9 z9.length c9]) (sg g' (val qs)) (sg false (val rs)) :=
    ⟨a8, c8, z8, a9, c9, z9, rfl, rfl, o8', o9, H8.out.1, H9.out.1, by rw [H8.out.2, mg_sg (val_nonneg oq'.lim)], by rw [H9.out.2, mg_sg (val_nonneg or'.lim)], AP.out⟩
   have EQ : Hid (sg g' (val qs) = sg false (val xs) / sg g' (val ys) ∧ sg false (val rs) = sg false (val xs) % sg g' (val ys)) := by
    rw [HVQ.out, HVR.out]
    exact div_pos_case g' V0.out
   have TF := ((((T9.eq EQ.out.1 EQ.out.2).setCell (p := ⟨w.heap.size + 2, 0, none⟩) (by dsimp only; omega) (.bool (decide (sg g' (val qs) < 0)))).setCell (p := ⟨w.heap.size + 2, 1, none⟩) (by dsimp only; omega) (.slice a8 z8.length c8)).setCell (p := ⟨w.heap.size + 3, 0, none⟩) (by dsimp only; omega) (.bool (decide (sg false (val rs) < 0)))).setCell (p := ⟨w.heap.size + 3, 1, none⟩) (by dsimp only; omega) (.slice a9 z9.length c9)
   have BZ := below_put' (below_put' BF (show w.heap.size ≤ w.heap.size + 2 by omega) (.bool (decide (sg g' (val qs) < 0))) (.slice a8 z8.length c8)) (show w.heap.size ≤ w.heap.size + 3 by omega) (.bool (decide (sg false (val rs) < 0))) (.slice a9 z9.length c9)
   clear T9 o8 o8' o9 r8 H8 H9 AP kp8 kp9 n9 e9 hb9 B9 B8 BF
   generalize decide (sg g' (val qs) < 0) = d1 at *
   generalize decide (sg false (val rs) < 0) = d2 at *
   go_wp2
   exact bodyPost_ret (v := .tuple #[.agg #[.bool d1, .slice a8 z8.length c8], .agg #[.bool d2, .slice a9 z9.length c9]]) (by simp [results, Tryz.results87, go_sem, c0, c1', c2', c3']) rfl ⟨_, _, rfl, TF.base_le (by omega), BZ⟩
  ·cases g
   ·go_wp2_with fail
    refine (signedA (w.heap.size + 4) g' a1 c1 qs _ oq').mono ?_
    rintro e w8 ⟨a8, c8, z8, rfl, o8, n8, e8, kp8, hb8⟩
    have r8 := or'.below hb8
    have B8 := hb1.trans (hb8.mono hb1.size)
    have H8 : Hid (Nrm z8 ∧ val z8 = val qs) := ⟨n8, e8⟩
    clear n8 e8 hb8
    go_wp2_with fail
    refine (signedA (w.heap.size + 4) false a2 c2 ([] : List Int) _ r8).mono ?_
    rintro e w9 ⟨a9, c9, z9, rfl, o9, n9, e9, kp9, hb9⟩
    have o8' := o8.below hb9
    have B9 := B8.trans (hb9.mono B8.size)
    have H9 : Hid (Nrm z9 ∧ val z9 = val ([] : List Int)) := ⟨n9, e9⟩
    have AP : Hid (Apart a8 z8 a9 z9) := (ap).kept kp8 kp9
    have BF := B0.trans (B9.mono B0.size)
    have c0 := bat B9 V.p0
    have c1' := bat B9 V.p1
    have c2' := bat B9 V.r0
    have c3' := bat B9 V.r1
    have f0 := (B9.frozen (p := ⟨w.heap.size + 2, 0, none⟩) (by dsimp only; rw [V.size]; omega)).trans V.f0
    have f1 := (B9.frozen (p := ⟨w.heap.size + 2, 1, none⟩) (by dsimp only; rw [V.size]; omega)).trans V.f1
    have f2 := (B9.frozen (p := ⟨w.heap.size + 3, 0, none⟩) (by dsimp only; rw [V.size]; omega)).trans V.e0
    have f3 := (B9.frozen (p := ⟨w.heap.size + 3, 1, none⟩) (by dsimp only; rw [V.size]; omega)).trans V.e1
    have T9 : IsTwo (w.heap.size + 4) w9 (.agg #[.bool (decide (sg g' (val qs) < 0)), .slice a8 z8.length c8]) (.agg #[.bool (decide (sg false (val ([] : List Int)) < 0)), .slice a9 z9.length c9]) (sg g' (val qs)) (sg false (val ([] : List Int))) :=
     ⟨a8, c8, z8, a9, c9, z9, rfl, rfl, o8', o9, H8.out.1, H9.out.1, by rw [H8.out.2, mg_sg (val_nonneg oq'.lim)], by rw [H9.out.2, mg_sg (val_nonneg or'.lim)], AP.out⟩
    have EQ : Hid (sg g' (val qs) = sg false (val xs) / sg g' (val ys) ∧ sg false (val ([] : List Int)) = sg false (val xs) % sg g' (val ys)) := by
     rw [HVQ.out, HVR.out]
     exact div_pos_case g' V0.out
    have TF := ((((T9.eq EQ.out.1 EQ.out.2).setCell (p := ⟨w.heap.size + 2, 0, none⟩) (by dsimp only; omega) (.bool (decide (sg g' (val qs) < 0)))).setCell (p := ⟨w.heap.size + 2, 1, none⟩) (by dsimp only; omega) (.slice a8 z8.length c8)).setCell (p := ⟨w.heap.size + 3, 0, none⟩) (by dsimp only; omega) (.bool (decide (sg false (val ([] : List Int)) < 0)))).setCell (p := ⟨w.heap.size + 3, 1, none⟩) (by dsimp only; omega) (.slice a9 z9.length c9)
    have BZ := below_put' (below_put' BF (show w.heap.size ≤ w.heap.size + 2 by omega) (.bool (decide (sg g' (val qs) < 0))) (.slice a8 z8.length c8)) (show w.heap.size ≤ w.heap.size + 3 by omega) (.bool (decide (sg false (val ([] : List Int)) < 0))) (.slice a9 z9.length c9)
    clear T9 o8 o8' o9 r8 H8 H9 AP kp8 kp9 n9 e9 hb9 B9 B8 BF
    generalize decide (sg g' (val qs) < 0) = d1 at *
    generalize decide (sg false (val ([] : List Int)) < 0) = d2 at *
    go_wp2
    exact bodyPost_ret (v := .tuple #[.agg #[.bool d1, .slice a8 z8.length c8], .agg #[.bool d2, .slice a9 z9.length c9]]) (by simp [results, Tryz.results87, go_sem, c0, c1', c2', c3']) rfl ⟨_, _, rfl, TF.base_le (by omega), BZ⟩
   ·go_wp2_with fail
    refine (signedA (w.heap.size + 4) (!g') a1 c1 qs _ oq').mono ?_
    rintro e w8 ⟨a8, c8, z8, rfl, o8, n8, e8, kp8, hb8⟩
    have r8 := or'.below hb8
    have B8 := hb1.trans (hb8.mono hb1.size)
    have H8 : Hid (Nrm z8 ∧ val z8 = val qs) := ⟨n8, e8⟩
    clear n8 e8 hb8
    go_wp2_with fail
    refine (signedA (w.heap.size + 4) false a2 c2 ([] : List Int) _ r8).mono ?_
    rintro e w9 ⟨a9, c9, z9, rfl, o9, n9, e9, kp9, hb9⟩
    have o8' := o8.below hb9
    have B9 := B8.trans (hb9.mono B8.size)
    have H9 : Hid (Nrm z9 ∧ val z9 = val ([] : List Int)) := ⟨n9, e9⟩
    have AP : Hid (Apart a8 z8 a9 z9) := (ap).kept kp8 kp9
    have BF := B0.trans (B9.mono B0.size)
    have c0 := bat B9 V.p0
    have c1' := bat B9 V.p1
    have c2' := bat B9 V.r0
    have c3' := bat B9 V.r1
    have f0 := (B9.frozen (p := ⟨w.heap.size + 2, 0, none⟩) (by dsimp only; rw [V.size]; omega)).trans V.f0
    have f1 := (B9.frozen (p := ⟨w.heap.size + 2, 1, none⟩) (by dsimp only; rw [V.size]; omega)).trans V.f1
    have f2 := (B9.frozen (p := ⟨w.heap.size + 3, 0, none⟩) (by dsimp only; rw [V.size]; omega)).trans V.e0
    have f3 := (B9.frozen (p := ⟨w.heap.size + 3, 1, none⟩) (by dsimp only; rw [V.size]; omega)).trans V.e1
    have T9 : IsTwo (w.heap.size + 4) w9 (.agg #[.bool (decide (sg (!g') (val qs) < 0)), .slice a8 z8.length c8]) (.agg #[.bool (decide (sg false (val ([] : List Int)) < 0)), .slice a9 z9.length c9]) (sg (!g') (val qs)) (sg false (val ([] : List Int))) :=
     ⟨a8, c8, z8, a9, c9, z9, rfl, rfl, o8', o9, H8.out.1, H9.out.1, by rw [H8.out.2, mg_sg (val_nonneg oq'.lim)], by rw [H9.out.2, mg_sg (val_nonneg or'.lim)], AP.out⟩
    have EQ : Hid (sg (!g') (val qs) = sg true (val xs) / sg g' (val ys) ∧ sg false (val ([] : List Int)) = sg true (val xs) % sg g' (val ys)) := by
     rw [HVQ.out]
     exact div_neg_zero g' V0.out HVR.out.symm
    have TF := ((((T9.eq EQ.out.1 EQ.out.2).setCell (p := ⟨w.heap.size + 2, 0, none⟩) (by dsimp only; omega) (.bool (decide (sg (!g') (val qs) < 0)))).setCell (p := ⟨w.heap.size + 2, 1, none⟩) (by dsimp only; omega) (.slice a8 z8.length c8)).setCell (p := ⟨w.heap.size + 3, 0, none⟩) (by dsimp only; omega) (.bool (decide (sg false (val ([] : List Int)) < 0)))).setCell (p := ⟨w.heap.size + 3, 1, none⟩) (by dsimp only; omega) (.slice a9 z9.length c9)
    have BZ := below_put' (below_put' BF (show w.heap.size ≤ w.heap.size + 2 by omega) (.bool (decide (sg (!g') (val qs) < 0))) (.slice a8 z8.length c8)) (show w.heap.size ≤ w.heap.size + 3 by omega) (.bool (decide (sg false (val ([] : List Int)) < 0))) (.slice a9 z9.length c9)
    clear T9 o8 o8' o9 r8 H8 H9 AP kp8 kp9 n9 e9 hb9 B9 B8 BF
    generalize decide (sg (!g') (val qs) < 0) = d1 at *
    generalize decide (sg false (val ([] : List Int)) < 0) = d2 at *
    go_wp2
    exact bodyPost_ret (v := .tuple #[.agg #[.bool d1, .slice a8 z8.length c8], .agg #[.bool d2, .slice a9 z9.length c9]]) (by simp [results, Tryz.results87, go_sem, c0, c1', c2', c3']) rfl ⟨_, _, rfl, TF.base_le (by omega), BZ⟩
open Go.RowKit

theorem IsTwo.first {base : Nat} {w : World} {v u : Value} {z y : Int} (h : IsTwo base w v u z y) : IsNum base w v z ∧ ∃ g a n c, u = .agg #[.bool g, .slice a n c] := by
 obtain ⟨a1, c1, qs, a2, c2, rs, e1, e2, o1, _, n1, _, v1, _⟩ := h
 exact ⟨⟨a1, c1, qs, e1, o1, n1, v1⟩, _, a2, rs.length, c2, e2⟩
open Go.RowKit

theorem fvar_new (w : World) (g g' : Bool) (a a' : Option Addr) (n n' c c' : Nat) (T : TypeId) :
  (w.alloc (.cells #[.bool g, .slice a n c, .bool g', .slice a' n' c'] T)).cell? ⟨w.heap.size, 0, none⟩ = some (.bool g) ∧ (w.alloc (.cells #[.bool g, .slice a n c, .bool g', .slice a' n' c'] T)).cell? ⟨w.heap.size, 1, none⟩ = some (.slice a n c) ∧
  (w.alloc (.cells #[.bool g, .slice a n c, .bool g', .slice a' n' c'] T)).cell? ⟨w.heap.size, 2, none⟩ = some (.bool g') ∧ (w.alloc (.cells #[.bool g, .slice a n c, .bool g', .slice a' n' c'] T)).cell? ⟨w.heap.size, 3, none⟩ = some (.slice a' n' c') :=
 ⟨cell_new w _ T 0 rfl, cell_new w _ T 1 rfl, cell_new w _ T 2 rfl, cell_new w _ T 3 rfl⟩

set_option maxHeartbeats 400000 in
theorem eqF (g h : Bool) (a a' b b' : Option Addr) (c c' d d' : Nat) (xs ys : List Int) (w : World) (h1 : Sees w a c xs) (h2 : Sees w a' c' xs) (k1 : Sees w b d ys) (k2 : Sees w b' d' ys) :
  Calls Tryz.prog 9 #[.agg #[.bool g, .slice a xs.length c, .bool h, .slice b ys.length d], .agg #[.bool g, .slice a' xs.length c', .bool h, .slice b' ys.length d']] w fun e w' => e = .returned (.bool true) ∧ Below w.heap.size w w' := by
 go_enter Tryz.func9, Tryz.ntmps9
 go_wp2_with fail
 refine (eqN g a a' c c' xs _ (h1.below (below2 _ _ _)) (h2.below (below2 _ _ _))).mono ?_
 rintro e w1 ⟨rfl, hb⟩
 obtain ⟨q1, _⟩ := at_block hb (b := w.heap.size) (by simp; omega)
 obtain ⟨q2, _⟩ := at_block hb (b := w.heap.size + 1) (by simp)
 have B := (below2 w (.cells #[.bool g, .slice a xs.length c, .bool h, .slice b ys.length d] 32) (.cells #[.bool g, .slice a' xs.length c', .bool h, .slice b' ys.length d'] 32)).trans (hb.mono (by simp; omega))
 clear hb
 go_wp2_with fail
 refine (eqN h b b' d d' ys _ (k1.below B) (k2.below B)).mono ?_
 rintro e w2 ⟨rfl, hb⟩
 have B2 := B.trans (hb.mono B.size)
 go_wp2
 go_ret
 exact ⟨rfl, B2⟩

open Go.RowKit

def IsFrac (base : Nat) (w : World) (v : Value) (n d : Int) : Prop :=
 ∃ a1 c1 qs a2 c2 rs, v = .agg #[.bool (decide (n < 0)), .slice a1 qs.length c1, .bool (decide (d < 0)), .slice a2 rs.length c2] ∧ Own base w a1 c1 qs ∧ Own base w a2 c2 rs ∧ Nrm qs ∧ Nrm rs ∧ val qs = mg n ∧ val rs = mg d ∧ Apart a1 qs a2 rs
theorem IsFrac.below {base : Nat} {w w' : World} {v : Value} {n d : Int} (h : IsFrac base w v n d) (hb : Below w.heap.size w w') : IsFrac base w' v n d := by
 obtain ⟨a1, c1, qs, a2, c2, rs, e1, o1, o2, r⟩ := h
 exact ⟨a1, c1, qs, a2, c2, rs, e1, o1.below hb, o2.below hb, r⟩
theorem IsFrac.base_le {base base' : Nat} {w : World} {v : Value} {n d : Int} (h : IsFrac base w v n d) (hb : base' ≤ base) : IsFrac base' w v n d := by
 obtain ⟨a1, c1, qs, a2, c2, rs, e1, o1, o2, r⟩ := h
 exact ⟨a1, c1, qs, a2, c2, rs, e1, o1.base_le hb, o2.base_le hb, r⟩
theorem IsFrac.setCell {base : Nat} {w : World} {v : Value} {n d : Int} (h : IsFrac base w v n d) {p : Addr} (hp : p.block < base) (u : Value) : IsFrac base (w.setCell p u) v n d := by
 obtain ⟨a1, c1, qs, a2, c2, rs, e1, o1, o2, r⟩ := h
 exact ⟨a1, c1, qs, a2, c2, rs, e1, o1.setCell hp u, o2.setCell hp u, r⟩
theorem IsFrac.eq {base : Nat} {w : World} {v : Value} {n d n' d' : Int} (h : IsFrac base w v n d) (e1 : n = n') (e2 : d = d') : IsFrac base w v n' d' := e1 ▸ e2 ▸ h
theorem IsFrac.put {B b : Nat} {w : World} {v : Value} {n d : Int} (h : IsFrac B w v n d) (hb : b < B) {b0 : Nat} (h0 : b0 ≤ b) (u0 u1 u2 u3 : Value) : IsFrac b0 ((((w.setCell ⟨b, 0, none⟩ u0).setCell ⟨b, 1, none⟩ u1).setCell ⟨b, 2, none⟩ u2).setCell ⟨b, 3, none⟩ u3) v n d :=
 ((((h.setCell (p := ⟨b, 0, none⟩) hb u0).setCell (p := ⟨b, 1, none⟩) hb u1).setCell (p := ⟨b, 2, none⟩) hb u2).setCell (p := ⟨b, 3, none⟩) hb u3).base_le (Nat.le_trans h0 (Nat.le_of_lt hb))
theorem below_put4 {b b0 : Nat} {w w' : World} (h : Below b0 w w') (h0 : b0 ≤ b) (u0 u1 u2 u3 : Value) : Below b0 w ((((w'.setCell ⟨b, 0, none⟩ u0).setCell ⟨b, 1, none⟩ u1).setCell ⟨b, 2, none⟩ u2).setCell ⟨b, 3, none⟩ u3) :=
 (((h.setCell (p := ⟨b, 0, none⟩) h0 u0).setCell (p := ⟨b, 1, none⟩) h0 u1).setCell (p := ⟨b, 2, none⟩) h0 u2).setCell (p := ⟨b, 3, none⟩) h0 u3

set_option maxHeartbeats 2000000 in
theorem lowestC (g : Bool) (a b : Option Addr) (c d : Nat) (ns ds : List Int) (w : World) (h1 : Sees w a c ns) (h2 : Sees w b d ds) (e1 : Nrm ns) (e2 : Nrm ds) (hne : ds ≠ []) (l1 : ns.length ≤ 1048575) (l2 : ds.length ≤ 1048575) :
  Calls Tryz.prog 52 #[.agg #[.bool g, .slice a ns.length c, .bool false, .slice b ds.length d]] w fun e w' => ∃ v, e = .returned v ∧ IsFrac w.heap.size w' v (sg g (val ns) / Int.gcd (val ns) (val ds)) (val ds / Int.gcd (val ns) (val ds)) ∧ Below w.heap.size w w' := by
 have B0 := below2 w (.cells #[.bool g, .slice a ns.length c, .bool false, .slice b ds.length d] 32) (.cells #[.bool false, .slice none 0 0, .bool false, .slice none 0 0] 32)
 have h1' := h1.below B0
 have h2' := h2.below B0
 have vd := val_pos h2.lim e2 hne
 have GP : Hid (0 < (Int.gcd (val ns) (val ds) : Int)) := by
  have : 0 < Int.gcd (val ns) (val ds) := Int.gcd_pos_of_ne_zero_right _ (by omega)
  show _ < _
  omega
 have GL : Hid ((Int.gcd (val ns) (val ds) : Int) ≤ val ds) := by
  have h0 : Int.gcd (val ns) (val ds) ≤ (val ds).natAbs := Nat.gcd_le_right _ (by omega)
  show _ ≤ _
  omega
 have HD : Hid (Lim ds) := h2.lim
 clear h1 h2 vd
 go_enter Tryz.func52, Tryz.ntmps52
 go_wp2_with fail
 refine (commonDivisorC g false a b c d ns ds _ h1' h2' e1 e2 (by omega) (by omega)).mono ?_
 rintro e w1 ⟨v, rfl, hI, hb1⟩
 obtain ⟨a1, c1, us, rfl, ou, nu, vu⟩ := hI
 obtain ⟨q0, _⟩ := at_block hb1 (b := w.heap.size) (by simp; omega)
 obtain ⟨q1, r1⟩ := at_block hb1 (b := w.heap.size + 1) (by simp)
 have hz : w.heap.size + 1 < w1.heap.size := by have := hb1.size; simp at this; omega
 have b0 : w1.cell? ⟨w.heap.size, 0, none⟩ = some (.bool g) := by simp [q0, go_sem]
 have b1 : w1.cell? ⟨w.heap.size, 1, none⟩ = some (.slice a ns.length c) := by simp [q0, go_sem]
 have b2 : w1.cell? ⟨w.heap.size, 2, none⟩ = some (.bool false) := by simp [q0, go_sem]
 have b3 : w1.cell? ⟨w.heap.size, 3, none⟩ = some (.slice b ds.length d) := by simp [q0, go_sem]
 have y0 : w1.cell? ⟨w.heap.size + 1, 0, none⟩ = some (.bool false) := by simp [q1, go_sem]
 have y1 : w1.cell? ⟨w.heap.size + 1, 1, none⟩ = some (.slice none 0 0) := by simp [q1, go_sem]
 have y2 : w1.cell? ⟨w.heap.size + 1, 2, none⟩ = some (.bool false) := by simp [q1, go_sem]
 have y3 : w1.cell? ⟨w.heap.size + 1, 3, none⟩ = some (.slice none 0 0) := by simp [q1, go_sem]
 have fy : ∀ o, w1.frozen? ⟨w.heap.size + 1, o, none⟩ = false := fun o => by simp [r1, go_sem]
 have B1 := B0.trans (hb1.mono (by simp; omega))
 have k1 := h1'.below hb1
 have k2 := h2'.below hb1
 have gp := GP.out
 have vu' : val us = (Int.gcd (val ns) (val ds) : Int) := by rw [vu]; unfold mg; rw [if_neg (by omega)]
 have hfl : decide ((Int.gcd (val ns) (val ds) : Int) < 0) = false := by simp
 rw [hfl]
 have hune : us ≠ [] := by rintro rfl; simp only [val] at vu'; omega
 have HU : Hid (Nrm us ∧ val us = (Int.gcd (val ns) (val ds) : Int) ∧ us.length ≤ 1048575) := ⟨nu, vu', by
  have := GL.out
  by_cases hc : us.length ≤ ds.length
  ·omega
  ·have := cmp_len HD.out ou.lim nu (by omega); omega⟩
 have hbx := below1 w1 (.cells #[.bool false, .slice a1 us.length c1] 30)
 obtain ⟨x0, x1⟩ := var_new w1 false a1 us.length c1 30
 have s1 := k1.below hbx
 have s2 := k2.below hbx
 have s3 := ou.toSees.below hbx
 have hz0 : w.heap.size < w1.heap.size := by omega
 clear hb1 h1' h2' gp vu vu' hfl nu k1 k2 B0 q0 q1 r1
 go_wp2_with fail
 have B2 : Below w.heap.size w (w1.alloc (.cells #[.bool false, .slice a1 us.length c1] 30)) := B1.trans (hbx.mono B1.size)
 replace b0 := bat hbx b0
 replace b1 := bat hbx b1
 replace b2 := bat hbx b2
 replace b3 := bat hbx b3
 replace y0 := bat hbx y0
 replace y1 := bat hbx y1
 replace y2 := bat hbx y2
 replace y3 := bat hbx y3
 have fy2 : ∀ o, (w1.alloc (.cells #[.bool false, .slice a1 us.length c1] 30)).frozen? ⟨w.heap.size + 1, o, none⟩ = false := fun o => (hbx.frozen (p := ⟨w.heap.size + 1, o, none⟩) hz).trans (fy o)
 have sz1 : w.heap.size + 2 ≤ (w1.alloc (.cells #[.bool false, .slice a1 us.length c1] 30)).heap.size := by rw [World.size_alloc]; omega
 clear hbx fy B1 hz hz0 ou
 generalize w1.alloc (.cells #[.bool false, .slice a1 us.length c1] 30) = W1 at *
 refine (dividedC g false a a1 c c1 ns us _ s1 s3 e1 HU.out.1 hune (by omega) HU.out.2.2).mono ?_
 rintro e w2 ⟨vq, vr, rfl, hT, hb2⟩
 obtain ⟨hI, gr, ar, nr, cr, rfl⟩ := hT.first
 obtain ⟨a5, c5, qs, rfl, o5, n5, v5⟩ := hI
 have EN : Hid (sg g (val ns) / sg false (val us) = sg g (val ns) / Int.gcd (val ns) (val ds)) := by show _ = _; simp only [sg]; simp [HU.out.2.1]
 rw [EN.out] at v5
 rw [EN.out]
 obtain ⟨f5, hf5⟩ : ∃ f, Hid (decide (sg g (val ns) / Int.gcd (val ns) (val ds) < 0) = f) := ⟨_, rfl⟩
 rw [hf5.out]
 have H5 : Hid (Nrm qs ∧ val qs = mg (sg g (val ns) / Int.gcd (val ns) (val ds))) := ⟨n5, v5⟩
 have hbv := below2 w2 (.cells #[.bool f5, .slice a5 qs.length c5] 30) (.cells #[.bool gr, .slice ar nr cr] 30)
 have hbb := hb2.trans (hbv.mono hb2.size)
 have u0 : ((w2.alloc (.cells #[.bool f5, .slice a5 qs.length c5] 30)).alloc (.cells #[.bool gr, .slice ar nr cr] 30)).cell? ⟨w2.heap.size, 0, none⟩ = some (.bool f5) := by simp [go_sem]
 have u1 : ((w2.alloc (.cells #[.bool f5, .slice a5 qs.length c5] 30)).alloc (.cells #[.bool gr, .slice ar nr cr] 30)).cell? ⟨w2.heap.size, 1, none⟩ = some (.slice a5 qs.length c5) := by simp [go_sem]
 have z0 := bat hb2 x0
 have z1 := bat hb2 x1
 have z2 := bat hb2 b2
 have z3 := bat hb2 b3
 have lb : w.heap.size < w2.heap.size := World.block_lt_of_cell? _ _ z2
 have lx : w1.heap.size < w2.heap.size := World.block_lt_of_cell? _ _ z0
 have lb' : w.heap.size < w2.heap.size + 1 := by omega
 have lx' : w1.heap.size < w2.heap.size + 1 := by omega
 go_wp2_with fail
 have s4 := s2.below hbb
 have s5 := s3.below hbb
 have o5' := o5.below hbv
 have B3 := B2.trans (hbb.mono B2.size)
 replace y0 := bat hbb y0
 replace y1 := bat hbb y1
 replace y2 := bat hbb y2
 replace y3 := bat hbb y3
 have fy3 : ∀ o, ((w2.alloc (.cells #[.bool f5, .slice a5 qs.length c5] 30)).alloc (.cells #[.bool gr, .slice ar nr cr] 30)).frozen? ⟨w.heap.size + 1, o, none⟩ = false := fun o => (hbb.frozen (p := ⟨w.heap.size + 1, o, none⟩) (by dsimp only; omega)).trans (fy2 o)
 have sz2 : w.heap.size + 2 ≤ ((w2.alloc (.cells #[.bool f5, .slice a5 qs.length c5] 30)).alloc (.cells #[.bool gr, .slice ar nr cr] 30)).heap.size := Nat.le_trans sz1 hbb.size
 clear hb2 hbv hbb fy2 z0 z1 z2 z3 lb lx lb' lx' b0 b1 b2 b3 x0 x1 s1 s2 s3 n5 v5 o5 B2 hT
 generalize (w2.alloc (.cells #[.bool f5, .slice a5 qs.length c5] 30)).alloc (.cells #[.bool gr, .slice ar nr cr] 30) = W2 at *
 refine (dividedC false false b a1 d c1 ds us _ s4 s5 e2 HU.out.1 hune (by omega) HU.out.2.2).mono ?_
 rintro e w3 ⟨vq, vr, rfl, hT, hb3⟩
 obtain ⟨hI, gr2, ar2, nr2, cr2, rfl⟩ := hT.first
 obtain ⟨a6, c6, rs, rfl, o6, n6, v6⟩ := hI
 have ED : Hid (sg false (val ds) / sg false (val us) = val ds / Int.gcd (val ns) (val ds)) := by show _ = _; simp only [sg]; simp [HU.out.2.1]
 rw [ED.out] at v6
 rw [ED.out]
 obtain ⟨f6, hf6⟩ : ∃ f, Hid (decide (val ds / Int.gcd (val ns) (val ds) < 0) = f) := ⟨_, rfl⟩
 rw [hf6.out]
 have o5'' := o5'.below hb3
 have AP : Hid (Apart a5 qs a6 rs) := fun q off q1 q2 q3 => row_ne_low o6 (o5'.lt q1 q2) q3.symm
 have IF : IsFrac (w.heap.size + 2) w3 (.agg #[.bool f5, .slice a5 qs.length c5, .bool f6, .slice a6 rs.length c6]) (sg g (val ns) / Int.gcd (val ns) (val ds)) (val ds / Int.gcd (val ns) (val ds)) :=
  ⟨a5, c5, qs, a6, c6, rs, by rw [hf5.out, hf6.out], o5''.base_le sz1, o6.base_le sz2, H5.out.1, n6, H5.out.2, v6, AP.out⟩
 have B4 := B3.trans (hb3.mono B3.size)
 replace y0 := bat hb3 y0
 replace y1 := bat hb3 y1
 replace y2 := bat hb3 y2
 replace y3 := bat hb3 y3
 replace u0 := bat hb3 u0
 replace u1 := bat hb3 u1
 have fy4 : ∀ o, w3.frozen? ⟨w.heap.size + 1, o, none⟩ = false := fun o => (hb3.frozen (p := ⟨w.heap.size + 1, o, none⟩) (by dsimp only; omega)).trans (fy3 o)
 have ly : w.heap.size + 1 < w3.heap.size := World.block_lt_of_cell? _ _ y0
 have ly0 : w.heap.size < w3.heap.size := by omega
 have lu : w2.heap.size < w3.heap.size := World.block_lt_of_cell? _ _ u0
 have lu' : w2.heap.size < w3.heap.size + 1 := by omega
 have JP := IF.put (b := w.heap.size + 1) (b0 := w.heap.size) (by omega) (by omega) (.bool f5) (.slice a5 qs.length c5) (.bool f6) (.slice a6 rs.length c6)
 have BP := below_put4 (b := w.heap.size + 1) B4 (by omega) (.bool f5) (.slice a5 qs.length c5) (.bool f6) (.slice a6 rs.length c6)
 clear hb3 fy3 o5' o5'' o6 n6 v6 s4 s5 hT B3 B4 AP IF H5
 go_wp2
 exact bodyPost_ret (v := .agg #[.bool f5, .slice a5 qs.length c5, .bool f6, .slice a6 rs.length c6]) (by simp [results, Tryz.results52, go_sem, y0, y1, y2, y3, ly, ly0]) rfl ⟨_, rfl, JP.below (below2 _ _ _), BP.trans ((below2 _ _ _).mono BP.size)⟩
open Go.RowKit

theorem IsFrac.two {base : Nat} {w w1 : World} {a b : Option Addr} {c d : Nat} {xs ys : List Int} {n m : Int} (o1 : Own base w a c xs) (n1 : Nrm xs) (v1 : val xs = mg n) (hb : Below w.heap.size w w1) (o2 : Own w.heap.size w1 b d ys) (n2 : Nrm ys) (v2 : val ys = mg m) (hl : base ≤ w.heap.size) :
  IsFrac base w1 (.agg #[.bool (decide (n < 0)), .slice a xs.length c, .bool (decide (m < 0)), .slice b ys.length d]) n m :=
 ⟨a, c, xs, b, d, ys, rfl, o1.below hb, o2.base_le hl, n1, n2, v1, v2, apart_later o1.toCame o2⟩

set_option maxHeartbeats 1000000 in
theorem implWhole (n : Int) (w : World) (h1 : -9223372036854775808 ≤ n) (h2 : n ≤ 9223372036854775807) :
  Calls Tryz.prog 82 #[.int .i64 n] w fun e w' => ∃ v, e = .returned v ∧ IsFrac w.heap.size w' v n 1 ∧ Below w.heap.size w w' := by
 have B0 := below1 w (.cells #[.bool false, .slice none 0 0, .bool false, .slice none 0 0] 32)
 have HN : Hid (-9223372036854775808 ≤ n ∧ n ≤ 9223372036854775807) := ⟨h1, h2⟩
 clear h1 h2
 obtain ⟨f, hf⟩ : ∃ f, Hid (decide (n < 0) = f) := ⟨_, rfl⟩
 go_enter Tryz.func82, Tryz.ntmps82
 go_wp2_with fail
 refine (implOf n _ HN.out.1 HN.out.2).mono ?_
 rintro e w1 ⟨v, rfl, hI, hb1⟩
 obtain ⟨a1, c1, xs, rfl, o1, n1, v1⟩ := hI
 rw [hf.out]
 go_wp2_with fail
 refine (implOf 1 _ (by decide) (by decide)).mono ?_
 rintro e w2 ⟨v, rfl, hI, hb2⟩
 obtain ⟨a2, c2, ys, rfl, o2, n2, v2⟩ := hI
 obtain ⟨q1, r1⟩ := at_block hb1 (b := w.heap.size) (by simp)
 have z1 : w.heap.size < w1.heap.size := by have := hb1.size; simp at this; omega
 have q2 := fun o => (hb2.cell (p := ⟨w.heap.size, o, none⟩) z1).trans (q1 o)
 have r2 := fun o => (hb2.frozen (p := ⟨w.heap.size, o, none⟩) z1).trans (r1 o)
 have z2 := Nat.lt_of_lt_of_le z1 hb2.size
 have B1 := (B0.trans (hb1.mono (by simp)))
 have B2 := B1.trans (hb2.mono B1.size)
 have hJ := (IsFrac.two o1 n1 v1 hb2 o2 n2 v2 hb1.size).base_le (show w.heap.size + 1 ≤ _ by simp)
 rw [hf.out] at hJ
 have JP := hJ.put (b := w.heap.size) (b0 := w.heap.size) (by omega) (by omega) (.bool f) (.slice a1 xs.length c1) (.bool false) (.slice a2 ys.length c2)
 have BP := below_put4 (b := w.heap.size) B2 (by omega) (.bool f) (.slice a1 xs.length c1) (.bool false) (.slice a2 ys.length c2)
 clear hb1 hb2 o1 o2 q1 r1 B0 B1 B2 hJ
 go_wp2
 exact bodyPost_ret (v := .agg #[.bool f, .slice a1 xs.length c1, .bool false, .slice a2 ys.length c2]) (by simp [results, Tryz.results82, go_sem, q2]) rfl ⟨_, rfl, JP, BP⟩

set_option maxHeartbeats 1000000 in
theorem specWhole (n : Int) (w : World) (h1 : -9223372036854775808 ≤ n) (h2 : n ≤ 9223372036854775807) :
  Calls Tryz.prog 17 #[.int .i64 n] w fun e w' => ∃ v, e = .returned v ∧ IsFrac w.heap.size w' v n 1 ∧ Below w.heap.size w w' := by
 have B0 := below1 w (.cells #[.bool false, .slice none 0 0, .bool false, .slice none 0 0] 32)
 have HN : Hid (-9223372036854775808 ≤ n ∧ n ≤ 9223372036854775807) := ⟨h1, h2⟩
 clear h1 h2
 obtain ⟨f, hf⟩ : ∃ f, Hid (decide (n < 0) = f) := ⟨_, rfl⟩
 go_enter Tryz.func17, Tryz.ntmps17
 go_wp2_with fail
 refine (specOf n _ HN.out.1 HN.out.2).mono ?_
 rintro e w1 ⟨v, rfl, hI, hb1⟩
 obtain ⟨a1, c1, xs, rfl, o1, n1, v1⟩ := hI
 rw [hf.out]
 go_wp2_with fail
 refine (specOf 1 _ (by decide) (by decide)).mono ?_
 rintro e w2 ⟨v, rfl, hI, hb2⟩
 obtain ⟨a2, c2, ys, rfl, o2, n2, v2⟩ := hI
 obtain ⟨q1, r1⟩ := at_block hb1 (b := w.heap.size) (by simp)
 have z1 : w.heap.size < w1.heap.size := by have := hb1.size; simp at this; omega
 have q2 := fun o => (hb2.cell (p := ⟨w.heap.size, o, none⟩) z1).trans (q1 o)
 have r2 := fun o => (hb2.frozen (p := ⟨w.heap.size, o, none⟩) z1).trans (r1 o)
 have z2 := Nat.lt_of_lt_of_le z1 hb2.size
 have B1 := (B0.trans (hb1.mono (by simp)))
 have B2 := B1.trans (hb2.mono B1.size)
 have hJ := (IsFrac.two o1 n1 v1 hb2 o2 n2 v2 hb1.size).base_le (show w.heap.size + 1 ≤ _ by simp)
 rw [hf.out] at hJ
 have JP := hJ.put (b := w.heap.size) (b0 := w.heap.size) (by omega) (by omega) (.bool f) (.slice a1 xs.length c1) (.bool false) (.slice a2 ys.length c2)
 have BP := below_put4 (b := w.heap.size) B2 (by omega) (.bool f) (.slice a1 xs.length c1) (.bool false) (.slice a2 ys.length c2)
 clear hb1 hb2 o1 o2 q1 r1 B0 B1 B2 hJ
 go_wp2
 exact bodyPost_ret (v := .agg #[.bool f, .slice a1 xs.length c1, .bool false, .slice a2 ys.length c2]) (by simp [results, Tryz.results17, go_sem, q2]) rfl ⟨_, rfl, JP, BP⟩
open Go.RowKit

theorem tk_is {us : List Int} {n : Int} (hl : Lim us) (hn : Nrm us) (l : us.length ≤ 24) (hv : val us = mg n) : tk (decide (n < 0)) us = n := by
 have hk : okB (decide (n < 0)) us = true := by
  unfold okB
  by_cases h0 : us.length = 0
  ·rw [if_pos h0]
   obtain rfl : us = [] := List.eq_nil_of_length_eq_zero h0
   have : mg n = 0 := by rw [← hv]; rfl
   unfold mg at this
   simp
   split at this <;> omega
  ·rw [if_neg h0]
   have hlast : us.getLast? = some (us[us.length - 1]?.getD 0) := by
    rw [List.getLast?_eq_getElem?, List.getElem?_eq_getElem (by omega)]
    rfl
   have := last_of_Nrm hn _ hlast
   simp [l, this]
 unfold tk tkG tkL
 rw [hk, if_pos rfl, Bool.true_and, hv]
 unfold sg mg
 by_cases h : n < 0 <;> simp [h]
theorem okB_is {us : List Int} {n : Int} (hn : Nrm us) (l : us.length ≤ 24) (hv : val us = mg n) : okB (decide (n < 0)) us = true := by
 unfold okB
 by_cases h0 : us.length = 0
 ·rw [if_pos h0]
  obtain rfl : us = [] := List.eq_nil_of_length_eq_zero h0
  have : mg n = 0 := by rw [← hv]; rfl
  unfold mg at this
  simp
  split at this <;> omega
 ·rw [if_neg h0]
  have hlast : us.getLast? = some (us[us.length - 1]?.getD 0) := by
   rw [List.getLast?_eq_getElem?, List.getElem?_eq_getElem (by omega)]
   rfl
  have := last_of_Nrm hn _ hlast
  simp [l, this]
theorem fND_is {zs ts : List Int} {n d : Int} (l1 : Lim zs) (n1 : Nrm zs) (s1 : zs.length ≤ 24) (v1 : val zs = mg n) (l2 : Lim ts) (n2 : Nrm ts) (s2 : ts.length ≤ 24) (v2 : val ts = mg d) (hd : 0 < d) :
  fN (decide (n < 0)) zs (decide (d < 0)) ts = n ∧ fD (decide (n < 0)) zs (decide (d < 0)) ts = d := by
 have t1 := tk_is l1 n1 s1 v1
 have t2 := tk_is l2 n2 s2 v2
 have e : fOk (decide (n < 0)) zs (decide (d < 0)) ts = true := by
  unfold fOk
  rw [okB_is n1 s1 v1, okB_is n2 s2 v2, t2]
  unfold cmpZ
  rw [if_neg (by omega), if_neg (by omega)]
  rfl
 unfold fN fD
 rw [if_pos e, if_pos e]
 exact ⟨t1, t2⟩
theorem cmpFrac_is (n d n' d' : Int) (a b a' b' : Option Addr) (c e c' e' : Nat) (zs ts zs' ts' : List Int) (w : World) (h1 : Sees w a c zs) (h2 : Sees w b e ts) (h3 : Sees w a' c' zs') (h4 : Sees w b' e' ts')
  (k1 : Nrm zs ∧ zs.length ≤ 24 ∧ val zs = mg n) (k2 : Nrm ts ∧ ts.length ≤ 24 ∧ val ts = mg d) (k3 : Nrm zs' ∧ zs'.length ≤ 24 ∧ val zs' = mg n') (k4 : Nrm ts' ∧ ts'.length ≤ 24 ∧ val ts' = mg d') (p1 : 0 < d) (p2 : 0 < d') :
  Calls Tryz.prog 28 #[.agg #[.bool (decide (n < 0)), .slice a zs.length c, .bool (decide (d < 0)), .slice b ts.length e], .agg #[.bool (decide (n' < 0)), .slice a' zs'.length c', .bool (decide (d' < 0)), .slice b' ts'.length e']] w fun e w' => e = .returned (.int .i64 (cmpZ (n * d') (n' * d))) ∧ Below w.heap.size w w' := by
 obtain ⟨q1, q2⟩ := fND_is h1.lim k1.1 k1.2.1 k1.2.2 h2.lim k2.1 k2.2.1 k2.2.2 p1
 obtain ⟨q3, q4⟩ := fND_is h3.lim k3.1 k3.2.1 k3.2.2 h4.lim k4.1 k4.2.1 k4.2.2 p2
 have := implCmpFrac (decide (n < 0)) (decide (d < 0)) (decide (n' < 0)) (decide (d' < 0)) a b a' b' c e c' e' zs ts zs' ts' w h1 h2 h3 h4
 rw [q1, q2, q3, q4] at this
 exact this

open Go.RowKit

set_option maxHeartbeats 1000000 in
theorem markF (base : Nat) (g h : Bool) (a b : Option Addr) (c d : Nat) (xs ys : List Int) (k : Int) (w : World) (h1 : Own base w a c xs) (h2 : Own base w b d ys) (hap : ∀ q off, a = some ⟨q, off, none⟩ → xs ≠ [] → rowOf b ys ≠ some q) (hk : 0 ≤ k) (hs : k + xs.length + ys.length < 4294967296) :
  Calls Tryz.prog 12 #[.agg #[.bool g, .slice a xs.length c, .bool h, .slice b ys.length d], .int .i64 k] w fun e w' => e = .returned (.int .i64 (k + xs.length + ys.length)) ∧ ∃ wm, w.grownBy wm (rowOf a xs) ∧ wm.grownBy w' (rowOf b ys) ∧ Own base w' a c (marks k xs.length) ∧ Own base w' b d (marks (k + xs.length) ys.length) := by
 have hbs : ∀ q off, b = some ⟨q, off, none⟩ → ys ≠ [] → rowOf a xs ≠ some q := by
  intro q off e1 e2 e3
  unfold rowOf at e3
  split at e3
  ·cases e3
  ·next hn =>
   obtain ⟨q2, off2, ha, _⟩ := h1.cells hn
   rw [ha] at e3
   simp at e3
   subst e3
   refine hap q2 off2 ha hn ?_
   unfold rowOf
   rw [if_neg e2, e1]
   rfl
 have hb0 := below1 w (.cells #[.bool g, .slice a xs.length c, .bool h, .slice b ys.length d] 32)
 have HG0 : w.grownBy (w.alloc (.cells #[.bool g, .slice a xs.length c, .bool h, .slice b ys.length d] 32)) (rowOf a xs) := World.grownBy_alloc _ _ _
 have rz : some w.heap.size ≠ rowOf a xs := row_ne_high h1.toCame (Nat.le_refl _)
 have HA : Hid (∀ q off, a = some ⟨q, off, none⟩ → xs ≠ [] → rowOf b ys ≠ some q) := hap
 have HB : Hid (∀ q off, b = some ⟨q, off, none⟩ → ys ≠ [] → rowOf a xs ≠ some q) := hbs
 have h1' := h1.below hb0
 have h2' := h2.below hb0
 obtain ⟨v0, v1, v2, v3⟩ := fvar_new w g h a b xs.length ys.length c d 32
 clear h1 h2 hap hbs hb0
 go_enter Tryz.func12, Tryz.ntmps12
 go_wp2_with fail
 generalize w.alloc (.cells #[.bool g, .slice a xs.length c, .bool h, .slice b ys.length d] 32) = W at *
 refine (markN base g a c xs k _ h1' hk (by omega)).mono ?_
 rintro e w1 ⟨rfl, o1, g1⟩
 have u2 := g1.cell v2 rz
 have u3 := g1.cell v3 rz
 have o2 := h2'.kept g1 HB.out
 clear h1' h2' v0 v1 v2 v3
 go_wp2_with fail
 refine (markN base h b d ys (k + xs.length) _ o2 (by omega) (by omega)).mono ?_
 rintro e w2 ⟨rfl, o3, g2⟩
 have o1' := o1.kept g2 (fun q off e1 e2 => HA.out q off e1 (by intro e; rw [e] at e2; exact e2 rfl))
 clear u2 u3
 go_wp2
 go_ret
 exact ⟨rfl, w1, grownBy_trans HG0 g1, g2, o1', o3⟩
open Go.RowKit

theorem below_two {base : Nat} {w wm w' : World} {a b : Option Addr} {c d : Nat} {xs ys : List Int} (h1 : Own base w a c xs) (h2 : Own base w b d ys) (g1 : w.grownBy wm (rowOf a xs)) (g2 : wm.grownBy w' (rowOf b ys)) (hb : base ≤ w.heap.size) : Below base w w' :=
 (below_of_grown h1 g1 hb).trans ⟨g2.os, g2.tape, g2.output, g2.size, fun i hi => g2.block i (Nat.lt_of_lt_of_le hi (Nat.le_trans hb g1.size)) (row_ne_low h2 hi)⟩
theorem IsFrac.as {b : Nat} {w : World} {v : Value} {n d : Int} (h : IsFrac b w v n d) {zs ts : List Int} (hh : Lim zs ∧ Nrm zs ∧ val zs = mg n ∧ Lim ts ∧ Nrm ts ∧ val ts = mg d) :
  ∃ a c a' c', v = .agg #[.bool (decide (n < 0)), .slice a zs.length c, .bool (decide (d < 0)), .slice a' ts.length c'] ∧ Own b w a c zs ∧ Own b w a' c' ts ∧ Apart a zs a' ts := by
 obtain ⟨a1, c1, qs, a2, c2, rs, e, o1, o2, n1, n2, v1, v2, ap⟩ := h
 obtain ⟨l1, m1, w1, l2, m2, w2⟩ := hh
 obtain rfl : zs = qs := val_inj l1 o1.lim m1 n1 (w1.trans v1.symm)
 obtain rfl : ts = rs := val_inj l2 o2.lim m2 n2 (w2.trans v2.symm)
 exact ⟨a1, c1, a2, c2, e, o1, o2, ap⟩
theorem quot_le {n m : Int} (hm : 0 < m) : mg (n / m) ≤ mg n := by
 have e := Int.mul_ediv_add_emod n m
 have r0 := Int.emod_nonneg n (show m ≠ 0 by omega)
 have r1 := Int.emod_lt_of_pos n hm
 by_cases hn : 0 ≤ n
 ·have q0 := Int.ediv_nonneg hn (show 0 ≤ m by omega)
  have q1 := Int.ediv_le_self m hn
  unfold mg
  rw [if_neg (by omega), if_neg (by omega)]
  exact q1
 ·have hq : n / m < 0 := Int.ediv_neg_of_neg_of_pos (by omega) hm
  have h11 : n < m * (n / m + 1) := by rw [Int.mul_add, Int.mul_one]; omega
  have h12 : m * (n / m + 1) ≤ 1 * (n / m + 1) := Int.mul_le_mul_of_nonpos_right (by omega) (by omega)
  unfold mg
  rw [if_pos hq, if_pos (by omega)]
  omega
end Go.Proofs.YtnjbedhealpgcaaGreat
