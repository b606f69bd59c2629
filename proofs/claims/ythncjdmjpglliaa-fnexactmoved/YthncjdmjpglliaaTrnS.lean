/- The specification's Turned. -/
import Derived.Test.YthncjdmjpglliaaStoS
import Derived.Test.YthncjdmjpglliaaTrnI
import Derived.BigRegion
namespace Go.Proofs.Ythncjdmjpglliaa
open Go.RowKit

theorem rot_map (n : Nat) (rs : List (List (Int × Int))) : (rs.map (·.map (rot n))).map (·.map qn) = rs.map (·.map (rot (n + 1))) := by
  rw [List.map_map]
  congr 1
  funext ps
  show (ps.map (rot n)).map qn = _
  rw [List.map_map]
  rfl
theorem rot_zero (rs : List (List (Int × Int))) : rs.map (·.map (rot 0)) = rs := by
  have : rot 0 = fun p => p := rfl
  rw [this]
  simp

set_option maxRecDepth 20000 in
set_option maxHeartbeats 4000000 in
theorem specTurned (k q : Int) (a : Option Addr) (c : Nat) (rs : List (List (Int × Int))) (w : World) (h : SeesS w a c rs) (hm : Somes w a rs.length) (hs : upto rs rs.length ≤ 1048576) :
    Calls Try.prog 6 #[.agg #[.int .i64 k, .slice a rs.length c], .int .i64 q] w fun e w' => ∃ v vs, e = .returned (.agg #[.int .i64 k, v]) ∧ ShR w.heap.size w' v vs (trnV k q rs) ∧ Below w.heap.size w w' := by
  have B := below2 w (.cells #[.int .i64 k, .slice a rs.length c] 28) (.cells #[.int .i64 0, .slice none 0 0] 28)
  have V1 := (Box2.new w (lo := w.heap.size) (Nat.le_refl _) (.int .i64 k) (.slice a rs.length c) 28).below (below1 _ (.cells #[.int .i64 0, .slice none 0 0] 28))
  have V2 := Box2.new (w.alloc (.cells #[.int .i64 k, .slice a rs.length c] 28)) (lo := w.heap.size) (by simp) (.int .i64 0) (.slice none 0 0) 28
  rw [World.size_alloc] at V2
  have S := h.below B
  have M := hm.below B
  have HS : Hid (upto rs rs.length ≤ 1048576) := hs
  have zz : ((w.alloc (.cells #[.int .i64 k, .slice a rs.length c] 28)).alloc (.cells #[.int .i64 0, .slice none 0 0] 28)).heap.size = w.heap.size + 2 := by simp
  obtain ⟨g, hg⟩ : ∃ g, Hid (goodB k rs = g) := ⟨_, rfl⟩
  obtain ⟨ts, ht⟩ : ∃ t, Hid (trnV k q rs = t) := ⟨_, rfl⟩
  rw [ht.out]
  obtain ⟨h1, h2, h3, h4⟩ := tq_cases q
  obtain ⟨r0, hr0⟩ : ∃ r, q.tmod 4 = r := ⟨_, rfl⟩
  rw [hr0] at h1 h2 h3
  obtain ⟨n0, hn0⟩ : ∃ n, Hid (tq q = n) := ⟨_, rfl⟩
  rw [hn0.out] at h1 h4
  have hrl : rs.length ≤ 1048576 := by have := upto_le rs 0 rs.length; simp only [upto, Nat.zero_add] at this; omega
  have hll : Hid (∀ i, i < rs.length → (rowA rs i).length ≤ 1048576) := fun i hi => by have := row_le rs hi; omega
  obtain ⟨c0, c1, _, _⟩ := id V1
  clear h hm hs
  go_enter Try.func6, Try.ntmps6
  go_wp2_with fail
  generalize (w.alloc (.cells #[.int .i64 k, .slice a rs.length c] 28)).alloc (.cells #[.int .i64 0, .slice none 0 0] 28) = W0 at *
  refine (l5CopyR k a c rs _ S M HS.out).mono ?_
  rintro e w1 ⟨v, vs, rfl, R, hb⟩
  obtain ⟨va, vc, rfl, vf, vm⟩ := R.shape
  have hvl := R.len.out
  rw [hvl] at R vf ⊢
  unfold maxLen at vm
  have bn := below1 w1 (.cells #[.int .i64 k, .slice va rs.length vc] 28)
  have V3 := Box2.new w1 (lo := w.heap.size) (by have := hb.size; omega) (.int .i64 k) (.slice va rs.length vc) 28
  have NB1 : Hid (∀ k, (Value.slice va rs.length vc).ownBlock = some k → k < w1.heap.size) := fun k hk => (R.lts.1 k hk).2
  have NB2 : Hid (∀ u ∈ vs, ∀ k, u.ownBlock = some k → k < w1.heap.size) := fun u hu k hk => (R.lts.2 u hu k hk).2
  have hz1 := hb.size
  rw [zz] at hz1 R
  replace hb := hb.trans (bn.mono hb.size)
  replace R := R.below bn
  replace B := B.trans (hb.mono B.size)
  replace V1 := V1.below hb
  replace V2 := V2.below hb
  replace S := S.below hb
  clear hb bn c0 c1 M hvl
  obtain ⟨c0, c1, _, _⟩ := id V1
  go_wp2_with fail
  generalize w1.alloc (.cells #[.int .i64 k, .slice va rs.length vc] 28) = W2 at *
  generalize w1.heap.size = p5 at *
  refine (l5Good_any k a c rs _ S).mono ?_
  rintro e W3 ⟨rfl, hb⟩
  rw [hg.out]
  replace B := B.trans (hb.mono B.size)
  replace V2 := V2.below hb
  replace V3 := V3.below hb
  replace R := R.below hb
  clear hb S V1 c0 c1
  cases g
  · have HT : Hid (rs = ts) := by show _ = _; rw [← ht.out]; unfold trnV; rw [hg.out]; rfl
    have gq : W3.grownBy ((W3.setCell ⟨w.heap.size + 1, 0, none⟩ (.int .i64 k)).setCell ⟨w.heap.size + 1, 1, none⟩ (.slice va rs.length vc)) (some (w.heap.size + 1)) := grownBy_setCell (p := ⟨w.heap.size + 1, 1, none⟩) (grownBy_setCell (p := ⟨w.heap.size + 1, 0, none⟩) (grownBy_refl _ _) rfl _) rfl _
    have RS : Hid (ShR w.heap.size ((W3.setCell ⟨w.heap.size + 1, 0, none⟩ (.int .i64 k)).setCell ⟨w.heap.size + 1, 1, none⟩ (.slice va rs.length vc)) (.slice va rs.length vc) vs ts) := by rw [← HT.out]; exact (R.drawn gq (by omega)).base (by omega)
    have E := Box2.chain B V2 (.int .i64 k) (.slice va rs.length vc)
    have Z := V2.put (.int .i64 k) (.slice va rs.length vc)
    obtain ⟨z0, z1, _, _⟩ := id Z
    obtain ⟨d0, d1, df, _⟩ := id V2
    obtain ⟨c0, c1, _, _⟩ := id V3
    clear R B gq
    go_wp2
    refine bodyPost_ret (v := .agg #[.int .i64 k, .slice va rs.length vc]) (by simp [results, Try.results6, go_sem, z0, z1]) rfl ?_
    exact ⟨_, vs, rfl, RS.out, E⟩
  · have HT : Hid (rs.map (·.map (rot n0)) = ts) := by show _ = _; rw [← ht.out]; unfold trnV; rw [hg.out, hn0.out]; rfl
    have R0 : Hid (ShR (w.heap.size + 2) W3 (.slice va rs.length vc) vs (rs.map (·.map (rot (n0 - n0))))) := by rw [Nat.sub_self, rot_zero]; exact R
    clear R
    go_wp2
    go_loopw [6] (fun s6 wr => ∃ m : Nat, m ≤ n0 ∧ s6 = .int .i64 m ∧ Hid (ShR (w.heap.size + 2) wr (.slice va rs.length vc) vs (rs.map (·.map (rot (n0 - m))))) ∧ Hid (Box2 w.heap.size wr p5 (.int .i64 k) (.slice va rs.length vc)) ∧ Hid (Below (w.heap.size + 2) W3 wr)) (fun s6 _ => (intOf s6).toNat)
    case atStart => exact ⟨n0, Nat.le_refl _, rfl, R0, V3, Below.refl _ _⟩
    case round =>
      clear R0 V3
      obtain ⟨m, hm, rfl, RR, VV, BB⟩ := hrel
      rename World => wr
      by_cases hm0 : 0 < m
      · obtain ⟨X, hX⟩ : ∃ X, Hid (rs.map (·.map (rot (n0 - m))) = X) := ⟨_, rfl⟩
        rw [hX.out] at RR
        have XL : Hid (X.length = rs.length) := by show _ = _; rw [← hX.out, List.length_map]
        have XR : Hid (∀ i, (rowA X i).length = (rowA rs i).length) := fun i => by rw [← hX.out, rowA_map, List.length_map]
        have XN : Hid (X.map (·.map qn) = rs.map (·.map (rot (n0 - (m - 1))))) := by show _ = _; rw [← hX.out, rot_map, show n0 - m + 1 = n0 - (m - 1) by omega]
        have RR0 : Hid (ShR (w.heap.size + 2) wr (.slice va rs.length vc) vs (mixR qn X 0)) := by rw [mixR_zero]; exact RR
        clear RR
        go_wp2
        go_loopw [7] (fun s7 ws => ∃ r : Nat, r ≤ rs.length ∧ s7 = .int .i64 r ∧ Hid (ShR (w.heap.size + 2) ws (.slice va rs.length vc) vs (mixR qn X r)) ∧ Hid (Box2 w.heap.size ws p5 (.int .i64 k) (.slice va rs.length vc)) ∧ Hid (Below (w.heap.size + 2) W3 ws)) (fun s7 _ => rs.length - (intOf s7).toNat)
        case atStart => exact ⟨0, Nat.zero_le _, rfl, RR0, VV, BB⟩
        case round =>
          clear RR0 VV BB
          obtain ⟨r, hr, rfl, RR, VV, BB⟩ := hrel
          rename World => ws
          have o1 := VV.out.c1
          by_cases hlr : r < rs.length
          · have RR0 : Hid (ShR (w.heap.size + 2) ws (.slice va rs.length vc) vs (mixI qn X r 0)) := by rw [mixI_zero qn (by rw [XL.out]; exact hlr)]; exact RR
            have hrw := hll.out r hlr
            have hLr : Hid ((rowA X r).length = (rowA rs r).length) := XR.out r
            clear RR
            generalize hL : (rowA rs r).length = L at *
            go_wp2
            go_loopw [8] (fun s8 wt => ∃ i : Nat, i ≤ L ∧ s8 = .int .i64 i ∧ Hid (ShR (w.heap.size + 2) wt (.slice va rs.length vc) vs (mixI qn X r i)) ∧ Hid (Box2 w.heap.size wt p5 (.int .i64 k) (.slice va rs.length vc)) ∧ Hid (Below (w.heap.size + 2) W3 wt)) (fun s8 _ => L - (intOf s8).toNat)
            case atStart => exact ⟨0, Nat.zero_le _, rfl, RR0, VV, BB⟩
            case round =>
              clear RR0 VV BB o1
              obtain ⟨i, hi, rfl, RR, VV, BB⟩ := hrel
              rename World => wt
              have o1 := VV.out.c1
              have hrX : Hid (r < X.length) := by show _ < _; rw [XL.out]; exact hlr
              have el : (rowA (mixI qn X r i) r).length = L := by rw [mixI_row qn hrX.out, mixP_len, hLr.out]
              by_cases hli : i < L
              · have hiX : i < (rowA X r).length := by rw [hLr.out]; exact hli
                obtain ⟨g, g', c', e, hv, hc, RP, ne, f1, f2⟩ := RR.out.at2 (r := r) (i := i) (by rw [mixI_len]; exact hrX.out) (by rw [el]; exact hli)
                subst e
                rw [el] at hv hc RP f1
                unfold maxLen at f2
                obtain ⟨k0, k1, kf⟩ := RP.cellsAt (i := i) (by rw [el]; exact hli)
                have hg' : w.heap.size + 2 ≤ g' := (World.ownsRow.lt RP g' rfl).1
                have hg5 : g' < p5 := NB2.out _ (List.mem_of_getElem? hv) g' rfl
                have hat : (rowA (mixI qn X r i) r)[i]?.getD (0, 0) = (rowA X r)[i]?.getD (0, 0) := by rw [mixI_row qn hrX.out, mixP_at qn hiX]
                rw [hat] at k0 k1
                obtain ⟨x, hx⟩ : ∃ x, Hid (((rowA X r)[i]?.getD (0, 0)).1 = x) := ⟨_, rfl⟩
                obtain ⟨y, hy⟩ : ∃ y, Hid (((rowA X r)[i]?.getD (0, 0)).2 = y) := ⟨_, rfl⟩
                have RN : Hid (∀ W, ShR (w.heap.size + 2) W (.slice (some ⟨g, 0, none⟩) rs.length vc) vs (mixI qn X r i) → RowPt (w.heap.size + 2) W (.slice (some ⟨g', 0, none⟩) L c') (rowA (mixI qn X r i) r) → ShR (w.heap.size + 2) ((W.setCell ⟨g', i * 2, none⟩ (.int .i64 (wrap64 (-y)))).setCell ⟨g', i * 2 + 1, none⟩ (.int .i64 x)) (.slice (some ⟨g, 0, none⟩) rs.length vc) vs (mixI qn X r (i + 1))) := fun W h1 h2 => by
                  have := h1.store (by rw [mixI_len]; exact hrX.out) hv h2 i (wrap64 (-y)) x
                  rwa [show (wrap64 (-y), x) = qn ((rowA X r)[i]?.getD (0, 0)) by unfold qn; rw [hx.out, hy.out], mixI_step qn hrX.out hiX] at this
                rw [hx.out] at k0
                rw [hy.out] at k1
                have bn := below1 wt (.cells #[.int .i64 x, .int .i64 y] 38)
                have VP := Box2.new wt (lo := w.heap.size) (by have := VV.out.lt; have := VV.out.lo; omega) (.int .i64 x) (.int .i64 y) 38
                have RB := RR.out.below bn
                have RPB := RP.below bn
                have VB := VV.out.below bn
                have BB1 := BB.out.trans (bn.mono (by have := VV.out.lt; omega))
                have zt : g' < wt.heap.size := (World.ownsRow.lt RP g' rfl).2
                have o2 := bat bn o1
                have hc2 := bat bn hc
                have k02 := bat bn k0
                have k12 := bat bn k1
                have kf2 : ∀ o, (wt.alloc (.cells #[.int .i64 x, .int .i64 y] 38)).frozen? ⟨g', o, none⟩ = false := fun o => (bn.frozen (p := ⟨g', o, none⟩) zt).trans (kf o)
                clear hat RP RR VV BB el
                go_wp2_with fail
                generalize wt.alloc (.cells #[.int .i64 x, .int .i64 y] 38) = W5 at *
                clear o1 hc k0 k1 kf bn
                obtain ⟨q0, q1, _, _⟩ := id VP
                have S1 := RN.out W5 RB RPB
                have gq : W5.grownBy ((W5.setCell ⟨g', i * 2, none⟩ (.int .i64 (wrap64 (-y)))).setCell ⟨g', i * 2 + 1, none⟩ (.int .i64 x)) (some g') := grownBy_setCell (p := ⟨g', i * 2 + 1, none⟩) (grownBy_setCell (p := ⟨g', i * 2, none⟩) (grownBy_refl _ _) rfl _) rfl _
                have V5 := VB.grown gq (by omega)
                have B5 := (BB1.setCell (p := ⟨g', i * 2, none⟩) hg' (.int .i64 (wrap64 (-y)))).setCell (p := ⟨g', i * 2 + 1, none⟩) hg' (.int .i64 x)
                go_region
                go_wp2
                go_roundw
                case rel => exact ⟨i + 1, by omega, by go_num, S1.below (Below.refl _ _).drew, V5.below (Below.refl _ _).drew, B5.drew⟩
                case measure => simp [intOf]; omega
              · obtain rfl : i = L := by omega
                obtain ⟨g, c9, a', c', e, hv, hc, RP⟩ := RR.out.at' (i := r) (by rw [mixI_len]; exact hrX.out)
                injection e with e1 e2 e3
                subst e1
                rw [el] at hc
                have RN : Hid (ShR (w.heap.size + 2) wt (.slice (some ⟨g, 0, none⟩) rs.length vc) vs (mixR qn X (r + 1))) := by rw [← mixI_all qn hrX.out, hLr.out]; exact RR
                clear RR RP hv el e2 e3
                go_wp2
                go_roundw
                case rel => exact ⟨r + 1, by omega, by go_num, RN, VV, BB⟩
                case measure => simp [intOf]; omega
          · obtain rfl : r = rs.length := by omega
            have RN : Hid (ShR (w.heap.size + 2) ws (.slice va rs.length vc) vs (rs.map (·.map (rot (n0 - (m - 1)))))) := by rw [← XN.out, ← mixR_all, XL.out]; exact RR
            clear RR
            go_wp2
            go_roundw
            case rel => exact ⟨m - 1, by omega, by go_num, RN, VV, BB⟩
            case measure => simp [intOf]; omega
      · obtain rfl : m = 0 := by omega
        rw [Nat.sub_zero] at RR
        have BF : Below w.heap.size w wr := B.trans (BB.out.mono (Nat.le_add_right _ 2))
        have VR := V2.under BB.out (Nat.lt_succ_self _)
        have gq : wr.grownBy ((wr.setCell ⟨w.heap.size + 1, 0, none⟩ (.int .i64 k)).setCell ⟨w.heap.size + 1, 1, none⟩ (.slice va rs.length vc)) (some (w.heap.size + 1)) := grownBy_setCell (p := ⟨w.heap.size + 1, 1, none⟩) (grownBy_setCell (p := ⟨w.heap.size + 1, 0, none⟩) (grownBy_refl _ _) rfl _) rfl _
        have RS : Hid (ShR w.heap.size ((wr.setCell ⟨w.heap.size + 1, 0, none⟩ (.int .i64 k)).setCell ⟨w.heap.size + 1, 1, none⟩ (.slice va rs.length vc)) (.slice va rs.length vc) vs ts) := by rw [← HT.out]; exact (RR.out.drawn gq (by omega)).base (by omega)
        have E := Box2.chain BF VR (.int .i64 k) (.slice va rs.length vc)
        have Z := VR.put (.int .i64 k) (.slice va rs.length vc)
        obtain ⟨z0, z1, _, _⟩ := id Z
        obtain ⟨d0, d1, df, _⟩ := id VR
        obtain ⟨c0, c1, _, _⟩ := id VV.out
        clear RR BB gq
        go_wp2
        refine bodyPost_ret (v := .agg #[.int .i64 k, .slice va rs.length vc]) (by simp [results, Try.results6, go_sem, z0, z1]) rfl ?_
        exact ⟨_, vs, rfl, RS.out, E⟩
end Go.Proofs.Ythncjdmjpglliaa
