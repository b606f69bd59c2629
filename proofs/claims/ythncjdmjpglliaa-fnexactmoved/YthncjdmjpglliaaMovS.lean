/- The specification's Moved. -/
import Derived.Test.YthncjdmjpglliaaTrnS
import Derived.Test.YthncjdmjpglliaaMovI
namespace Go.Proofs.Ythncjdmjpglliaa
open Go.RowKit

theorem i64_w (n : Int) : IntKind.i64.wrap n = wrap64 n := by
  first | rfl | exact IntKind.wrap_i64 n | (rw [IntKind.wrap_i64]; rfl) | (rw [IntKind.wrap_i64]; unfold wrap64; rfl)
theorem rowA_mem {rs : List (List (Int × Int))} {r : Nat} (h : r < rs.length) : rowA rs r ∈ rs := by
  unfold rowA
  rw [List.getElem?_eq_getElem h]
  exact List.getElem_mem h
theorem okF_bad (f : Int × Int → Int × Int) {rs : List (List (Int × Int))} {r i : Nat} (hr : r < rs.length) (hi : i < (rowA rs r).length) (k : ptOk (f ((rowA rs r)[i]?.getD (0, 0))).1 (f ((rowA rs r)[i]?.getD (0, 0))).2 = false) : okL (rs.flatten.map f) = false := by
  unfold okL
  rw [List.all_eq_false]
  refine ⟨f ((rowA rs r)[i]'hi), List.mem_map_of_mem (List.mem_flatten.2 ⟨_, rowA_mem hr, List.getElem_mem hi⟩), ?_⟩
  rw [List.getElem?_eq_getElem hi] at k
  simpa using k
theorem okM_step (f : Int × Int → Int × Int) {ps : List (Int × Int)} {i : Nat} (hi : i < ps.length) (h : okL ((ps.take i).map f) = true) (k : ptOk (f (ps[i]?.getD (0, 0))).1 (f (ps[i]?.getD (0, 0))).2 = true) : okL ((ps.take (i + 1)).map f) = true := by
  rw [List.take_add_one, List.map_append]
  unfold okL at *
  rw [List.all_append, h]
  rw [List.getElem?_eq_getElem hi] at k ⊢
  simpa using k
theorem okR_step (f : Int × Int → Int × Int) {rs : List (List (Int × Int))} {r : Nat} (hr : r < rs.length) (h : okL ((rs.take r).flatten.map f) = true) (k : okL ((rowA rs r).map f) = true) : okL ((rs.take (r + 1)).flatten.map f) = true := by
  rw [rowA_take hr, List.flatten_append, List.map_append]
  unfold okL at *
  rw [List.all_append, h]
  simpa using k
theorem wrap_far {x b : Int} (hx : -10000000 ≤ x ∧ x ≤ 10000000) (hb : -9223372036854775808 ≤ b ∧ b ≤ 9223372036854775807) (h : inB b (-20000000) 20000000 = false) : inB (wrap64 (x + b)) (-10000000) 10000000 = false := by
  cases c : inB (wrap64 (x + b)) (-10000000) 10000000
  · rfl
  · exfalso
    have c2 := inB_true.1 c
    have h2 : ¬ (-20000000 ≤ b ∧ b ≤ 20000000) := fun q => by rw [inB_true.2 q] at h; cases h
    unfold wrap64 at c2
    omega
/-- What is moved too far is out. -/
theorem mv_far {k bx bY : Int} {rs : List (List (Int × Int))} (g : goodB k rs = true) (hx : -9223372036854775808 ≤ bx ∧ bx ≤ 9223372036854775807) (hy : -9223372036854775808 ≤ bY ∧ bY ≤ 9223372036854775807) (h : inB bx (-20000000) 20000000 = false ∨ inB bY (-20000000) 20000000 = false) : okL (rs.flatten.map (mv bx bY)) = false := by
  have h0 := goodS_some g
  have h1 := ((goodS_rows g).2.2 0 h0).2.1
  refine okF_bad (mv bx bY) h0 h1 ?_
  have ok := goodS_ok g h0
  have hp : ptOk ((rowA rs 0)[0]?.getD (0, 0)).1 ((rowA rs 0)[0]?.getD (0, 0)).2 = true := by
    cases c : ptOk ((rowA rs 0)[0]?.getD (0, 0)).1 ((rowA rs 0)[0]?.getD (0, 0)).2
    · rw [okL_bad h1 c] at ok
      cases ok
    · rfl
  generalize (rowA rs 0)[0]?.getD (0, 0) = p at *
  unfold ptOk at hp ⊢
  rw [Bool.and_eq_true] at hp
  obtain ⟨p1, p2⟩ := hp
  unfold mv
  dsimp only
  rcases h with h | h
  · rw [wrap_far (inB_true.1 p1) hx h]
    rfl
  · rw [wrap_far (inB_true.1 p2) hy h, Bool.and_false]

set_option maxRecDepth 20000 in
set_option maxHeartbeats 1500000 in
theorem specMoved (k bx bY : Int) (a : Option Addr) (c : Nat) (rs : List (List (Int × Int))) (w : World) (h : SeesS w a c rs) (hm : Somes w a rs.length) (hs : upto rs rs.length ≤ 1048576) (hbx : -9223372036854775808 ≤ bx ∧ bx ≤ 9223372036854775807) (hbY : -9223372036854775808 ≤ bY ∧ bY ≤ 9223372036854775807) :
    Calls Try.prog 12 #[.agg #[.int .i64 k, .slice a rs.length c], .agg #[.int .i64 bx, .int .i64 bY]] w fun e w' => ∃ v vs, e = .returned (.tuple #[.agg #[.int .i64 k, v], .bool (mvOk k bx bY rs)]) ∧ ShR w.heap.size w' v vs (mvV k bx bY rs) ∧ Below w.heap.size w w' := by
  have B := below3 w (.cells #[.int .i64 k, .slice a rs.length c] 28) (.cells #[.int .i64 bx, .int .i64 bY] 38) (.cells #[.int .i64 0, .slice none 0 0] 28)
  have V1 := ((Box2.new w (lo := w.heap.size) (Nat.le_refl _) (.int .i64 k) (.slice a rs.length c) 28).below (below1 _ (.cells #[.int .i64 bx, .int .i64 bY] 38))).below (below1 _ (.cells #[.int .i64 0, .slice none 0 0] 28))
  have VQ := (Box2.new (w.alloc (.cells #[.int .i64 k, .slice a rs.length c] 28)) (lo := w.heap.size) (by simp) (.int .i64 bx) (.int .i64 bY) 38).below (below1 _ (.cells #[.int .i64 0, .slice none 0 0] 28))
  rw [World.size_alloc] at VQ
  have V2 := Box2.new ((w.alloc (.cells #[.int .i64 k, .slice a rs.length c] 28)).alloc (.cells #[.int .i64 bx, .int .i64 bY] 38)) (lo := w.heap.size) (by simp; omega) (.int .i64 0) (.slice none 0 0) 28
  rw [World.size_alloc, World.size_alloc] at V2
  have S := h.below B
  have M := hm.below B
  have HH : Hid (SeesS w a c rs) := h
  have HMs : Hid (Somes w a rs.length) := hm
  have HS : Hid (upto rs rs.length ≤ 1048576) := hs
  have zz : (((w.alloc (.cells #[.int .i64 k, .slice a rs.length c] 28)).alloc (.cells #[.int .i64 bx, .int .i64 bY] 38)).alloc (.cells #[.int .i64 0, .slice none 0 0] 28)).heap.size = w.heap.size + 3 := by simp
  obtain ⟨g, hg⟩ : ∃ g, Hid (goodB k rs = g) := ⟨_, rfl⟩
  obtain ⟨ts, ht⟩ : ∃ t, Hid (mvV k bx bY rs = t) := ⟨_, rfl⟩
  have HN : Hid (mvOk k bx bY rs = false → rs = ts) := fun e => by rw [← ht.out]; unfold mvV; rw [e]; rfl
  have HY : Hid (mvOk k bx bY rs = true → rs.map (·.map (mv bx bY)) = ts) := fun e => by rw [← ht.out]; unfold mvV; rw [e]; rfl
  have FAR : Hid (goodB k rs = true → inB bx (-20000000) 20000000 = false ∨ inB bY (-20000000) 20000000 = false → mvOk k bx bY rs = false) := fun e q => by unfold mvOk; rw [mv_far e hbx hbY q, Bool.and_false]
  rw [ht.out]
  have hrl : rs.length ≤ 1048576 := by have := upto_le rs 0 rs.length; simp only [upto, Nat.zero_add] at this; omega
  have hll : Hid (∀ i, i < rs.length → (rowA rs i).length ≤ 1048576) := fun i hi => by have := row_le rs hi; omega
  obtain ⟨c0, c1, _, _⟩ := id V1
  clear h hm hs hbx hbY
  go_enter Try.func12, Try.ntmps12
  go_wp2_with fail
  generalize ((w.alloc (.cells #[.int .i64 k, .slice a rs.length c] 28)).alloc (.cells #[.int .i64 bx, .int .i64 bY] 38)).alloc (.cells #[.int .i64 0, .slice none 0 0] 28) = W0 at *
  refine (l5CopyR k a c rs _ S M HS.out).mono ?_
  rintro e w1 ⟨v, vs, rfl, R, hb⟩
  obtain ⟨va, vc, rfl, vf, vm⟩ := R.shape
  have hvl := R.len.out
  rw [hvl] at R vf ⊢
  unfold maxLen at vm
  have bn := below1 w1 (.cells #[.int .i64 k, .slice va rs.length vc] 28)
  have V3 := Box2.new w1 (lo := w.heap.size) (by have := hb.size; omega) (.int .i64 k) (.slice va rs.length vc) 28
  have NB1 : Hid (∀ k, (Value.slice va rs.length vc).ownBlock = some k → k < w1.heap.size) := fun k hk => (R.lts.1 k hk).2
  have NB2 : Hid (∀ u ∈ vs, ∀ k, u.ownBlock = some k → k < w1.heap.size) := fun u hu k hk => (R.lts.2 u hu k hk).2
  have hz1 := hb.size
  rw [zz] at hz1 R
  replace hb := hb.trans (bn.mono hb.size)
  replace R := R.below bn
  replace B := B.trans (hb.mono B.size)
  replace V1 := V1.below hb
  replace VQ := VQ.below hb
  replace V2 := V2.below hb
  replace S := S.below hb
  replace M := M.below hb
  clear hb bn c0 c1 hvl
  obtain ⟨c0, c1, _, _⟩ := id V1
  go_wp2_with fail
  generalize w1.alloc (.cells #[.int .i64 k, .slice va rs.length vc] 28) = W2 at *
  generalize w1.heap.size = p6 at *
  refine (l5Good_any k a c rs _ S).mono ?_
  rintro e W3 ⟨rfl, hb⟩
  rw [hg.out]
  have BF := B.trans (hb.mono B.size)
  have VR := V2.below hb
  replace V1 := V1.below hb
  replace VQ := VQ.below hb
  replace V3 := V3.below hb
  replace R := R.below hb
  replace S := S.below hb
  replace M := M.below hb
  clear hb c0 c1 B V2
  obtain ⟨c0, c1, _, _⟩ := id V3
  cases g
  · have OV : Hid (mvOk k bx bY rs = false) := by show _ = _; unfold mvOk; rw [hg.out]; rfl
    have HT : Hid (rs = ts) := HN.out OV.out
    have gq : W3.grownBy ((W3.setCell ⟨w.heap.size + 2, 0, none⟩ (.int .i64 k)).setCell ⟨w.heap.size + 2, 1, none⟩ (.slice va rs.length vc)) (some (w.heap.size + 2)) := grownBy_setCell (p := ⟨w.heap.size + 2, 1, none⟩) (grownBy_setCell (p := ⟨w.heap.size + 2, 0, none⟩) (grownBy_refl _ _) rfl _) rfl _
    have RS : Hid (ShR w.heap.size ((W3.setCell ⟨w.heap.size + 2, 0, none⟩ (.int .i64 k)).setCell ⟨w.heap.size + 2, 1, none⟩ (.slice va rs.length vc)) (.slice va rs.length vc) vs ts) := by
      rw [← HT.out]
      exact (R.drawn gq (by omega)).base (by omega)
    have E := Box2.chain BF VR (.int .i64 k) (.slice va rs.length vc)
    have Z := VR.put (.int .i64 k) (.slice va rs.length vc)
    obtain ⟨z0, z1, _, _⟩ := id Z
    obtain ⟨d0, d1, df, _⟩ := id VR
    go_wp2
    refine bodyPost_ret (v := .tuple #[.agg #[.int .i64 k, (.slice va rs.length vc)], .bool false]) (by simp [results, Try.results12, go_sem, z0, z1]) rfl ?_
    exact ⟨_, vs, by rw [OV.out], RS.out, E⟩
  · obtain ⟨q0, q1, _, _⟩ := id VQ
    go_wp2_with fail
    refine (l1In_any _ _ _ _).mono ?_
    rintro e W4 ⟨rfl, rfl⟩
    cases i1 : inB bx (-20000000) 20000000
    · have OV : Hid (mvOk k bx bY rs = false) := FAR.out hg.out (.inl i1)
      have HT : Hid (rs = ts) := HN.out OV.out
      clear i1
      have gq : W4.grownBy ((W4.setCell ⟨w.heap.size + 2, 0, none⟩ (.int .i64 k)).setCell ⟨w.heap.size + 2, 1, none⟩ (.slice va rs.length vc)) (some (w.heap.size + 2)) := grownBy_setCell (p := ⟨w.heap.size + 2, 1, none⟩) (grownBy_setCell (p := ⟨w.heap.size + 2, 0, none⟩) (grownBy_refl _ _) rfl _) rfl _
      have RS : Hid (ShR w.heap.size ((W4.setCell ⟨w.heap.size + 2, 0, none⟩ (.int .i64 k)).setCell ⟨w.heap.size + 2, 1, none⟩ (.slice va rs.length vc)) (.slice va rs.length vc) vs ts) := by
        rw [← HT.out]
        exact (R.drawn gq (by omega)).base (by omega)
      have E := Box2.chain BF VR (.int .i64 k) (.slice va rs.length vc)
      have Z := VR.put (.int .i64 k) (.slice va rs.length vc)
      obtain ⟨z0, z1, _, _⟩ := id Z
      obtain ⟨d0, d1, df, _⟩ := id VR
      go_wp2
      refine bodyPost_ret (v := .tuple #[.agg #[.int .i64 k, (.slice va rs.length vc)], .bool false]) (by simp [results, Try.results12, go_sem, z0, z1]) rfl ?_
      exact ⟨_, vs, by rw [OV.out], RS.out, E⟩
    · clear i1
      go_wp2_with fail
      refine (l1In_any _ _ _ _).mono ?_
      rintro e W5 ⟨rfl, rfl⟩
      cases i2 : inB bY (-20000000) 20000000
      · have OV : Hid (mvOk k bx bY rs = false) := FAR.out hg.out (.inr i2)
        have HT : Hid (rs = ts) := HN.out OV.out
        clear i2
        have gq : W5.grownBy ((W5.setCell ⟨w.heap.size + 2, 0, none⟩ (.int .i64 k)).setCell ⟨w.heap.size + 2, 1, none⟩ (.slice va rs.length vc)) (some (w.heap.size + 2)) := grownBy_setCell (p := ⟨w.heap.size + 2, 1, none⟩) (grownBy_setCell (p := ⟨w.heap.size + 2, 0, none⟩) (grownBy_refl _ _) rfl _) rfl _
        have RS : Hid (ShR w.heap.size ((W5.setCell ⟨w.heap.size + 2, 0, none⟩ (.int .i64 k)).setCell ⟨w.heap.size + 2, 1, none⟩ (.slice va rs.length vc)) (.slice va rs.length vc) vs ts) := by
          rw [← HT.out]
          exact (R.drawn gq (by omega)).base (by omega)
        have E := Box2.chain BF VR (.int .i64 k) (.slice va rs.length vc)
        have Z := VR.put (.int .i64 k) (.slice va rs.length vc)
        obtain ⟨z0, z1, _, _⟩ := id Z
        obtain ⟨d0, d1, df, _⟩ := id VR
        go_wp2
        refine bodyPost_ret (v := .tuple #[.agg #[.int .i64 k, (.slice va rs.length vc)], .bool false]) (by simp [results, Try.results12, go_sem, z0, z1]) rfl ?_
        exact ⟨_, vs, by rw [OV.out], RS.out, E⟩
      · clear i2 c0 c1 q0 q1 FAR
        have R0 : Hid (ShR (w.heap.size + 3) W5 (.slice va rs.length vc) vs (mixR (mv bx bY) rs 0)) := by rw [mixR_zero]; exact R
        have OK0 : Hid (okL ((rs.take 0).flatten.map (mv bx bY)) = true) := by show _ = _; simp [okL]
        clear R
        go_wp2
        go_loopw [7] (fun s7 ws => ∃ r : Nat, r ≤ rs.length ∧ s7 = .int .i64 r ∧ Hid (ShR (w.heap.size + 3) ws (.slice va rs.length vc) vs (mixR (mv bx bY) rs r)) ∧ Hid (okL ((rs.take r).flatten.map (mv bx bY)) = true) ∧ Hid (Box2 w.heap.size ws p6 (.int .i64 k) (.slice va rs.length vc)) ∧ Hid (Below (w.heap.size + 3) W5 ws)) (fun s7 _ => rs.length - (intOf s7).toNat)
        case atStart => exact ⟨0, Nat.zero_le _, rfl, R0, OK0, V3, Below.refl _ _⟩
        case round =>
          clear R0 OK0 V3
          obtain ⟨r, hr, rfl, RR, OK, VV, BB⟩ := hrel
          rename World => ws
          have o1 := VV.out.c1
          by_cases hlr : r < rs.length
          · have RR0 : Hid (ShR (w.heap.size + 3) ws (.slice va rs.length vc) vs (mixI (mv bx bY) rs r 0)) := by rw [mixI_zero (mv bx bY) hlr]; exact RR
            have OKI : Hid (okL (((rowA rs r).take 0).map (mv bx bY)) = true) := by show _ = _; simp [okL]
            have hrw := hll.out r hlr
            obtain ⟨L, hLr⟩ : ∃ L, Hid ((rowA rs r).length = L) := ⟨_, rfl⟩
            rw [hLr.out] at hrw
            clear RR
            go_wp2
            go_loopw [8] (fun s8 wt => ∃ i : Nat, i ≤ L ∧ s8 = .int .i64 i ∧ Hid (ShR (w.heap.size + 3) wt (.slice va rs.length vc) vs (mixI (mv bx bY) rs r i)) ∧ Hid (okL (((rowA rs r).take i).map (mv bx bY)) = true) ∧ Hid (Box2 w.heap.size wt p6 (.int .i64 k) (.slice va rs.length vc)) ∧ Hid (Below (w.heap.size + 3) W5 wt)) (fun s8 _ => L - (intOf s8).toNat)
            case atStart => exact ⟨0, Nat.zero_le _, rfl, RR0, OKI, VV, BB⟩
            case round =>
              clear RR0 VV BB o1 OKI
              obtain ⟨i, hi, rfl, RR, OKI, VV, BB⟩ := hrel
              rename World => wt
              have o1 := VV.out.c1
              have el : (rowA (mixI (mv bx bY) rs r i) r).length = L := by rw [mixI_row (mv bx bY) hlr, mixP_len, hLr.out]
              by_cases hli : i < L
              · have hiX : Hid (i < (rowA rs r).length) := by show _ < _; rw [hLr.out]; exact hli
                obtain ⟨g, g', c', e, hv, hc, RP, ne, f1, f2⟩ := RR.out.at2 (r := r) (i := i) (by rw [mixI_len]; exact hlr) (by rw [el]; exact hli)
                subst e
                rw [el] at hv hc RP f1
                unfold maxLen at f2
                obtain ⟨k0, k1, kf⟩ := RP.cellsAt (i := i) (by rw [el]; exact hli)
                have hg' : w.heap.size + 3 ≤ g' := (World.ownsRow.lt RP g' rfl).1
                have hg5 : g' < p6 := NB2.out _ (List.mem_of_getElem? hv) g' rfl
                have hat : (rowA (mixI (mv bx bY) rs r i) r)[i]?.getD (0, 0) = (rowA rs r)[i]?.getD (0, 0) := by rw [mixI_row (mv bx bY) hlr, mixP_at (mv bx bY) hiX.out]
                rw [hat] at k0 k1
                obtain ⟨x, hx⟩ : ∃ x, Hid (((rowA rs r)[i]?.getD (0, 0)).1 = x) := ⟨_, rfl⟩
                obtain ⟨y, hy⟩ : ∃ y, Hid (((rowA rs r)[i]?.getD (0, 0)).2 = y) := ⟨_, rfl⟩
                obtain ⟨u, hu⟩ : ∃ u, Hid (wrap64 (x + bx) = u) := ⟨_, rfl⟩
                obtain ⟨z, hz⟩ : ∃ u, Hid (wrap64 (y + bY) = u) := ⟨_, rfl⟩
                have hf : Hid (mv bx bY ((rowA rs r)[i]?.getD (0, 0)) = (u, z)) := by show _ = _; unfold mv; rw [hx.out, hy.out, hu.out, hz.out]
                have RN : Hid (∀ W, ShR (w.heap.size + 3) W (.slice (some ⟨g, 0, none⟩) rs.length vc) vs (mixI (mv bx bY) rs r i) → RowPt (w.heap.size + 3) W (.slice (some ⟨g', 0, none⟩) L c') (rowA (mixI (mv bx bY) rs r i) r) → ShR (w.heap.size + 3) ((W.setCell ⟨g', i * 2, none⟩ (.int .i64 u)).setCell ⟨g', i * 2 + 1, none⟩ (.int .i64 z)) (.slice (some ⟨g, 0, none⟩) rs.length vc) vs (mixI (mv bx bY) rs r (i + 1))) := fun W h1 h2 => by
                  have := h1.store (by rw [mixI_len]; exact hlr) hv h2 i u z
                  rwa [← hf.out, mixI_step (mv bx bY) hlr hiX.out] at this
                rw [hx.out] at k0
                rw [hy.out] at k1
                have zt : g' < wt.heap.size := (World.ownsRow.lt RP g' rfl).2
                have VQt := VQ.under BB.out (by omega)
                obtain ⟨y0, y1, _, _⟩ := id VQt
                have EL : Hid ((rowA (mixI (mv bx bY) rs r i) r).length = L) := el
                clear hat el
                go_wp2_with fail
                have bd := ((Below.refl wt.heap.size wt).drew : Below wt.heap.size wt _)
                have N : wt.drew.cell? ⟨p6, 1, none⟩ = some (.slice (some ⟨g, 0, none⟩) rs.length vc) ∧ wt.drew.cell? ⟨g, r, none⟩ = some (.slice (some ⟨g', 0, none⟩) L c') ∧ wt.drew.cell? ⟨g', i * 2, none⟩ = some (.int .i64 x) ∧ wt.drew.cell? ⟨g', i * 2 + 1, none⟩ = some (.int .i64 y) ∧ wt.drew.cell? ⟨w.heap.size + 1, 0, none⟩ = some (.int .i64 bx) ∧ wt.drew.cell? ⟨w.heap.size + 1, 1, none⟩ = some (.int .i64 bY) := ⟨o1, hc, k0, k1, y0, y1⟩
                have RB := RR.out.below bd
                have RPB := RP.below bd
                have VB := VV.out.below bd
                have BB1 := BB.out.drew
                have zt2 := VB.lt
                have zt3 : wt.drew.heap.size = wt.heap.size := rfl
                clear bd o1 hc k0 k1 kf y0 y1 VQt RR RP VV BB
                refine wp_region_held_drew (S := fun W => W.cell? ⟨p6, 1, none⟩ = some (.slice (some ⟨g, 0, none⟩) rs.length vc) ∧ W.cell? ⟨g, r, none⟩ = some (.slice (some ⟨g', 0, none⟩) L c') ∧ W.cell? ⟨g', i * 2, none⟩ = some (.int .i64 x) ∧ W.cell? ⟨g', i * 2 + 1, none⟩ = some (.int .i64 y) ∧ W.cell? ⟨w.heap.size + 1, 0, none⟩ = some (.int .i64 bx) ∧ W.cell? ⟨w.heap.size + 1, 1, none⟩ = some (.int .i64 bY)) (by kernel_rfl) N (fun hHeld => ?_)
                clear hHeld
                revert N RB RPB VB BB1 zt2 zt3
                generalize wt.drew = ww0
                intro N RB RPB VB BB1 zt2 zt3
                have gl : g < ww0.heap.size := World.block_lt_of_cell? ww0 ⟨g, r, none⟩ N.2.1
                refine takeW (i := 0) (by simp only [List.getElem?_toArray, List.getElem?_cons_zero]; exact rfl) (by kernel_rfl) (by kernel_rfl) (by kernel_rfl) (by exact fun _ _ _ h => h) (by rfl) (by intro wq hSw; go_simp <;> with_reducible rfl) (by assumption) ?_
                try simp only [Act.put, List.setIfInBounds_toArray, List.set_cons_zero, List.set_cons_succ]
                refine takeW (i := 1) (by simp only [List.getElem?_toArray, List.getElem?_cons_succ, List.getElem?_cons_zero]; exact rfl) (by kernel_rfl) (by kernel_rfl) (by kernel_rfl) (by exact fun _ _ _ h => h) (by rfl) (by intro wq hSw; obtain ⟨p1, p2, p3, p4, p5, p6⟩ := hSw; go_simp <;> with_reducible rfl) (by assumption) ?_
                try simp only [Act.put, List.setIfInBounds_toArray, List.set_cons_zero, List.set_cons_succ]
                refine takeW (i := 2) (by simp only [List.getElem?_toArray, List.getElem?_cons_succ, List.getElem?_cons_zero]; exact rfl) (by kernel_rfl) (by kernel_rfl) (by kernel_rfl) (by exact fun _ _ _ h => h) (by rfl) (by intro wq hSw; go_simp <;> with_reducible rfl) (by assumption) ?_
                try simp only [Act.put, List.setIfInBounds_toArray, List.set_cons_zero, List.set_cons_succ]
                refine takeW (i := 3) (by simp only [List.getElem?_toArray, List.getElem?_cons_succ, List.getElem?_cons_zero]; exact rfl) (by kernel_rfl) (by kernel_rfl) (by kernel_rfl) (by exact fun _ _ _ h => h) (by rfl) (by intro wq hSw; go_simp <;> with_reducible rfl) (by assumption) ?_
                try simp only [Act.put, List.setIfInBounds_toArray, List.set_cons_zero, List.set_cons_succ]
                refine takeW (i := 4) (by simp only [List.getElem?_toArray, List.getElem?_cons_succ, List.getElem?_cons_zero]; exact rfl) (by kernel_rfl) (by kernel_rfl) (by kernel_rfl) (by exact fun _ _ _ h => h) (by rfl) (by intro wq hSw; obtain ⟨p1, p2, p3, p4, p5, p6⟩ := hSw; go_simp <;> with_reducible rfl) (by assumption) ?_
                try simp only [Act.put, List.setIfInBounds_toArray, List.set_cons_zero, List.set_cons_succ]
                refine takeW (i := 5) (by simp only [List.getElem?_toArray, List.getElem?_cons_succ, List.getElem?_cons_zero]; exact rfl) (by kernel_rfl) (by kernel_rfl) (by kernel_rfl) (by exact fun _ _ _ h => h) (by rfl) (by intro wq hSw; go_simp <;> with_reducible rfl) (by assumption) ?_
                try simp only [Act.put, List.setIfInBounds_toArray, List.set_cons_zero, List.set_cons_succ]
                refine takeW (i := 6) (by simp only [List.getElem?_toArray, List.getElem?_cons_succ, List.getElem?_cons_zero]; exact rfl) (by kernel_rfl) (by kernel_rfl) (by kernel_rfl) (by exact fun _ _ _ h => h) (by rfl) (by intro wq hSw; go_simp <;> with_reducible rfl) (by assumption) ?_
                try simp only [Act.put, List.setIfInBounds_toArray, List.set_cons_zero, List.set_cons_succ]
                refine takeW (i := 7) (by simp only [List.getElem?_toArray, List.getElem?_cons_succ, List.getElem?_cons_zero]; exact rfl) (by kernel_rfl) (by kernel_rfl) (by kernel_rfl) (by exact fun _ _ _ h => h) (by rfl) (by intro wq hSw; go_simp <;> with_reducible rfl) (by assumption) ?_
                try simp only [Act.put, List.setIfInBounds_toArray, List.set_cons_zero, List.set_cons_succ]
                refine takeW (i := 8) (by simp only [List.getElem?_toArray, List.getElem?_cons_succ, List.getElem?_cons_zero]; exact rfl) (by kernel_rfl) (by kernel_rfl) (by kernel_rfl) (by exact fun _ _ _ h => h) (by rfl) (by intro wq hSw; obtain ⟨p1, p2, p3, p4, p5, p6⟩ := hSw; go_simp <;> with_reducible rfl) (by assumption) ?_
                try simp only [Act.put, List.setIfInBounds_toArray, List.set_cons_zero, List.set_cons_succ]
                refine takeW (i := 9) (by simp only [List.getElem?_toArray, List.getElem?_cons_succ, List.getElem?_cons_zero]; exact rfl) (by kernel_rfl) (by kernel_rfl) (by kernel_rfl) (by exact fun _ _ _ h => h) (by rfl) (by intro wq hSw; go_simp <;> with_reducible rfl) (by assumption) ?_
                try simp only [Act.put, List.setIfInBounds_toArray, List.set_cons_zero, List.set_cons_succ]
                refine takeW (i := 10) (by simp only [List.getElem?_toArray, List.getElem?_cons_succ, List.getElem?_cons_zero]; exact rfl) (by kernel_rfl) (by kernel_rfl) (by kernel_rfl) (by exact fun _ _ _ h => h) (by rfl) (by intro wq hSw; obtain ⟨p1, p2, p3, p4, p5, p6⟩ := hSw; go_simp <;> with_reducible rfl) (by assumption) ?_
                try simp only [Act.put, List.setIfInBounds_toArray, List.set_cons_zero, List.set_cons_succ]
                refine takeW (i := 11) (by simp only [List.getElem?_toArray, List.getElem?_cons_succ, List.getElem?_cons_zero]; exact rfl) (by kernel_rfl) (by kernel_rfl) (by kernel_rfl) (by exact fun _ _ _ h => h) (by rfl) (by intro wq hSw; go_simp <;> with_reducible rfl) (by assumption) ?_
                try simp only [Act.put, List.setIfInBounds_toArray, List.set_cons_zero, List.set_cons_succ]
                refine takeW (i := 12) (by simp only [List.getElem?_toArray, List.getElem?_cons_succ, List.getElem?_cons_zero]; exact rfl) (by kernel_rfl) (by kernel_rfl) (by kernel_rfl) (by exact fun _ _ _ h => h) (by rfl) (by intro wq hSw; go_simp <;> with_reducible rfl) (by assumption) ?_
                try simp only [Act.put, List.setIfInBounds_toArray, List.set_cons_zero, List.set_cons_succ]
                refine takeW (i := 13) (by simp only [List.getElem?_toArray, List.getElem?_cons_succ, List.getElem?_cons_zero]; exact rfl) (by kernel_rfl) (by kernel_rfl) (by kernel_rfl) (by exact fun _ _ _ h => h) (by rfl) (by intro wq hSw; obtain ⟨p1, p2, p3, p4, p5, p6⟩ := hSw; go_simp <;> with_reducible rfl) (by assumption) ?_
                try simp only [Act.put, List.setIfInBounds_toArray, List.set_cons_zero, List.set_cons_succ]
                refine takeW (i := 14) (by simp only [List.getElem?_toArray, List.getElem?_cons_succ, List.getElem?_cons_zero]; exact rfl) (by kernel_rfl) (by kernel_rfl) (by kernel_rfl) (by exact fun _ _ _ h => h) (by rfl) (by intro wq hSw; go_simp <;> with_reducible rfl) (by assumption) ?_
                try simp only [Act.put, List.setIfInBounds_toArray, List.set_cons_zero, List.set_cons_succ]
                refine takeW (i := 15) (by simp only [List.getElem?_toArray, List.getElem?_cons_succ, List.getElem?_cons_zero]; exact rfl) (by kernel_rfl) (by kernel_rfl) (by kernel_rfl) (by exact fun _ _ _ h => h) (by rfl) (by intro wq hSw; go_simp <;> with_reducible rfl) (by assumption) ?_
                try simp only [Act.put, List.setIfInBounds_toArray, List.set_cons_zero, List.set_cons_succ]
                refine takeW (i := 16) (by simp only [List.getElem?_toArray, List.getElem?_cons_succ, List.getElem?_cons_zero]; exact rfl) (by kernel_rfl) (by kernel_rfl) (by kernel_rfl) (by exact fun _ _ _ h => h) (by rfl) (by intro wq hSw; obtain ⟨p1, p2, p3, p4, p5, p6⟩ := hSw; go_simp <;> with_reducible rfl) (by assumption) ?_
                try simp only [Act.put, List.setIfInBounds_toArray, List.set_cons_zero, List.set_cons_succ]
                refine takeW (i := 17) (by simp only [List.getElem?_toArray, List.getElem?_cons_succ, List.getElem?_cons_zero]; exact rfl) (by kernel_rfl) (by kernel_rfl) (by kernel_rfl) (by exact fun _ _ _ h => h) (by rfl) (by intro wq hSw; go_simp <;> with_reducible rfl) (by assumption) ?_
                try simp only [Act.put, List.setIfInBounds_toArray, List.set_cons_zero, List.set_cons_succ]
                refine takeW (i := 18) (by simp only [List.getElem?_toArray, List.getElem?_cons_succ, List.getElem?_cons_zero]; exact rfl) (by kernel_rfl) (by kernel_rfl) (by kernel_rfl) (by exact fun _ _ _ h => h) (by rfl) (by intro wq hSw; go_simp <;> with_reducible rfl) (by assumption) ?_
                try simp only [Act.put, List.setIfInBounds_toArray, List.set_cons_zero, List.set_cons_succ]
                refine takeW (i := 19) (by simp only [List.getElem?_toArray, List.getElem?_cons_succ, List.getElem?_cons_zero]; exact rfl) (by kernel_rfl) (by kernel_rfl) (by kernel_rfl) (by exact fun _ _ _ h => h) (by rfl) (by intro wq hSw; go_simp <;> with_reducible rfl) (by assumption) ?_
                try simp only [Act.put, List.setIfInBounds_toArray, List.set_cons_zero, List.set_cons_succ]
                refine takeW (i := 20) (by simp only [List.getElem?_toArray, List.getElem?_cons_succ, List.getElem?_cons_zero]; exact rfl) (by kernel_rfl) (by kernel_rfl) (by kernel_rfl) (by exact fun _ _ _ h => h) (by rfl) (by intro wq hSw; obtain ⟨p1, p2, p3, p4, p5, p6⟩ := hSw; go_simp <;> with_reducible rfl) (by assumption) ?_
                try simp only [Act.put, List.setIfInBounds_toArray, List.set_cons_zero, List.set_cons_succ]
                refine takeW (i := 21) (by simp only [List.getElem?_toArray, List.getElem?_cons_succ, List.getElem?_cons_zero]; exact rfl) (by kernel_rfl) (by kernel_rfl) (by kernel_rfl) (by exact fun _ _ _ h => h) (by rfl) (by intro wq hSw; go_simp <;> with_reducible rfl) (by assumption) ?_
                try simp only [Act.put, List.setIfInBounds_toArray, List.set_cons_zero, List.set_cons_succ]
                refine takeW (i := 22) (by simp only [List.getElem?_toArray, List.getElem?_cons_succ, List.getElem?_cons_zero]; exact rfl) (by kernel_rfl) (by kernel_rfl) (by kernel_rfl) (by exact fun _ _ _ h => h) (by rfl) (by intro wq hSw; obtain ⟨p1, p2, p3, p4, p5, p6⟩ := hSw; go_simp <;> with_reducible rfl) (by assumption) ?_
                try simp only [Act.put, List.setIfInBounds_toArray, List.set_cons_zero, List.set_cons_succ]
                refine takeW (i := 23) (by simp only [List.getElem?_toArray, List.getElem?_cons_succ, List.getElem?_cons_zero]; exact rfl) (by kernel_rfl) (by kernel_rfl) (by kernel_rfl) (by exact fun _ _ _ h => h) (by rfl) (by intro wq hSw; go_simp <;> with_reducible rfl) (by assumption) ?_
                try simp only [Act.put, List.setIfInBounds_toArray, List.set_cons_zero, List.set_cons_succ]
                refine takeW (i := 24) (by simp only [List.getElem?_toArray, List.getElem?_cons_succ, List.getElem?_cons_zero]; exact rfl) (by kernel_rfl) (by kernel_rfl) (by kernel_rfl) (by exact fun _ _ _ h => h) (by rfl) (by intro wq hSw; go_simp <;> with_reducible rfl) (by assumption) ?_
                try simp only [Act.put, List.setIfInBounds_toArray, List.set_cons_zero, List.set_cons_succ]
                refine wpAnyH_ready (rs := [25]) (by kernel_rfl) (by simp) (AllReadyH.cons (by simp only [List.getElem?_toArray, List.getElem?_cons_succ, List.getElem?_cons_zero]; exact rfl) (fun K hK => ?_) AllReadyH.nil)
                go_simp
                have bn0 := below1 ww0 (.cells #[.int .i64 0, .int .i64 0] 38)
                have VP := Box2.new ww0 (lo := w.heap.size) (by have := VB.lo; omega) (.int .i64 0) (.int .i64 0) 38
                have N1 : _ ∧ _ ∧ _ ∧ _ ∧ _ ∧ _ := ⟨bat bn0 N.1, bat bn0 N.2.1, bat bn0 N.2.2.1, bat bn0 N.2.2.2.1, bat bn0 N.2.2.2.2.1, bat bn0 N.2.2.2.2.2⟩
                replace RB := RB.below bn0
                replace RPB := RPB.below bn0
                replace VB := VB.below bn0
                replace BB1 := BB1.trans (bn0.mono (by omega))
                have zx := bn0.size
                refine hK.out _ _ N1 (fun hHeld => ?_)
                clear hK K hHeld bn0 N
                try simp only [Act.put, List.setIfInBounds_toArray, List.set_cons_zero, List.set_cons_succ]
                generalize ww0.alloc (.cells #[.int .i64 0, .int .i64 0] 38) = ww1 at *
                rw [zt3] at VP zx gl zt2
                refine wpAnyH_ready (rs := [26]) (by kernel_rfl) (by simp) (AllReadyH.cons (by simp only [List.getElem?_toArray, List.getElem?_cons_succ, List.getElem?_cons_zero]; exact rfl) (fun K hK => ?_) AllReadyH.nil)
                have y0 := VP.c0
                have y1 := VP.c1
                have yf := VP.fr
                go_simp
                have eu : IntKind.i64.wrap (x + bx) = u := (i64_w _).trans hu.out
                have ez : IntKind.i64.wrap (y + bY) = z := (i64_w _).trans hz.out
                rw [eu, ez]
                have gq : ww1.grownBy ((ww1.setCell ⟨wt.heap.size, 0, none⟩ (.int .i64 u)).setCell ⟨wt.heap.size, 1, none⟩ (.int .i64 z)) (some wt.heap.size) := grownBy_setCell (p := ⟨wt.heap.size, 1, none⟩) (grownBy_setCell (p := ⟨wt.heap.size, 0, none⟩) (grownBy_refl _ _) rfl _) rfl _
                have N2 : _ ∧ _ ∧ _ ∧ _ ∧ _ ∧ _ := ⟨cell_drawn gq N1.1 (by omega), cell_drawn gq N1.2.1 (by omega), cell_drawn gq N1.2.2.1 (by omega), cell_drawn gq N1.2.2.2.1 (by omega), cell_drawn gq N1.2.2.2.2.1 (by omega), cell_drawn gq N1.2.2.2.2.2 (by omega)⟩
                replace VP := VP.put (.int .i64 u) (.int .i64 z)
                replace RB := RB.kept gq (fun k hk e => by have := NB1.out k hk; injection e with e; omega) (fun u hu k hk e => by have := NB2.out u hu k hk; injection e with e; omega)
                replace RPB := owns_kept RPB gq (fun k hk e => by simp only [Value.ownBlock, Option.some.injEq] at hk e; omega)
                replace VB := VB.grown gq (by omega)
                replace BB1 := (BB1.setCell (p := ⟨wt.heap.size, 0, none⟩) (by dsimp only; omega) (.int .i64 u)).setCell (p := ⟨wt.heap.size, 1, none⟩) (by dsimp only; omega) (.int .i64 z)
                have zy := gq.size
                refine hK.out _ _ N2 (fun hHeld => ?_)
                clear hK K hHeld gq N1 y0 y1 yf
                try simp only [Act.put, List.setIfInBounds_toArray, List.set_cons_zero, List.set_cons_succ]
                refine wpAnyH_done (by kernel_rfl) ?_ _
                generalize (ww1.setCell ⟨wt.heap.size, 0, none⟩ (.int .i64 u)).setCell ⟨wt.heap.size, 1, none⟩ (.int .i64 z) = X5 at *
                obtain ⟨o1, hc, k0, k1, _, _⟩ := id N2
                obtain ⟨p0, p1, _, _⟩ := id VP
                go_wp2_with fail
                refine (specPtOk u z _).mono ?_
                rintro e W6 ⟨rfl, hb⟩
                replace BB1 := BB1.trans (hb.mono (by omega))
                replace RB := RB.below hb
                replace RPB : RowPt _ _ _ _ := owns_below RPB hb
                replace VB := VB.below hb
                replace VP := VP.below hb
                replace o1 := bat hb o1
                replace hc := bat hb hc
                replace k0 := bat hb k0
                replace k1 := bat hb k1
                have zw := hb.size
                clear hb p0 p1 N2
                cases ok : ptOk u z
                · have OV : Hid (mvOk k bx bY rs = false) := by
                    show _ = _
                    unfold mvOk
                    rw [okF_bad (mv bx bY) hlr hiX.out (by rw [hf.out]; exact ok), Bool.and_false]
                  have HT : Hid (rs = ts) := HN.out OV.out
                  have V1t := V1.under BB1 (by omega)
                  obtain ⟨c0, c1, _, _⟩ := id V1t
                  have BW6 := BF.trans (BB1.mono (Nat.le_add_right _ 3))
                  have S6 := HH.out.below BW6
                  have M6 := HMs.out.below BW6
                  have VR6 := VR.under BB1 (by omega)
                  clear ok o1 hc k0 k1 RB RPB VB VP BB1
                  go_wp2_with fail
                  refine (l5CopyR k a c rs _ S6 M6 HS.out).mono ?_
                  rintro e w7 ⟨v7, vs7, rfl, R7, hb⟩
                  obtain ⟨va7, vc7, rfl, _, _⟩ := R7.shape
                  have BF := BW6.trans (hb.mono BW6.size)
                  have VR := VR6.below hb
                  clear hb c0 c1 V1t S6 M6 BW6 VR6
                  have gq : w7.grownBy ((w7.setCell ⟨w.heap.size + 2, 0, none⟩ (.int .i64 k)).setCell ⟨w.heap.size + 2, 1, none⟩ (.slice va7 vs7.length vc7)) (some (w.heap.size + 2)) := grownBy_setCell (p := ⟨w.heap.size + 2, 1, none⟩) (grownBy_setCell (p := ⟨w.heap.size + 2, 0, none⟩) (grownBy_refl _ _) rfl _) rfl _
                  have RS : Hid (ShR w.heap.size ((w7.setCell ⟨w.heap.size + 2, 0, none⟩ (.int .i64 k)).setCell ⟨w.heap.size + 2, 1, none⟩ (.slice va7 vs7.length vc7)) (.slice va7 vs7.length vc7) vs7 ts) := by
                    rw [← HT.out]
                    exact (R7.drawn gq (by omega)).base (by omega)
                  have E := Box2.chain BF VR (.int .i64 k) (.slice va7 vs7.length vc7)
                  have Z := VR.put (.int .i64 k) (.slice va7 vs7.length vc7)
                  obtain ⟨z0, z1, _, _⟩ := id Z
                  obtain ⟨d0, d1, df, _⟩ := id VR
                  go_wp2
                  refine bodyPost_ret (v := .tuple #[.agg #[.int .i64 k, (.slice va7 vs7.length vc7)], .bool false]) (by simp [results, Try.results12, go_sem, z0, z1]) rfl ?_
                  exact ⟨_, vs7, by rw [OV.out], RS.out, E⟩
                · have OKN : Hid (okL (((rowA rs r).take (i + 1)).map (mv bx bY)) = true) := okM_step (mv bx bY) hiX.out OKI.out (by rw [hf.out]; exact ok)
                  obtain ⟨_, _, kf⟩ := RowPt.cellsAt RPB (i := i) (by rw [EL.out]; exact hli)
                  obtain ⟨q0, q1, _, _⟩ := id VP
                  have S1 := RN.out W6 RB RPB
                  have gq : W6.grownBy ((W6.setCell ⟨g', i * 2, none⟩ (.int .i64 u)).setCell ⟨g', i * 2 + 1, none⟩ (.int .i64 z)) (some g') := grownBy_setCell (p := ⟨g', i * 2 + 1, none⟩) (grownBy_setCell (p := ⟨g', i * 2, none⟩) (grownBy_refl _ _) rfl _) rfl _
                  have V5 := VB.grown gq (by omega)
                  have B5 := (BB1.setCell (p := ⟨g', i * 2, none⟩) hg' (.int .i64 u)).setCell (p := ⟨g', i * 2 + 1, none⟩) hg' (.int .i64 z)
                  clear ok RB RPB VB VP BB1 gq
                  go_wp2_with fail
                  go_region
                  go_wp2
                  go_roundw
                  case rel => exact ⟨i + 1, by omega, by go_num, S1.below (Below.refl _ _).drew, OKN, V5.below (Below.refl _ _).drew, B5.drew⟩
                  case measure => simp [intOf]; omega
              · obtain rfl : i = L := by omega
                obtain ⟨g, c9, a', c', e, hv, hc, RP⟩ := RR.out.at' (i := r) (by rw [mixI_len]; exact hlr)
                injection e with e1 e2 e3
                subst e1
                rw [el] at hc
                have RN : Hid (ShR (w.heap.size + 3) wt (.slice (some ⟨g, 0, none⟩) rs.length vc) vs (mixR (mv bx bY) rs (r + 1))) := by rw [← mixI_all (mv bx bY) hlr, hLr.out]; exact RR
                have OKN : Hid (okL ((rs.take (r + 1)).flatten.map (mv bx bY)) = true) := okR_step (mv bx bY) hlr OK.out (by have := OKI.out; rwa [← hLr.out, List.take_length] at this)
                clear RR RP hv el e2 e3 OKI
                go_wp2
                go_roundw
                case rel => exact ⟨r + 1, by omega, by go_num, RN, OKN, VV, BB⟩
                case measure => simp [intOf]; omega
          · obtain rfl : r = rs.length := by omega
            have OV : Hid (mvOk k bx bY rs = true) := by
              have := OK.out
              rw [List.take_length] at this
              show _ = _
              unfold mvOk
              rw [hg.out, this]
              rfl
            have HT : Hid (rs.map (·.map (mv bx bY)) = ts) := HY.out OV.out
            have R9 : ShR (w.heap.size + 3) ws (.slice va rs.length vc) vs (rs.map (·.map (mv bx bY))) := by rw [← mixR_all]; exact RR.out
            replace BF := BF.trans (BB.out.mono (Nat.le_add_right _ 3))
            replace VR := VR.under BB.out (by omega)
            obtain ⟨c0, c1, _, _⟩ := id VV.out
            clear RR BB o1
            have gq : ws.grownBy ((ws.setCell ⟨w.heap.size + 2, 0, none⟩ (.int .i64 k)).setCell ⟨w.heap.size + 2, 1, none⟩ (.slice va rs.length vc)) (some (w.heap.size + 2)) := grownBy_setCell (p := ⟨w.heap.size + 2, 1, none⟩) (grownBy_setCell (p := ⟨w.heap.size + 2, 0, none⟩) (grownBy_refl _ _) rfl _) rfl _
            have RS : Hid (ShR w.heap.size ((ws.setCell ⟨w.heap.size + 2, 0, none⟩ (.int .i64 k)).setCell ⟨w.heap.size + 2, 1, none⟩ (.slice va rs.length vc)) (.slice va rs.length vc) vs ts) := by
              rw [← HT.out]
              exact (R9.drawn gq (by omega)).base (by omega)
            have E := Box2.chain BF VR (.int .i64 k) (.slice va rs.length vc)
            have Z := VR.put (.int .i64 k) (.slice va rs.length vc)
            obtain ⟨z0, z1, _, _⟩ := id Z
            obtain ⟨d0, d1, df, _⟩ := id VR
            go_wp2
            refine bodyPost_ret (v := .tuple #[.agg #[.int .i64 k, (.slice va rs.length vc)], .bool true]) (by simp [results, Try.results12, go_sem, z0, z1]) rfl ?_
            exact ⟨_, vs, by rw [OV.out], RS.out, E⟩
end Go.Proofs.Ythncjdmjpglliaa
