/- The program's shapes with another point in place of each one: changed, copied; a quarter's turns. -/
import Derived.Test.YtakfjpenpnjlhaaShR
import Derived.Test.YtakfjpenpnjlhaaChgW
namespace Go.Proofs.Ytakfjpenpnjlhaa
open Go.RowKit

theorem rowA_map (f : Int × Int → Int × Int) (rs : List (List (Int × Int))) (i : Nat) : rowA (rs.map (·.map f)) i = (rowA rs i).map f := by
  unfold rowA
  rw [List.getElem?_map]
  cases rs[i]? <;> rfl
theorem take_map_snoc (f : Int × Int → Int × Int) {ps : List (Int × Int)} {i : Nat} (h : i < ps.length) {x y u v : Int} (hx : (ps[i]?.getD (0, 0)).1 = x) (hy : (ps[i]?.getD (0, 0)).2 = y) (hu : (f (x, y)).1 = u) (hv : (f (x, y)).2 = v) : (ps.take (i + 1)).map f = (ps.take i).map f ++ [(u, v)] := by
  rw [List.take_add_one, List.map_append, ← hu, ← hv, ← hx, ← hy, List.getElem?_eq_getElem h]
  rfl


set_option maxRecDepth 20000 in
set_option maxHeartbeats 4000000 in
theorem changed_any (F : Nat) (cap : List Value) (f : Int × Int → Int × Int) (k : Int) (a : Option Addr) (c : Nat) (rs : List (List (Int × Int))) (w : World) (h : SeesS w a c rs) (hs : upto rs rs.length ≤ 1048576)
    (hE : ∀ args W, Sem.run Try.prog (callFunc F args) W = .ok (.enter F args) W)
    (hF : ∀ W x y, Below w.heap.size w W → Calls Try.prog F (.agg #[.int .i64 x, .int .i64 y] :: cap).toArray W fun e w' => e = .returned (.agg #[.int .i64 (f (x, y)).1, .int .i64 (f (x, y)).2]) ∧ Below W.heap.size W w') :
    Calls Try.prog 44 #[.agg #[.int .i64 k, .slice a rs.length c], .func (.func F) #[] cap.toArray] w fun e w' => ∃ v vs, e = .returned (.agg #[.int .i64 k, v]) ∧ ShR w.heap.size w' v vs (rs.map (·.map f)) ∧ Below w.heap.size w w' := by
  obtain ⟨iP, hiP, hP0, hP1, hP2⟩ := info_parts infoPt
  obtain ⟨iR, hiR, hR0, hR1, hR2⟩ := info_parts infoR'
  have hm := h.max
  have hf := h.fits
  unfold maxLen at hm
  have hrl : rs.length ≤ 1048576 := by have := upto_le rs 0 rs.length; simp only [upto, Nat.zero_add] at this; omega
  have HS : Hid (upto rs rs.length ≤ 1048576) := hs
  have HF : Hid (∀ W x y, Below w.heap.size w W → Calls Try.prog F (.agg #[.int .i64 x, .int .i64 y] :: cap).toArray W fun e w' => e = .returned (.agg #[.int .i64 (f (x, y)).1, .int .i64 (f (x, y)).2]) ∧ Below W.heap.size W w') := hF
  have HE : Hid (∀ args W, Sem.run Try.prog (callFunc F args) W = .ok (.enter F args) W) := hE
  have b1 := below1 w (.cells #[.int .i64 k, .slice a rs.length c] 31)
  have V1 := Box2.new w (lo := w.heap.size) (Nat.le_refl _) (.int .i64 k) (.slice a rs.length c) 31
  have b2 := below1 (w.alloc (.cells #[.int .i64 k, .slice a rs.length c] 31)) (.cells #[.int .i64 0, .slice none 0 0] 31)
  have V2 := Box2.new (w.alloc (.cells #[.int .i64 k, .slice a rs.length c] 31)) (lo := w.heap.size) (by simp) (.int .i64 0) (.slice none 0 0) 31
  rw [World.size_alloc] at V2
  have z2 : ((w.alloc (.cells #[.int .i64 k, .slice a rs.length c] 31)).alloc (.cells #[.int .i64 0, .slice none 0 0] 31)).heap.size = w.heap.size + 2 := by simp
  have B2 := b1.trans (b2.mono b1.size)
  replace V1 := V1.below b2
  have HH : Hid (SeesS w a c rs) := h
  clear b1 b2 hs h hF hE
  go_enter Try.func44, Try.ntmps44
  go_upto_region 1 with fail
  generalize (w.alloc (.cells #[.int .i64 k, .slice a rs.length c] 31)).alloc (.cells #[.int .i64 0, .slice none 0 0] 31) = W0 at *
  obtain ⟨t0, t1, _, _⟩ := id V1
  have b3 := below1 W0 (.cells #[.int .i64 k, .slice none 0 0] 31)
  have V3 := Box2.new W0 (lo := w.heap.size) (by omega) (.int .i64 k) (.slice none 0 0) 31
  rw [z2] at V3
  have z3 : (W0.alloc (.cells #[.int .i64 k, .slice none 0 0] 31)).heap.size = w.heap.size + 3 := by rw [World.size_alloc, z2]
  have B3 := B2.trans (b3.mono B2.size)
  replace V1 := V1.below b3
  replace V2 := V2.below b3
  obtain ⟨s0, s1, _, _⟩ := id V1
  clear B2 b3
  go_wp2
  clear t0 t1 s0 s1
  generalize W0.alloc (.cells #[.int .i64 k, .slice none 0 0] 31) = W1 at *
  have R0 := ShR.nil W1.heap.size W1
  go_loopw [17] (fun s17 wr => ∃ (j : Nat) (v : Value) (vs : List Value), j ≤ rs.length ∧ s17 = .int .i64 j ∧ Hid (ShR W1.heap.size wr v vs ((rs.take j).map (·.map f))) ∧ Hid (Box2 w.heap.size wr (w.heap.size + 2) (.int .i64 k) v) ∧ Hid (W1.grownBy wr (some (w.heap.size + 2)))) (fun s17 _ => rs.length - (intOf s17).toNat)
  case atStart => exact ⟨0, _, [], Nat.zero_le _, rfl, R0, V3, grownBy_refl _ _⟩
  case round =>
    clear R0 V3
    obtain ⟨j, v, vs, hj, rfl, RR, VV, G⟩ := hrel
    rename World => wr
    have hzr : W1.heap.size ≤ wr.heap.size := G.out.size
    by_cases hlt : j < rs.length
    · obtain ⟨b, off, rfl, hc⟩ := HH.out.cells (by intro e; simp [e] at hlt)
      obtain ⟨a', c', g0, PP⟩ := hc j hlt
      have hbl : b < w.heap.size := World.block_lt_of_cell? w ⟨b, off + j, none⟩ g0
      have t2 := cell_drawn G.out (bat B3 g0) (by omega)
      have P3 : Hid (SeesP wr a' c' (rowA rs j)) := (PP.below B3).drawnA G.out (fun b' off' e hn => by
        obtain ⟨b2, o2, e2, hpc⟩ := PP.cells hn
        rw [e2] at e
        injection e with e
        injection e with e
        have := World.block_lt_of_cell? w ⟨b2, o2 + 0 * 2, none⟩ (hpc 0 (List.length_pos_iff.2 hn)).1
        simp only at this
        omega)
      have PM := PP.max
      have PF := PP.fits
      unfold maxLen at PM
      have hle := row_le rs hlt
      have hl1 : (rowA rs j).length ≤ 1048576 := by have := HS.out; omega
      have TK : Hid ((rs.take (j + 1)).map (·.map f) = (rs.take j).map (·.map f) ++ [(rowA rs j).map f]) := by show _ = _; rw [rowA_take hlt, List.map_append]; rfl
      have BW : Hid (Below w.heap.size w wr) := B3.grown G.out (by omega) (fun k hk => by injection hk with hk; omega)
      clear hc PP g0 hle
      generalize rowA rs j = ps at *
      go_wp2
      go_loopw [8, 23] (fun s8 s23 ws => ∃ i : Nat, i ≤ ps.length ∧ s23 = .int .i64 i ∧ RowPt wr.heap.size ws s8 ((ps.take i).map f) ∧ Hid (Below wr.heap.size wr ws)) (fun _ s23 _ => ps.length - (intOf s23).toNat)
      case atStart => exact ⟨0, Nat.zero_le _, rfl, RowPt.nil _ _, Below.refl _ _⟩
      case round =>
        obtain ⟨i, hi, rfl, R, B⟩ := hrel
        rename World => ws
        by_cases hlt2 : i < ps.length
        · obtain ⟨b1, o1, rfl, hc⟩ := (P3.out.below B.out).cells (by intro e; simp [e] at hlt2)
          obtain ⟨g1, g2⟩ := hc i hlt2
          obtain ⟨x, hx⟩ : ∃ x, Hid ((ps[i]?.getD (0, 0)).1 = x) := ⟨_, rfl⟩
          obtain ⟨y, hy⟩ : ∃ y, Hid ((ps[i]?.getD (0, 0)).2 = y) := ⟨_, rfl⟩
          obtain ⟨u, hu⟩ : ∃ u, Hid ((f (x, y)).1 = u) := ⟨_, rfl⟩
          obtain ⟨v9, hv9⟩ : ∃ u, Hid ((f (x, y)).2 = u) := ⟨_, rfl⟩
          rw [hx.out] at g1
          rw [hy.out] at g2
          have TS : Hid ((ps.take (i + 1)).map f = (ps.take i).map f ++ [(u, v9)]) := take_map_snoc f hlt2 hx.out hy.out hu.out hv9.out
          have HX : Hid (((ps.take i).map f).length = i) := by show _ = _; rw [List.length_map, List.length_take]; omega
          have bn := below1 ws (.cells #[.int .i64 x, .int .i64 y] 76)
          have VP := Box2.new ws (lo := wr.heap.size) B.out.size (.int .i64 x) (.int .i64 y) 76
          have B5 := B.out.trans (bn.mono B.out.size)
          have R5 := R.below bn
          generalize (ps.take i).map f = L at *
          obtain ⟨q0, q1, _, _⟩ := id VP
          clear hc B R
          go_wp2_with fail
          generalize ws.alloc (.cells #[.int .i64 x, .int .i64 y] 76) = W5 at *
          rw [HE.out, Oper.upon_enter]
          refine (HF.out _ x y (BW.out.trans (B5.mono BW.out.size))).mono ?_
          rintro e w6 ⟨rfl, hb⟩
          rw [hu.out, hv9.out]
          have B6 := B5.trans (hb.mono B5.size)
          have R6 := R5.below hb
          have bq := below1 w6 (.cells #[.int .i64 u, .int .i64 v9] 76)
          have NW := pt_new w6 76 u v9
          have B7 := B6.trans (bq.mono B6.size)
          have R7 := R6.below bq
          have hz7 := B7.size
          clear hb bn VP B5 R5 q0 q1 B6 R6
          go_wp2_with (at_builtin; refine wpList_append_own_at _ rfl (.tmp 27) (.tmp 31) 73 rfl wr.heap.size 76 iP (.agg #[.int .i64 0, .int .i64 0]) 2 16 Try.underlying73 hiP hP0 hP1 hP2 rfl (by decide) u8 L.length (ptC L) rfl R7 ⟨w6.heap.size, 0, none⟩ 1 _ (ptC [(u, v9)]) rfl rfl NW (ptC_ones _) (by unfold maxLen; have := HX.out; omega) (by have := HX.out; omega) hz7 ?_; intro v7 w7 R8 G7 _ _; replace R8 := RowPt.snoc R8)
          have B8 : Hid (Below wr.heap.size wr w7) := B7.grown G7 hz7 (fun k hk => (World.ownsRow.lt R7 k hk).1)
          go_roundw
          case rel => exact ⟨i + 1, by omega, by go_num, (by rw [TS.out]; exact R8), B8⟩
          case measure => simp [intOf]; omega
        · obtain rfl : i = ps.length := by omega
          rw [List.take_length] at R
          obtain ⟨ua, uc, ue, uf, um⟩ := R.shape
          rw [List.length_map] at ue uf
          subst ue
          have uo : Hid (∀ k, (Value.slice ua ps.length uc).ownBlock = some k → wr.heap.size ≤ k ∧ k < ws.heap.size) := fun k hk => World.ownsRow.lt R k hk
          obtain ⟨va, vc, rfl, vf, vm⟩ := RR.out.shape
          have vlen : Hid (vs.length = j) := by have := RR.out.len.out; rw [List.length_map, List.length_take] at this; show _ = _; omega
          have vo := RR.out.lts
          have VO1 : Hid (∀ k, (Value.slice va vs.length vc).ownBlock = some k → W1.heap.size ≤ k ∧ k < wr.heap.size) := vo.1
          have VO2 : Hid (∀ x ∈ vs, ∀ k, x.ownBlock = some k → W1.heap.size ≤ k ∧ k < wr.heap.size) := vo.2
          have bq := below1 ws (.cells #[.slice ua ps.length uc] 73)
          have NW := slice_newR ws 73 (.slice ua ps.length uc)
          have R9 := RowPt.below (row_base R hzr) bq
          have BS := B.out.trans (bq.mono B.out.size)
          have RS := RR.out.below BS
          have VS0 := VV.out.below B.out
          have VS := VV.out.below BS
          have GS : Hid (W1.grownBy (ws.alloc (.cells #[.slice ua ps.length uc] 73)) (some (w.heap.size + 2))) := grownBy_trans G.out (grown_wider (grown_of_below BS))
          have hzs := B.out.size
          have hzb : (ws.alloc (.cells #[.slice ua ps.length uc] 73)).heap.size = ws.heap.size + 1 := World.size_alloc ..
          have y1 := VS0.c1
          have y0 := VS0.c0
          have RSo := RS.own
          have len1 : vs.length ≤ 1048576 := by have := vlen.out; omega
          clear vo bq RR VV G R VS0
          go_wp2_with (at_builtin; refine wpList_append_own_at _ rfl (.tmp 35) (.tmp 37) 29 rfl W1.heap.size 73 iR (.slice none 0 0) 1 24 Try.underlying29 hiR hR0 hR1 hR2 rfl (by decide) (.slice va vs.length vc) vs.length vs rfl RSo ⟨ws.heap.size, 0, none⟩ 1 _ [.slice ua ps.length uc] rfl rfl NW (by intro x hx; simp at hx; subst hx; rfl) (by unfold maxLen; omega) (by omega) (by omega) ?_; intro v7 w7 R7 G7 _ A7; have RN := RS.snoc R9 (fun k hk => ⟨fun e => by have := VO1.out k e; have := uo.out k hk; omega, fun e => by
            have q := uo.out k hk
            rcases A7 with e7 | e7
            · rw [e7] at e; have := VO1.out k e; omega
            · rw [e7] at e; injection e with e; omega, fun x hx e => by have := VO2.out x hx k e; have := uo.out k hk; omega⟩) R7 G7 A7; have vb : Hid (∀ i, i < W1.heap.size → some i ≠ (Value.slice va vs.length vc).ownBlock) := (fun i hi e => by have := (VO1.out i e.symm).1; omega); have VN := Ext2.box G7 VS (fun e => vb.out (w.heap.size + 2) (by omega) e.symm); have GN : Hid (W1.grownBy w7 (some (w.heap.size + 2))) := ⟨G7.os.trans GS.out.os, G7.tape.trans GS.out.tape, G7.output.trans GS.out.output, Nat.le_trans GS.out.size G7.size, fun i hi hr => (G7.block i (Nat.lt_of_lt_of_le hi GS.out.size) (vb.out i hi)).trans (GS.out.block i hi hr)⟩; obtain ⟨a7, c7, e7, _, _⟩ := RN.shape; subst e7; rw [List.length_append, List.length_singleton] at RN; have yf := VN.fr; obtain ⟨x0, x1, _, _⟩ := id VN; clear R7 G7 A7 y0 y1)
          have gq : w7.grownBy (w7.setCell ⟨w.heap.size + 2, 1, none⟩ (.slice a7 (vs.length + 1) c7)) (some (w.heap.size + 2)) := grownBy_setCell (p := ⟨w.heap.size + 2, 1, none⟩) (grownBy_refl _ _) rfl _
          go_roundw
          case rel => exact ⟨j + 1, _, _, by omega, by go_num, (by rw [TK.out]; exact RN.drawn gq (by omega)), VN.set1 _, grownBy_trans GN.out gq⟩
          case measure => simp [intOf]; omega
    · obtain rfl : j = rs.length := by omega
      rw [List.take_length] at RR
      obtain ⟨va, vc, rfl, vf, vm⟩ := RR.out.shape
      have VR := V2.grown G.out (by omega)
      have BF : Below w.heap.size w wr := B3.grown G.out (by omega) (fun k hk => by injection hk with hk; omega)
      have RC := Box2.chain BF VR (.int .i64 k) (.slice va vs.length vc)
      have gq : wr.grownBy ((wr.setCell ⟨w.heap.size + 1, 0, none⟩ (.int .i64 k)).setCell ⟨w.heap.size + 1, 1, none⟩ (.slice va vs.length vc)) (some (w.heap.size + 1)) := grownBy_setCell (p := ⟨w.heap.size + 1, 1, none⟩) (grownBy_setCell (p := ⟨w.heap.size + 1, 0, none⟩) (grownBy_refl _ _) rfl _) rfl _
      have RS : Hid (ShR w.heap.size ((wr.setCell ⟨w.heap.size + 1, 0, none⟩ (.int .i64 k)).setCell ⟨w.heap.size + 1, 1, none⟩ (.slice va vs.length vc)) (.slice va vs.length vc) vs (rs.map (·.map f))) := (RR.out.drawn gq (by omega)).base (by omega)
      have r0 : (wr.setCell ⟨w.heap.size + 1, 0, none⟩ (.int .i64 k)).cell? ⟨w.heap.size + 1, 0, none⟩ = some (.int .i64 k) := cell_same VR.c0 _
      have r1 := (VR.put (.int .i64 k) (.slice va vs.length vc)).c1
      obtain ⟨y0, y1, _, _⟩ := id VV.out
      have q0 := VR.c0
      have q1 := VR.c1
      have f0 := VR.fr 0
      have f1 := VR.fr 1
      clear RR VV G gq VR BF
      go_wp2
      refine bodyPost_ret (v := .agg #[.int .i64 k, .slice va vs.length vc]) (by simp [results, Try.results44, go_sem, r0, r1]) rfl ?_
      exact ⟨_, vs, rfl, RS.out, RC⟩
end Go.Proofs.Ytakfjpenpnjlhaa
