/- A fraction in lowest terms: spec.l2Lowest. -/
import Derived.Test.YtcnmglghmianoaaLow
import Derived.Test.YtcnmglghmianoaaSReach
import Derived.Test.YtcnmglghmianoaaSNum
import Derived.Deep.LoopGhost
namespace Go.Proofs.Ytcnmglghmianoaa
open Go.RowKit

theorem field_mags (w : World) (g : Bool) (a : Option Addr) (n c : Nat) : Sem.run Try.prog (Instr.field 35 (Value.agg #[Value.bool g, Value.slice a n c]) 1) w = .ok (.slice a n c) w := by kernel_rfl
theorem low_sg (g : Bool) (x y : Int) : sg g (x / (Int.gcd x y : Int)) = sg g x / (Int.gcd x y : Int) := by
  cases g
  · rfl
  · have hd : (Int.gcd x y : Int) ∣ x := Int.gcd_dvd_left _ _
    simp only [sg, if_true]
    exact (Int.neg_ediv_of_dvd hd).symm

set_option maxRecDepth 20000 in
set_option maxHeartbeats 4000000 in
theorem l2LowestC (g h : Bool) (a b : Option Addr) (c d : Nat) (ns ds : List Int) (w : World) (h1 : Sees w a c ns) (h2 : Sees w b d ds) (e1 : Nrm ns) (e2 : Nrm ds) (hne : ds ≠ []) (l1 : ns.length ≤ 1048575) (l2 : ds.length ≤ 1048575) :
    Calls Try.prog 60 #[.agg #[.bool g, .slice a ns.length c], .agg #[.bool h, .slice b ds.length d]] w fun e w' => ∃ v, e = .returned v ∧ IsFrac w.heap.size w' v (sg g (val ns) / Int.gcd (val ns) (val ds)) (val ds / Int.gcd (val ns) (val ds)) ∧ Below w.heap.size w w' := by
  have B0 := below3 w (.cells #[.bool g, .slice a ns.length c] 35) (.cells #[.bool h, .slice b ds.length d] 35) (.cells #[.bool false, .slice none 0 0, .bool false, .slice none 0 0] 37)
  have W0 : ∀ W, W = ((w.alloc (.cells #[.bool g, .slice a ns.length c] 35)).alloc (.cells #[.bool h, .slice b ds.length d] 35)).alloc (.cells #[.bool false, .slice none 0 0, .bool false, .slice none 0 0] 37) →
      (W.cell? ⟨w.heap.size, 0, none⟩ = some (.bool g) ∧ W.cell? ⟨w.heap.size, 1, none⟩ = some (.slice a ns.length c) ∧ W.cell? ⟨w.heap.size + 1, 1, none⟩ = some (.slice b ds.length d)) ∧
      (W.cell? ⟨w.heap.size + 2, 0, none⟩ = some (.bool false) ∧ W.cell? ⟨w.heap.size + 2, 1, none⟩ = some (.slice none 0 0) ∧ W.cell? ⟨w.heap.size + 2, 2, none⟩ = some (.bool false) ∧ W.cell? ⟨w.heap.size + 2, 3, none⟩ = some (.slice none 0 0)) ∧
      (∀ o, W.frozen? ⟨w.heap.size + 2, o, none⟩ = false) ∧ W.heap.size = w.heap.size + 3 := by
    rintro W rfl
    exact ⟨⟨by simp [go_sem], by simp [go_sem], by simp [go_sem]⟩, ⟨by simp [go_sem], by simp [go_sem], by simp [go_sem], by simp [go_sem]⟩, fun o => by simp [go_sem], by simp⟩
  obtain ⟨⟨b0, b1, b2⟩, ⟨y0, y1, y2, y3⟩, fy, szW⟩ := W0 _ rfl
  have k1 := h1.below B0
  have k2 := h2.below B0
  have vd := val_pos h2.lim e2 hne
  obtain ⟨G, hG⟩ : ∃ G, Hid (Int.gcd (val ns) (val ds) = G) := ⟨_, rfl⟩
  have hGp : 0 < G := by rw [← hG.out]; exact Int.gcd_pos_of_ne_zero_right _ (by omega)
  have LS : Hid (sg g (val ns / (G : Int)) = sg g (val ns) / (G : Int)) := by show _ = _; rw [← hG.out]; exact low_sg g _ _
  rw [hG.out]
  clear h1 h2 W0 vd
  go_enter Try.func60, Try.ntmps60
  go_wp2_with fail
  generalize ((w.alloc (.cells #[.bool g, .slice a ns.length c] 35)).alloc (.cells #[.bool h, .slice b ds.length d] 35)).alloc (.cells #[.bool false, .slice none 0 0, .bool false, .slice none 0 0] 37) = W at *
  go_loopg [5, 6] (val ns).toNat (fun kk s5 s6 wr => ∃ a5 c5 a6 c6 us vs, s5 = .slice a5 us.length c5 ∧ s6 = .slice a6 vs.length c6 ∧ Sees wr a5 c5 us ∧ Sees wr a6 c6 vs ∧ Hid (Nrm us ∧ Nrm vs ∧ us.length ≤ 1048575 ∧ vs.length ≤ 1048575 ∧ kk = (val vs).toNat ∧ Int.gcd (val us) (val vs) = G) ∧ Below W.heap.size W wr)
  case atStart => exact ⟨b, d, a, c, ds, ns, rfl, rfl, k2, k1, ⟨e2, e1, l2, l1, rfl, by rw [Int.gcd_comm]; exact hG.out⟩, Below.refl _ _⟩
  case round =>
    obtain ⟨a5, c5, a6, c6, us, vs, rfl, rfl, su, sv, hI, hB⟩ := hrel
    have mu : us.length ≤ 4611686018427387900 := by have := hI.out.2.2.1; omega
    have mv : vs.length ≤ 4611686018427387900 := by have := hI.out.2.2.2.1; omega
    by_cases h0 : vs = []
    · subst h0
      have EV : Hid (val us = (G : Int)) := by
        have e := hI.out.2.2.2.2.2
        show val us = (G : Int)
        rw [← e]
        show _ = ((Int.gcd (val us) 0 : Nat) : Int)
        rw [Int.gcd_zero_right]
        exact (Int.natAbs_of_nonneg (val_nonneg su.lim)).symm
      have VP : Hid (0 < val us) := by show _ < _; rw [EV.out]; omega
      have hz : (([] : List Int).length : Int) = 0 := rfl
      have s1 := k1.below hB
      have s2 := k2.below hB
      have B1 := B0.trans (hB.mono B0.size)
      replace b0 := bat hB b0
      replace b1 := bat hB b1
      replace b2 := bat hB b2
      replace y0 := bat hB y0
      replace y1 := bat hB y1
      replace y2 := bat hB y2
      replace y3 := bat hB y3
      have fy1 : ∀ o, wr.frozen? ⟨w.heap.size + 2, o, none⟩ = false := fun o => (hB.frozen (p := ⟨w.heap.size + 2, o, none⟩) (by dsimp only; omega)).trans (fy o)
      have sz1 : w.heap.size + 3 ≤ wr.heap.size := by have := hB.size; omega
      clear hB k1 k2 sv fy
      go_wp2_with fail
      refine (l1DivMagC a a5 c c5 ns us _ s1 su (by omega) (by have := hI.out.2.2.1; omega) VP.out).mono ?_
      rintro e w2 ⟨rb, qs, rs, rfl, hD, vq, vr, hb2⟩
      have VQ : Hid (val qs = val ns / (G : Int)) := by show _ = _; rw [vq, EV.out]
      have LQ : Hid (qs.length = ns.length) := hD.ql
      have oq := hD.q
      replace b0 := bat hb2 b0
      replace b2 := bat hb2 b2
      replace y0 := bat hb2 y0
      replace y1 := bat hb2 y1
      replace y2 := bat hb2 y2
      replace y3 := bat hb2 y3
      have fy2 : ∀ o, w2.frozen? ⟨w.heap.size + 2, o, none⟩ = false := fun o => (hb2.frozen (p := ⟨w.heap.size + 2, o, none⟩) (by dsimp only; omega)).trans (fy1 o)
      have sz2 : w.heap.size + 3 ≤ w2.heap.size := Nat.le_trans sz1 hb2.size
      have s3 := s2.below hb2
      have s4 := su.below hb2
      have B2 := B1.trans (hb2.mono B1.size)
      clear vq vr hD hb2 s1 s2 su fy1 b1 B1
      go_wp2_with fail
      refine (l1DivMagC b a5 d c5 ds us _ s3 s4 (by omega) (by have := hI.out.2.2.1; omega) VP.out).mono ?_
      rintro e w3 ⟨rb2, qs2, rs2, rfl, hD, vq, vr, hb3⟩
      have VQ2 : Hid (val qs2 = val ds / (G : Int)) := by show _ = _; rw [vq, EV.out]
      have LQ2 : Hid (qs2.length = ds.length) := hD.ql
      have oq2 := hD.q
      have oq' := oq.below hb3
      replace b0 := bat hb3 b0
      replace y0 := bat hb3 y0
      replace y1 := bat hb3 y1
      replace y2 := bat hb3 y2
      replace y3 := bat hb3 y3
      have fy3 : ∀ o, w3.frozen? ⟨w.heap.size + 2, o, none⟩ = false := fun o => (hb3.frozen (p := ⟨w.heap.size + 2, o, none⟩) (by dsimp only; omega)).trans (fy2 o)
      have sz3 : w.heap.size + 3 ≤ w3.heap.size := Nat.le_trans sz2 hb3.size
      have B3 := B2.trans (hb3.mono B2.size)
      clear vq vr hD hb3 s3 s4 fy2 b2 oq B2
      go_wp2_with fail
      have hq := l1NumC g (some ⟨wr.heap.size, 0, none⟩) ns.length qs w3 oq'.toSees (by rw [LQ.out]; omega)
      rw [LQ.out, VQ.out, LS.out] at hq
      refine hq.mono ?_
      clear hq
      rintro e w4 ⟨v, rfl, hI4, hb4⟩
      obtain ⟨a7, c7, ps, rfl, o7, n7, v7⟩ := hI4
      obtain ⟨f7, hf7⟩ : ∃ f, Hid (decide (sg g (val ns) / (G : Int) < 0) = f) := ⟨_, rfl⟩
      rw [hf7.out]
      replace y0 := bat hb4 y0
      replace y1 := bat hb4 y1
      replace y2 := bat hb4 y2
      replace y3 := bat hb4 y3
      have fy4 : ∀ o, w4.frozen? ⟨w.heap.size + 2, o, none⟩ = false := fun o => (hb4.frozen (p := ⟨w.heap.size + 2, o, none⟩) (by dsimp only; omega)).trans (fy3 o)
      have sz4 : w.heap.size + 3 ≤ w4.heap.size := Nat.le_trans sz3 hb4.size
      have oq2' := oq2.below hb4
      have B4 := B3.trans (hb4.mono B3.size)
      have H7 : Hid (Nrm ps ∧ val ps = mg (sg g (val ns) / (G : Int))) := ⟨n7, v7⟩
      clear hb4 oq' fy3 b0 n7 v7 oq2 B3
      go_wp2_with fail
      have hq := l1NumC false (some ⟨w2.heap.size, 0, none⟩) ds.length qs2 w4 oq2'.toSees (by rw [LQ2.out]; omega)
      rw [LQ2.out, VQ2.out] at hq
      refine hq.mono ?_
      clear hq
      rintro e w5 ⟨v, rfl, hI5, hb5⟩
      obtain ⟨a8, c8, ts, rfl, o8, n8, v8⟩ := hI5
      have ef : sg false (val ds / (G : Int)) = val ds / (G : Int) := rfl
      rw [ef] at v8
      rw [ef]
      obtain ⟨f8, hf8⟩ : ∃ f, Hid (decide (val ds / (G : Int) < 0) = f) := ⟨_, rfl⟩
      rw [hf8.out]
      replace y0 := bat hb5 y0
      replace y1 := bat hb5 y1
      replace y2 := bat hb5 y2
      replace y3 := bat hb5 y3
      have fy5 : ∀ o, w5.frozen? ⟨w.heap.size + 2, o, none⟩ = false := fun o => (hb5.frozen (p := ⟨w.heap.size + 2, o, none⟩) (by dsimp only; omega)).trans (fy4 o)
      have B5 := B4.trans (hb5.mono B4.size)
      have IF : IsFrac (w.heap.size + 3) w5 (.agg #[.bool f7, .slice a7 ps.length c7, .bool f8, .slice a8 ts.length c8]) (sg g (val ns) / (G : Int)) (val ds / (G : Int)) :=
        ⟨a7, c7, ps, a8, c8, ts, by rw [hf7.out, hf8.out], (o7.below hb5).base_le sz3, o8.base_le sz4, H7.out.1, n8, H7.out.2, v8, fun q off q1 q2 q3 => row_ne_low o8 (o7.lt q1 q2) q3.symm⟩
      have JP := IF.put (b := w.heap.size + 2) (b0 := w.heap.size) (by omega) (by omega) (.bool f7) (.slice a7 ps.length c7) (.bool f8) (.slice a8 ts.length c8)
      have BP := below_put4 (b := w.heap.size + 2) B5 (by omega) (.bool f7) (.slice a7 ps.length c7) (.bool f8) (.slice a8 ts.length c8)
      clear hb5 oq2' fy4 n8 v8 o7 o8 IF H7 B4 B5 hI EV VP
      go_wp2
      exact bodyPost_ret (v := .agg #[.bool f7, .slice a7 ps.length c7, .bool f8, .slice a8 ts.length c8]) (by simp [results, Try.results60, go_sem, y0, y1, y2, y3]) rfl ⟨_, rfl, JP, BP⟩
    · have hp : (0 : Int) < vs.length := by have := List.length_pos_iff.2 h0; omega
      have VP : Hid (0 < val vs) := val_pos sv.lim hI.out.2.1 h0
      clear k1 k2 b0 b1 b2 y0 y1 y2 y3 fy LS
      go_wp2_with fail
      refine (l1DivMagC a5 a6 c5 c6 us vs _ su sv (by have := hI.out.2.2.1; omega) (by have := hI.out.2.2.2.1; omega) VP.out).mono ?_
      rintro e w3 ⟨rb, qs, rs, rfl, hD, vq, vr, hb3⟩
      have VR : Hid (val rs = val us % val vs) := vr
      have RL : Hid (rs.length = vs.length + 1) := hD.rl
      clear vq vr
      go_wp2_with fail
      have hq := l1NumC false (some ⟨rb, 0, none⟩) (vs.length + 1) rs w3 hD.r.toSees (by rw [RL.out]; have := hI.out.2.2.2.1; omega)
      rw [RL.out] at hq
      refine hq.mono ?_
      clear hq
      rintro e w4 ⟨v, rfl, hI4, hb4⟩
      obtain ⟨a7, c7, rs2, rfl, ho, hn, hv⟩ := hI4
      have hv2 : val rs2 = val us % val vs := by
        rw [hv, mg_sg (val_nonneg hD.r.lim), VR.out]
      have hlt := Int.emod_lt_of_pos (val us) VP.out
      have hge := val_nonneg ho.lim
      have hl := len_le_of_val sv.lim ho.lim hn (by omega)
      have NI : Hid (Nrm vs ∧ Nrm rs2 ∧ vs.length ≤ 1048575 ∧ rs2.length ≤ 1048575 ∧ Int.gcd (val vs) (val rs2) = G) := ⟨hI.out.2.1, hn, hI.out.2.2.2.1, by have := hI.out.2.2.2.1; omega, by rw [hv2, gcd_step (val_nonneg su.lim)]; exact hI.out.2.2.2.2.2⟩
      have hm : (val rs2).toNat < gk := by rw [hI.out.2.2.2.2.1]; omega
      have B4 := (hB.trans (hb3.mono hB.size)).trans (hb4.mono (Nat.le_trans hB.size hb3.size))
      have sv2 := (sv.below hb3).below hb4
      have sr2 := ho.toSees
      generalize decide (sg false (val rs) < 0) = gg at *
      clear hb3 hb4 hB su sv ho hI hn hv hv2 hl hge hlt hD VR RL
      have hfd := fun w => field_mags w gg a7 rs2.length c7
      go_wp2
      go_roundg (val rs2).toNat
      case measure => exact hm
      case rel => exact ⟨a6, c6, a7, c7, vs, rs2, rfl, rfl, sv2, sr2, ⟨NI.out.1, NI.out.2.1, NI.out.2.2.1, NI.out.2.2.2.1, rfl, NI.out.2.2.2.2⟩, B4⟩
end Go.Proofs.Ytcnmglghmianoaa
