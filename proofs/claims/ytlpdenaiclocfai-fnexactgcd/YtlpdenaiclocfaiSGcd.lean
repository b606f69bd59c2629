/- The specification's greatest common divisor: spec.Gcd. -/
import Derived.Test.YtlpdenaiclocfaiSDiv
import Derived.Test.YtlpdenaiclocfaiSNum
import Derived.Test.YtlpdenaiclocfaiGcdI
namespace Go.Proofs.Ytlpdenaiclocfai
open Go.RowKit

theorem field_mag (w : World) (g : Bool) (a : Option Addr) (n c : Nat) : Sem.run Try.prog (Instr.field 26 (Value.agg #[Value.bool g, Value.slice a n c]) 1) w = .ok (.slice a n c) w := by kernel_rfl

theorem box2 (w : World) (o1 : Obj) (g : Bool) (a : Option Addr) (n c : Nat) (T : TypeId) (o3 : Obj) :
    (((w.alloc o1).alloc (.cells #[.bool g, .slice a n c] T)).alloc o3).cell? ⟨w.heap.size + 1, 0, none⟩ = some (.bool g) ∧
    (((w.alloc o1).alloc (.cells #[.bool g, .slice a n c] T)).alloc o3).cell? ⟨w.heap.size + 1, 1, none⟩ = some (.slice a n c) := by
  refine ⟨by simp [go_sem], by simp [go_sem]⟩

set_option maxHeartbeats 4000000 in
theorem specGcd (g g' : Bool) (a b : Option Addr) (c d : Nat) (xs ys : List Int) (w : World) (h : Sees w a c xs) (k : Sees w b d ys) :
    Calls Try.prog 24 #[.agg #[.bool g, .slice a xs.length c], .agg #[.bool g', .slice b ys.length d]] w fun e w' => ∃ v, e = .returned v ∧ IsNum w.heap.size w' v (Int.gcd (tk g xs) (tk g' ys)) ∧ Below w.heap.size w w' := by
  obtain ⟨_, tn, t24, _⟩ := tk_facts g xs h.lim
  obtain ⟨_, sn, s24, _⟩ := tk_facts g' ys k.lim
  obtain ⟨G, hG⟩ : ∃ G, Hid (Int.gcd (val (tkL g xs)) (val (tkL g' ys)) = G) := ⟨_, rfl⟩
  have e0 : Int.gcd (tk g xs) (tk g' ys) = G := by rw [← hG.out]; unfold tk; rw [gcd_sg, gcd_sg]
  have H0 : Hid (Nrm (tkL g xs) ∧ Nrm (tkL g' ys) ∧ (tkL g xs).length ≤ 1048576 ∧ (tkL g' ys).length ≤ 1048576) := ⟨tn, sn, by omega, by omega⟩
  rw [e0]
  clear tn sn e0
  go_enter Try.func24, Try.ntmps24
  go_wp2_with fail
  have B0 := below3 w (.cells #[.bool g, .slice a xs.length c] 26) (.cells #[.bool g', .slice b ys.length d] 26) (.cells #[.bool false, .slice none 0 0] 26)
  have V := var3 w (.cells #[.bool g, .slice a xs.length c] 26) (.cells #[.bool g', .slice b ys.length d] 26) 26 0
  have kb := box2 w (.cells #[.bool g, .slice a xs.length c] 26) g' b ys.length d 26 (.cells #[.bool false, .slice none 0 0] 26)
  have h1 := h.below B0
  have k1 := k.below B0
  clear h k
  generalize (((w.alloc (.cells #[.bool g, .slice a xs.length c] 26)).alloc (.cells #[.bool g', .slice b ys.length d] 26)).alloc (.cells #[.bool false, .slice none 0 0] 26)) = W at *
  refine (l1MagC g a c xs _ h1).mono ?_
  rintro e w1 ⟨a1, c1, rfl, s1, hb1⟩
  obtain ⟨kb0, kb1⟩ := kb
  replace kb0 := bat hb1 kb0
  replace kb1 := bat hb1 kb1
  go_wp2_with fail
  refine (l1MagC g' b d ys _ (k1.below hb1)).mono ?_
  rintro e w2 ⟨a2, c2, rfl, s2, hb2⟩
  have s1' := s1.below hb2
  have B2 : Below W.heap.size W w2 := hb1.trans (hb2.mono hb1.size)
  clear kb0 kb1 h1 k1 hb1 hb2 s1
  go_wp2
  go_loopg [5, 6] (val (tkL g' ys)).toNat (fun kk s5 s6 wr => ∃ a5 c5 a6 c6 us vs, s5 = .slice a5 us.length c5 ∧ s6 = .slice a6 vs.length c6 ∧ Sees wr a5 c5 us ∧ Sees wr a6 c6 vs ∧ Hid (Nrm us ∧ Nrm vs ∧ us.length ≤ 1048576 ∧ vs.length ≤ 1048576 ∧ kk = (val vs).toNat ∧ Int.gcd (val us) (val vs) = G) ∧ Below W.heap.size W wr)
  case atStart => exact ⟨a1, c1, a2, c2, _, _, rfl, rfl, s1', s2, ⟨H0.out.1, H0.out.2.1, H0.out.2.2.1, H0.out.2.2.2, rfl, hG.out⟩, B2⟩
  case round =>
    obtain ⟨a5, c5, a6, c6, us, vs, rfl, rfl, su, sv, hI, hB⟩ := hrel
    clear s1' s2 H0 hG B2
    have mu : us.length ≤ 4611686018427387900 := by have := hI.out.2.2.1; omega
    have mv : vs.length ≤ 4611686018427387900 := by have := hI.out.2.2.2.1; omega
    by_cases h0 : vs = []
    · subst h0
      have E : Hid (sg false (val us) = (G : Int)) := by
        have e := hI.out.2.2.2.2.2
        show val us = (G : Int)
        rw [← e]
        show _ = ((Int.gcd (val us) 0 : Nat) : Int)
        rw [Int.gcd_zero_right]
        exact (Int.natAbs_of_nonneg (val_nonneg su.lim)).symm
      have hz : (([] : List Int).length : Int) = 0 := rfl
      go_wp2_with fail
      refine (l1NumC false a5 c5 us _ su (by have := hI.out.2.2.1; omega)).mono ?_
      rintro e w3 ⟨v, rfl, hI3, hb3⟩
      have B3 := hB.trans (hb3.mono hB.size)
      have hJ := (hI3.eq E.out).base_le (show w.heap.size + 3 ≤ wr.heap.size by rw [← V.1]; exact hB.size)
      obtain ⟨g5, a7, l7, c7, rfl⟩ := hI3.shape
      obtain ⟨q0, q1, q2, q3⟩ := V.2
      have V1 : W.heap.size = w.heap.size + 3 := V.1
      replace q0 := bat B3 q0
      replace q1 := bat B3 q1
      have q4 := (B3.frozen (p := ⟨w.heap.size + 2, 0, none⟩) (by dsimp only; rw [V1]; omega)).trans q2
      have q5 := (B3.frozen (p := ⟨w.heap.size + 2, 1, none⟩) (by dsimp only; rw [V1]; omega)).trans q3
      have BF := B0.trans (B3.mono B0.size)
      clear hb3 hI3 q2 q3 V B3 hB B0 su sv hI V1
      go_wp2
      exact bodyPost_ret (v := .agg #[.bool g5, .slice a7 l7 c7]) (by simp [results, Try.results24, go_sem, q0, q1]) rfl ⟨_, rfl, hJ.put' (by omega) (by omega), below_put' BF (by omega) _ _⟩
    · have hp : (0 : Int) < vs.length := by have := List.length_pos_iff.2 h0; omega
      have vp := val_pos sv.lim hI.out.2.1 h0
      have VP : Hid (0 < val vs) := vp
      clear vp
      go_wp2_with fail
      refine (l1DivMagC a5 a6 c5 c6 us vs _ su sv hI.out.2.2.1 hI.out.2.2.2.1 VP.out).mono ?_
      rintro e w3 ⟨rb, qs, rs, rfl, hD, vq, vr, hb3⟩
      have VR : Hid (val rs = val us % val vs) := vr
      have RL : Hid (rs.length = vs.length + 1) := hD.rl
      clear vq vr
      go_wp2_with fail
      have hq := l1NumC false (some ⟨rb, 0, none⟩) (vs.length + 1) rs w3 hD.r.toSees (by rw [RL.out]; have := hI.out.2.2.2.1; omega)
      rw [RL.out] at hq
      refine hq.mono ?_
      clear hq
      rintro e w4 ⟨v, rfl, hI4, hb4⟩
      obtain ⟨a7, c7, rs2, rfl, ho, hn, hv⟩ := hI4
      have hv2 : val rs2 = val us % val vs := by
        rw [hv, mg_sg (val_nonneg hD.r.lim), VR.out]
      have hlt := Int.emod_lt_of_pos (val us) VP.out
      have hge := val_nonneg ho.lim
      have hl := len_le_of_val sv.lim ho.lim hn (by omega)
      have NI : Hid (Nrm vs ∧ Nrm rs2 ∧ vs.length ≤ 1048576 ∧ rs2.length ≤ 1048576 ∧ Int.gcd (val vs) (val rs2) = G) := ⟨hI.out.2.1, hn, hI.out.2.2.2.1, by have := hI.out.2.2.2.1; omega, by rw [hv2, gcd_step (val_nonneg su.lim)]; exact hI.out.2.2.2.2.2⟩
      have hm : (val rs2).toNat < gk := by rw [hI.out.2.2.2.2.1]; omega
      have B4 := (hB.trans (hb3.mono hB.size)).trans (hb4.mono (Nat.le_trans hB.size hb3.size))
      have sv2 := (sv.below hb3).below hb4
      have sr2 := ho.toSees
      generalize decide (sg false (val rs) < 0) = gg at *
      clear hb3 hb4 hB su sv ho hI hn hv hv2 hl hge hlt hD VR RL
      have hfd := fun w => field_mag w gg a7 rs2.length c7
      go_wp2
      go_roundg (val rs2).toNat
      case measure => exact hm
      case rel => exact ⟨a6, c6, a7, c7, vs, rs2, rfl, rfl, sv2, sr2, ⟨NI.out.1, NI.out.2.1, NI.out.2.2.1, NI.out.2.2.2.1, rfl, NI.out.2.2.2.2⟩, B4⟩
end Go.Proofs.Ytlpdenaiclocfai
