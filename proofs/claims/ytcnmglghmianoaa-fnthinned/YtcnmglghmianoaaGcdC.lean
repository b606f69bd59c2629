/- The program's greatest common divisor of numbers of any size: impl.commonDivisor. -/
import Derived.Test.YtcnmglghmianoaaDivI
import Derived.Test.YtcnmglghmianoaaEq
import Derived.Deep.LoopGhost
import Derived.Deep.RegionHeld3
namespace Go.Proofs.Ytcnmglghmianoaa
open Go.RowKit

theorem gcd_step {u v : Int} (hu : 0 ≤ u) : Int.gcd v (u % v) = Int.gcd u v := by
  show Nat.gcd v.natAbs (u % v).natAbs = Nat.gcd u.natAbs v.natAbs
  rw [Int.natAbs_emod_of_nonneg hu, Nat.gcd_comm u.natAbs, Nat.gcd_rec v.natAbs u.natAbs, Nat.gcd_comm]

/-- A result's variable, behind two arguments. -/
theorem var3 (w : World) (o1 o2 : Obj) (T : TypeId) (n : Nat) :
    ((((w.alloc o1).alloc o2).alloc (.cells #[.bool false, .slice none 0 0] T)).drewN n).heap.size = w.heap.size + 3 ∧
    ((((w.alloc o1).alloc o2).alloc (.cells #[.bool false, .slice none 0 0] T)).drewN n).cell? ⟨w.heap.size + 2, 0, none⟩ = some (.bool false) ∧
    ((((w.alloc o1).alloc o2).alloc (.cells #[.bool false, .slice none 0 0] T)).drewN n).cell? ⟨w.heap.size + 2, 1, none⟩ = some (.slice none 0 0) ∧
    ((((w.alloc o1).alloc o2).alloc (.cells #[.bool false, .slice none 0 0] T)).drewN n).frozen? ⟨w.heap.size + 2, 0, none⟩ = false ∧
    ((((w.alloc o1).alloc o2).alloc (.cells #[.bool false, .slice none 0 0] T)).drewN n).frozen? ⟨w.heap.size + 2, 1, none⟩ = false := by
  refine ⟨by simp [go_sem], by simp [go_sem], by simp [go_sem], by simp [go_sem], by simp [go_sem]⟩

set_option maxHeartbeats 4000000 in
theorem commonDivisorC (g g' : Bool) (a b : Option Addr) (c d : Nat) (xs ys : List Int) (w : World) (h : Sees w a c xs) (k : Sees w b d ys) (nx : Nrm xs) (ny : Nrm ys) (hx : xs.length ≤ 1048576) (hy : ys.length ≤ 1048576) :
    Calls Try.prog 49 #[.agg #[.bool g, .slice a xs.length c], .agg #[.bool g', .slice b ys.length d]] w fun e w' => ∃ v, e = .returned v ∧ IsNum w.heap.size w' v (Int.gcd (val xs) (val ys)) ∧ Below w.heap.size w w' := by
  obtain ⟨G, hG⟩ : ∃ G, Hid (Int.gcd (val xs) (val ys) = G) := ⟨_, rfl⟩
  have H0 : Hid (Nrm xs ∧ Nrm ys ∧ xs.length ≤ 1048576 ∧ ys.length ≤ 1048576) := ⟨nx, ny, hx, hy⟩
  rw [hG.out]
  clear nx ny hx hy
  go_enter Try.func49, Try.ntmps49
  go_wp2
  go_quiet (fail)
  have B0 := below_drewN (below3 w (.cells #[.bool g, .slice a xs.length c] 35) (.cells #[.bool g', .slice b ys.length d] 35) (.cells #[.bool false, .slice none 0 0] 35)) nq
  have V := var3 w (.cells #[.bool g, .slice a xs.length c] 35) (.cells #[.bool g', .slice b ys.length d] 35) 35 nq
  have h1 := h.below B0
  have k1 := k.below B0
  clear h k
  generalize (((w.alloc (.cells #[.bool g, .slice a xs.length c] 35)).alloc (.cells #[.bool g', .slice b ys.length d] 35)).alloc (.cells #[.bool false, .slice none 0 0] 35)).drewN nq = W at *
  go_wp2
  go_loopg [5, 6] (val ys).toNat (fun kk s5 s6 wr => ∃ a5 c5 a6 c6 us vs, s5 = .slice a5 us.length c5 ∧ s6 = .slice a6 vs.length c6 ∧ Sees wr a5 c5 us ∧ Sees wr a6 c6 vs ∧ Hid (Nrm us ∧ Nrm vs ∧ us.length ≤ 1048576 ∧ vs.length ≤ 1048576 ∧ kk = (val vs).toNat ∧ Int.gcd (val us) (val vs) = G) ∧ Below W.heap.size W wr)
  case atStart => exact ⟨a, c, b, d, xs, ys, rfl, rfl, h1, k1, ⟨H0.out.1, H0.out.2.1, H0.out.2.2.1, H0.out.2.2.2, rfl, hG.out⟩, Below.refl _ _⟩
  case round =>
    obtain ⟨a5, c5, a6, c6, us, vs, rfl, rfl, su, sv, hI, hB⟩ := hrel
    clear h1 k1 H0 hG
    have mu : us.length ≤ 4611686018427387900 := by have := hI.out.2.2.1; omega
    have mv : vs.length ≤ 4611686018427387900 := by have := hI.out.2.2.2.1; omega
    by_cases h0 : vs = []
    · subst h0
      have E : Hid (sg false (val us) = (G : Int)) := by
        have e := hI.out.2.2.2.2.2
        show val us = (G : Int)
        rw [← e]
        show _ = ((Int.gcd (val us) 0 : Nat) : Int)
        rw [Int.gcd_zero_right]
        exact (Int.natAbs_of_nonneg (val_nonneg su.lim)).symm
      have hz : (([] : List Int).length : Int) = 0 := rfl
      go_wp2_with fail
      refine (cloneC a5 c5 us _ su (by have := hI.out.2.2.1; omega)).mono ?_
      rintro e w2 ⟨a2, c2, rfl, ho2, hb2⟩
      have B2 := hB.trans (hb2.mono hB.size)
      clear hb2
      go_wp2_with fail
      refine (signedC (w.heap.size + 3) false a2 c2 us _ (ho2.base_le (by rw [← V.1]; exact hB.size))).mono ?_
      rintro e w3 ⟨v, rfl, hI3, hb3⟩
      have B3 := B2.trans (hb3.mono B2.size)
      have hJ := hI3.eq E.out
      obtain ⟨g5, a7, l7, c7, rfl⟩ := hI3.shape
      obtain ⟨q0, q1, q2, q3⟩ := V.2
      replace q0 := bat B3 q0
      replace q1 := bat B3 q1
      have q4 := (B3.frozen (p := ⟨w.heap.size + 2, 0, none⟩) (by dsimp only; rw [V.1]; omega)).trans q2
      have q5 := (B3.frozen (p := ⟨w.heap.size + 2, 1, none⟩) (by dsimp only; rw [V.1]; omega)).trans q3
      have BF := B0.trans (B3.mono B0.size)
      clear hb3 hI3 q2 q3 V B3 B2 hB B0 ho2 su sv hI
      go_wp2
      exact bodyPost_ret (v := .agg #[.bool g5, .slice a7 l7 c7]) (by simp [results, Try.results49, go_sem, q0, q1]) rfl ⟨_, rfl, hJ.put' (by omega) (by omega), below_put' BF (by omega) _ _⟩
    · have hp : (0 : Int) < vs.length := by have := List.length_pos_iff.2 h0; omega
      go_wp2_with fail
      refine (divMagC a5 a6 c5 c6 us vs _ su sv hI.out.1 hI.out.2.1 h0 hI.out.2.2.1 hI.out.2.2.2.1).mono ?_
      rintro e w2 ⟨a1, c1, a2, c2, qs, rs, rfl, hq, hr, nq', nr, vq, vr, _, hb2⟩
      have vp := val_pos sv.lim hI.out.2.1 h0
      have hlt := Int.emod_lt_of_pos (val us) vp
      have hge := val_nonneg hr.lim
      have hl := len_le_of_val sv.lim hr.lim nr (by omega)
      have NI : Hid (Nrm vs ∧ Nrm rs ∧ vs.length ≤ 1048576 ∧ rs.length ≤ 1048576 ∧ Int.gcd (val vs) (val rs) = G) := ⟨hI.out.2.1, nr, hI.out.2.2.2.1, by have := hI.out.2.2.2.1; omega, by rw [vr, gcd_step (val_nonneg su.lim)]; exact hI.out.2.2.2.2.2⟩
      have hm : (val rs).toNat < gk := by rw [hI.out.2.2.2.2.1]; omega
      have B2 := hB.trans (hb2.mono hB.size)
      have sv2 := sv.below hb2
      have sr2 := hr.toSees
      clear hb2 hB su sv hr hI vr vq nr nq' hl hge hlt vp hq
      go_wp2
      go_roundg (val rs).toNat
      case measure => exact hm
      case rel => exact ⟨a6, c6, a2, c2, vs, rs, rfl, rfl, sv2, sr2, ⟨NI.out.1, NI.out.2.1, NI.out.2.2.1, NI.out.2.2.2.1, rfl, NI.out.2.2.2.2⟩, B2⟩

theorem gcd_sg (g : Bool) (v u : Int) : Int.gcd (sg g v) u = Int.gcd u v := by
  rw [Int.gcd_comm]
  cases g <;> simp [sg]
end Go.Proofs.Ytcnmglghmianoaa
