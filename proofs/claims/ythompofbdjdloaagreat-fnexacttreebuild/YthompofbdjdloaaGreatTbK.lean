/- The law's marks on a tree: what was marked is still held. -/
import Derived.Test.YthompofbdjdloaaGreatTbF
import Derived.Test.YthompofbdjdloaaGreatTrL
import Derived.Test.YthompofbdjdloaaGreatTrC
namespace Go.Proofs.YthompofbdjdloaaGreat
open Go.RowKit

set_option maxRecDepth 20000 in
set_option maxHeartbeats 1000000 in
theorem heldBoxF (a : Option Addr) (c n : Nat) (k : Int) (w : World) (S : SeesX w a c (mkBs k n)) (h0 : 0 ≤ k) (hk : k + 4 * (n : Int) ≤ 100000000) :
    Calls Tryz.prog 39 #[.slice a n c, .int .i64 k] w fun e w' => e = .returned (.int .i64 (k + 4 * n)) ∧ w' = w := by
  have hm := S.max
  have hf := S.fits
  rw [mkBs_len] at hf
  unfold maxLen at hm
  go_enter Tryz.func39, Tryz.ntmps39
  go_wp2
  go_loopw [1, 5] (fun s1 i wr => ∃ j : Nat, j ≤ n ∧ i = .int .i64 j ∧ s1 = .int .i64 (k + 4 * (j : Int)) ∧ Hid (wr = w)) (fun _ i _ => n - (intOf i).toNat)
  case atStart => exact ⟨0, Nat.zero_le _, rfl, by simp, rfl⟩
  case round =>
    obtain ⟨j, hj, rfl, rfl, hw⟩ := hrel
    have hw' := hw.out
    subst hw'
    by_cases hlt : j < n
    · obtain ⟨b, off, rfl, hc⟩ := S.cells (by intro e; have := congrArg List.length e; rw [mkBs_len] at this; simp at this; omega)
      have F := hc j (by rw [mkBs_len]; exact hlt)
      rw [mkBs_at hlt] at F
      obtain ⟨c0, c1, c2, c3⟩ := F
      dsimp only at c0 c1 c2 c3
      clear hc S
      go_wp2
      go_roundw
      case rel => exact ⟨j + 1, by omega, by go_num, by go_num, (by first | exact trivial | exact rfl)⟩
      case measure => simp [intOf]; omega
    · obtain rfl : j = n := by omega
      clear S
      go_wp2
      go_ret
      exact ⟨rfl, rfl⟩

set_option maxRecDepth 20000 in
set_option maxHeartbeats 1000000 in
theorem heldIntF (a : Option Addr) (c n : Nat) (k : Int) (w : World) (S : SeesI w a c (mkIs k n)) (h0 : 0 ≤ k) (hk : k + (n : Int) ≤ 100000000) :
    Calls Tryz.prog 40 #[.slice a n c, .int .i64 k] w fun e w' => e = .returned (.int .i64 (k + n)) ∧ w' = w := by
  have hm := S.max
  have hf := S.fits
  rw [mkIs_len] at hf
  unfold maxLen at hm
  go_enter Tryz.func40, Tryz.ntmps40
  go_wp2
  go_loopw [1, 5] (fun s1 i wr => ∃ j : Nat, j ≤ n ∧ i = .int .i64 j ∧ s1 = .int .i64 (k + (j : Int)) ∧ Hid (wr = w)) (fun _ i _ => n - (intOf i).toNat)
  case atStart => exact ⟨0, Nat.zero_le _, rfl, by simp, rfl⟩
  case round =>
    obtain ⟨j, hj, rfl, rfl, hw⟩ := hrel
    have hw' := hw.out
    subst hw'
    by_cases hlt : j < n
    · obtain ⟨b, off, rfl, hc⟩ := S.cells (by intro e; have := congrArg List.length e; rw [mkIs_len] at this; simp at this; omega)
      have c0 := hc j (by rw [mkIs_len]; exact hlt)
      rw [mkIs_at hlt] at c0
      clear hc S
      go_wp2
      go_roundw
      case rel => exact ⟨j + 1, by omega, by go_num, by go_num, (by first | exact trivial | exact rfl)⟩
      case measure => simp [intOf]; omega
    · obtain rfl : j = n := by omega
      clear S
      go_wp2
      go_ret
      exact ⟨rfl, rfl⟩

theorem mkN_bs (t : Nd) (b : Bx) (k : Int) : (mkN t b k).bs = mkBs k t.bs.length := by cases t; rfl
theorem mkN_is (t : Nd) (b : Bx) (k : Int) : (mkN t b k).is = mkIs (k + 4 * t.bs.length) t.is.length := by cases t; rfl
theorem mkN_ks (t : Nd) (b : Bx) (k : Int) : (mkN t b k).ks = mkN.mkNs t.ks (k + 4 * t.bs.length + t.is.length) := by cases t; rfl
/-- What was marked in a list of nodes is held. -/
def HdC (ks : List Nd) : Prop := ∀ (a : Option Addr) (c : Nat) (k : Int) (w : World), NdsIn 0 w a c (mkN.mkNs ks k) → 0 ≤ k → k + ndC.ndsC ks ≤ 100000000 →
  Calls Tryz.prog 41 #[.slice a ks.length c, .int .i64 k] w fun e w' => e = .returned (.int .i64 (k + ndC.ndsC ks)) ∧ w' = w

set_option maxRecDepth 20000 in
set_option maxHeartbeats 4000000 in
theorem heldNodeS_step {ks : List Nd} (ih : ∀ t ∈ ks, HdC t.ks) : HdC ks := by
  intro a c k w N h0 hk
  have IH : Hid (∀ t ∈ ks, HdC t.ks) := ih
  have hm := N.max
  have hf := N.fits
  rw [mkNs_len] at hf
  unfold maxLen at hm
  have HSZ : Hid (∀ j, j ≤ ks.length → ndC.ndsC (ks.take j) ≤ ndC.ndsC ks) := fun j _ => ndsC_le ks j
  have NN : Hid (NdsIn 0 w a c (mkN.mkNs ks k)) := N
  clear ih N
  go_enter Tryz.func41, Tryz.ntmps41
  go_wp2
  go_loopw [1, 5] (fun s1 i wr => ∃ (j : Nat) (z : Int), j ≤ ks.length ∧ i = .int .i64 j ∧ s1 = .int .i64 z ∧ Hid (z = k + ndC.ndsC (ks.take j)) ∧ Hid (wr = w)) (fun _ i _ => ks.length - (intOf i).toNat)
  case atStart => exact ⟨0, k, Nat.zero_le _, rfl, rfl, by show k = _; simp [ndC.ndsC], rfl⟩
  case round =>
    obtain ⟨j, z, hj, rfl, rfl, HZ, hw⟩ := hrel
    have hw' := hw.out
    subst hw'
    by_cases hlt : j < ks.length
    · obtain ⟨p, o, ea, hcell⟩ := NN.out.cells (by intro e; have := congrArg List.length e; rw [mkNs_len, List.length_nil] at this; omega)
      obtain ⟨v1, v2, v3, S, ND⟩ := hcell j (by rw [mkNs_len]; exact hlt)
      have HMB : Hid (ndA (mkN.mkNs ks k) j = mkN (ndA ks j) (z, z + 1, z + 1 + 1, z + 1 + 1 + 1) (z + 1 + 1 + 1 + 1)) := by show _ = _; rw [HZ.out]; exact mkNs_at ks k j hlt
      have HB : Hid ((ndA (mkN.mkNs ks k) j).b = (z, z + 1, z + 1 + 1, z + 1 + 1 + 1)) := by show _ = _; rw [HMB.out]; cases ndA ks j; rfl
      rw [HB.out] at S
      rw [HMB.out] at ND
      obtain ⟨b1, d1, b2, d2, b3, d3, ev1, ev2, ev3, s1, _, s2, _, NK⟩ := ND.open
      rw [mkN_bs] at s1 ev1
      rw [mkN_is] at s2 ev2
      rw [mkN_ks] at NK ev3
      rw [mkBs_len] at ev1
      rw [mkIs_len] at ev2
      rw [mkNs_len] at ev3
      subst ev1 ev2 ev3
      obtain ⟨⟨c0, c1, c2, c3⟩, f4, f5, f6⟩ := S
      dsimp only at c0 c1 c2 c3
      have hs1 := HSZ.out (j + 1) (by omega)
      have hsz : Hid (ndC.ndsC (ks.take (j + 1)) = ndC.ndsC (ks.take j) + (4 + ndC (ndA ks j))) := ndsC_at hlt
      have hsn : Hid (ndC (ndA ks j) = 4 * (ndA ks j).bs.length + (ndA ks j).is.length + ndC.ndsC (ndA ks j).ks) := by show _ = _; cases ndA ks j; rfl
      have HZ2 : Hid (z + 1 + 1 + 1 + 1 + 4 * (ndA ks j).bs.length + (ndA ks j).is.length + ndC.ndsC (ndA ks j).ks = k + ndC.ndsC (ks.take (j + 1))) := by show _ = _; rw [hsz.out, hsn.out, HZ.out]; omega
      have hzb : z + 1 + 1 + 1 + 1 + 4 * ((ndA ks j).bs.length : Int) + (ndA ks j).is.length + ndC.ndsC (ndA ks j).ks ≤ 100000000 := by rw [HZ2.out]; omega
      have hz0 : 0 ≤ z := by rw [HZ.out]; omega
      have CK : HdC (ndA ks j).ks := IH.out _ (ndA_mem hlt)
      unfold HdC at CK
      have h1 := s1.max
      have h1' := s1.fits
      have h2 := s2.max
      have h2' := s2.fits
      have h3 := NK.max
      have h3' := NK.fits
      rw [mkBs_len] at h1'
      rw [mkIs_len] at h2'
      rw [mkNs_len] at h3'
      unfold maxLen at h1 h2 h3
      subst ea
      clear hsz hsn hs1 ND HMB HB hcell
      generalize ndA ks j = t at *
      go_wp2_with fail
      refine (heldBoxF b1 d1 t.bs.length _ _ s1 (by omega) (by omega)).mono ?_
      rintro e w5 ⟨rfl, rfl⟩
      clear s1
      go_wp2_with fail
      refine (heldIntF b2 d2 t.is.length _ _ s2 (by omega) (by omega)).mono ?_
      rintro e w6 ⟨rfl, rfl⟩
      clear s2
      go_wp2_with fail
      refine (CK b3 d3 _ _ NK (by omega) (by omega)).mono ?_
      rintro e w7 ⟨rfl, rfl⟩
      clear NK CK
      go_wp2
      go_roundw
      case rel => exact ⟨j + 1, _, by omega, by go_num, rfl, HZ2, (by first | exact trivial | exact rfl)⟩
      case measure => simp [intOf]; omega
    · obtain rfl : j = ks.length := by omega
      have HE : Hid (z = k + ndC.ndsC ks) := by have := HZ.out; rw [List.take_length] at this; exact this
      clear HZ
      have hz := HE.out
      clear HE
      subst hz
      go_wp2
      go_ret
      exact ⟨rfl, rfl⟩
theorem heldNodeS_F : ∀ ks : List Nd, HdC ks := by
  have key : ∀ t : Nd, HdC t.ks := Nd.ind (fun _ _ _ ks ih => heldNodeS_step ih)
  exact fun ks => key (.mk (0, 0, 0, 0) [] [] ks)

set_option maxRecDepth 20000 in
set_option maxHeartbeats 4000000 in
theorem heldNode_F (t : Nd) (b x : Bx) (v1 v2 v3 : Value) (w : World) (N : NdIn 0 w (mkN t b 1) v1 v2 v3) (hs : ndSz t ≤ 1048576) :
    Calls Tryz.prog 17 #[.agg #[.int .i64 x.1, .int .i64 x.2.1, .int .i64 x.2.2.1, .int .i64 x.2.2.2, v1, v2, v3], .int .i64 1] w fun e w' => e = .returned (.int .i64 (1 + ndC t)) ∧ Below w.heap.size w w' := by
  obtain ⟨b1, d1, b2, d2, b3, d3, ev1, ev2, ev3, s1, _, s2, _, NK⟩ := N.open
  rw [mkN_bs] at s1 ev1
  rw [mkN_is] at s2 ev2
  rw [mkN_ks] at NK ev3
  rw [mkBs_len] at ev1
  rw [mkIs_len] at ev2
  rw [mkNs_len] at ev3
  subst ev1 ev2 ev3
  have hsn : Hid (ndC t = 4 * t.bs.length + t.is.length + ndC.ndsC t.ks) := by show _ = _; cases t; rfl
  have hs2 : 4 * t.bs.length + t.is.length + ndC.ndsC t.ks ≤ 4194304 := by have := ndC_sz t; rw [← hsn.out]; omega
  have HZ : Hid ((1 : Int) + ndC t = 1 + 4 * (t.bs.length : Int) + t.is.length + ndC.ndsC t.ks) := by show _ = _; rw [hsn.out]; omega
  rw [HZ.out]
  have CK : HdC t.ks := heldNodeS_F t.ks
  unfold HdC at CK
  obtain ⟨x1, x2, x3, x4⟩ := x
  dsimp only
  have h1 := s1.max
  have h1' := s1.fits
  have h2 := s2.max
  have h2' := s2.fits
  have h3 := NK.max
  have h3' := NK.fits
  rw [mkBs_len] at h1'
  rw [mkIs_len] at h2'
  rw [mkNs_len] at h3'
  unfold maxLen at h1 h2 h3
  have V := Sev.new w x1 x2 x3 x4 (.slice b1 t.bs.length d1) (.slice b2 t.is.length d2) (.slice b3 t.ks.length d3) 32
  have bn := below1 w (.cells #[.int .i64 x1, .int .i64 x2, .int .i64 x3, .int .i64 x4, .slice b1 t.bs.length d1, .slice b2 t.is.length d2, .slice b3 t.ks.length d3] 32)
  replace s1 := s1.below bn
  replace s2 := s2.below bn
  replace NK := NK.below bn
  clear N hs hsn
  go_enter Tryz.func17, Tryz.ntmps17
  go_upto_region 1 with fail
  generalize w.alloc (.cells #[.int .i64 x1, .int .i64 x2, .int .i64 x3, .int .i64 x4, .slice b1 t.bs.length d1, .slice b2 t.is.length d2, .slice b3 t.ks.length d3] 32) = wx at *
  obtain ⟨_, k4, k5, k6⟩ := id V
  simp only [Nat.zero_add] at k4 k5 k6
  clear V
  go_wp2_with fail
  refine (heldBoxF b1 d1 t.bs.length 1 wx s1 (by omega) (by omega)).mono ?_
  rintro e w5 ⟨rfl, rfl⟩
  clear s1
  go_wp2_with fail
  refine (heldIntF b2 d2 t.is.length _ _ s2 (by omega) (by omega)).mono ?_
  rintro e w6 ⟨rfl, rfl⟩
  clear s2
  go_wp2_with fail
  refine (CK b3 d3 _ _ NK (by omega) (by omega)).mono ?_
  rintro e w7 ⟨rfl, rfl⟩
  clear NK CK
  go_wp2
  go_ret
  exact ⟨rfl, bn⟩
end Go.Proofs.YthompofbdjdloaaGreat
