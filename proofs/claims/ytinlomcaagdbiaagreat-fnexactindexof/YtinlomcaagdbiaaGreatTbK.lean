import Derived.Test.YtinlomcaagdbiaaGreatTbQ
import Derived.Test.YtinlomcaagdbiaaGreatTrZ
import Derived.Test.YtinlomcaagdbiaaGreatSBox
import Derived.Test.YtinlomcaagdbiaaGreatRing
import Derived.Test.YtinlomcaagdbiaaGreatSeg
import Derived.BigRegion
import Derived.Deep.Cut
/- The law's marks on a tree: what was marked is still held. -/
namespace Go.Proofs.YtinlomcaagdbiaaGreat
open Go.RowKit

set_option maxRecDepth 20000 in
set_option maxHeartbeats 1000000 in
theorem heldBoxF (a : Option Addr) (c n : Nat) (k : Int) (w : World) (S : SeesX w a c (mkBs k n)) (h0 : 0 ≤ k) (hk : k + 4 * (n : Int) ≤ 100000000) :
  Calls Tryz.prog 30 #[.slice a n c, .int .i64 k] w fun e w' => e = .returned (.int .i64 (k + 4 * n)) ∧ w' = w := by
 have hm := S.max
 have hf := S.fits
 rw [mkBs_len] at hf
 unfold maxLen at hm
 go_enter Tryz.func30, Tryz.ntmps30
 go_wp2
 go_loopw [1, 5] (fun s1 i wr => ∃ j : Nat, j ≤ n ∧ i = .int .i64 j ∧ s1 = .int .i64 (k + 4 * (j : Int)) ∧ Hid (wr = w)) (fun _ i _ => n - (intOf i).toNat)
 case atStart => exact ⟨0, Nat.zero_le _, rfl, by simp, rfl⟩
 case round =>
  obtain ⟨j, hj, rfl, rfl, hw⟩ := hrel
  have hw' := hw.out
  subst hw'
  by_cases hlt : j < n
  ·obtain ⟨b, off, rfl, hc⟩ := S.cells (by intro e; have := congrArg List.length e; rw [mkBs_len] at this; simp at this; omega)
   have F := hc j (by rw [mkBs_len]; exact hlt)
   rw [mkBs_at hlt] at F
   obtain ⟨c0, c1, c2, c3⟩ := F
   dsimp only at c0 c1 c2 c3
   clear hc S
   go_wp2
   go_roundw
   case rel => exact ⟨j + 1, by omega, by go_num, by go_num, (by first | exact trivial | exact rfl)⟩
   case measure => simp [intOf]; omega
  ·obtain rfl : j = n := by omega
   clear S
   go_wp2
   go_ret
   exact ⟨rfl, rfl⟩

set_option maxRecDepth 20000 in
set_option maxHeartbeats 1000000 in
theorem heldIntF (a : Option Addr) (c n : Nat) (k : Int) (w : World) (S : SeesI w a c (mkIs k n)) (h0 : 0 ≤ k) (hk : k + (n : Int) ≤ 100000000) :
  Calls Tryz.prog 31 #[.slice a n c, .int .i64 k] w fun e w' => e = .returned (.int .i64 (k + n)) ∧ w' = w := by
 have hm := S.max
 have hf := S.fits
 rw [mkIs_len] at hf
 unfold maxLen at hm
 go_enter Tryz.func31, Tryz.ntmps31
 go_wp2
 go_loopw [1, 5] (fun s1 i wr => ∃ j : Nat, j ≤ n ∧ i = .int .i64 j ∧ s1 = .int .i64 (k + (j : Int)) ∧ Hid (wr = w)) (fun _ i _ => n - (intOf i).toNat)
 case atStart => exact ⟨0, Nat.zero_le _, rfl, by simp, rfl⟩
 case round =>
  obtain ⟨j, hj, rfl, rfl, hw⟩ := hrel
  have hw' := hw.out
  subst hw'
  by_cases hlt : j < n
  ·obtain ⟨b, off, rfl, hc⟩ := S.cells (by intro e; have := congrArg List.length e; rw [mkIs_len] at this; simp at this; omega)
   have c0 := hc j (by rw [mkIs_len]; exact hlt)
   rw [mkIs_at hlt] at c0
   clear hc S
   go_wp2
   go_roundw
   case rel => exact ⟨j + 1, by omega, by go_num, by go_num, (by first | exact trivial | exact rfl)⟩
   case measure => simp [intOf]; omega
  ·obtain rfl : j = n := by omega
   clear S
   go_wp2
   go_ret
   exact ⟨rfl, rfl⟩

theorem mkN_bs (t : Nd) (b : Bx) (k : Int) : (mkN t b k).bs = mkBs k t.bs.length := by cases t; rfl
theorem mkN_is (t : Nd) (b : Bx) (k : Int) : (mkN t b k).is = mkIs (k + 4 * t.bs.length) t.is.length := by cases t; rfl
theorem mkN_ks (t : Nd) (b : Bx) (k : Int) : (mkN t b k).ks = mkN.mkNs t.ks (k + 4 * t.bs.length + t.is.length) := by cases t; rfl
def HdC (ks : List Nd) : Prop := ∀ (a : Option Addr) (c : Nat) (k : Int) (w : World), NdsIn 0 w a c (mkN.mkNs ks k) → 0 ≤ k → k + ndC.ndsC ks ≤ 100000000 →
 Calls Tryz.prog 32 #[.slice a ks.length c, .int .i64 k] w fun e w' => e = .returned (.int .i64 (k + ndC.ndsC ks)) ∧ w' = w

set_option maxRecDepth 20000 in
set_option maxHeartbeats 4000000 in
theorem heldNodeS_step {ks : List Nd} (ih : ∀ t ∈ ks, HdC t.ks) : HdC ks := by
 intro a c k w N h0 hk
 have IH : Hid (∀ t ∈ ks, HdC t.ks) := ih
 have hm := N.max
 have hf := N.fits
 rw [mkNs_len] at hf
 unfold maxLen at hm
 have HSZ : Hid (∀ j, j ≤ ks.length → ndC.ndsC (ks.take j) ≤ ndC.ndsC ks) := fun j _ => ndsC_le ks j
 have NN : Hid (NdsIn 0 w a c (mkN.mkNs ks k)) := N
 clear ih N
 go_enter Tryz.func32, Tryz.ntmps32
 go_wp2
 go_loopw [1, 5] (fun s1 i wr => ∃ (j : Nat) (z : Int), j ≤ ks.length ∧ i = .int .i64 j ∧ s1 = .int .i64 z ∧ Hid (z = k + ndC.ndsC (ks.take j)) ∧ Hid (wr = w)) (fun _ i _ => ks.length - (intOf i).toNat)
 case atStart => exact ⟨0, k, Nat.zero_le _, rfl, rfl, by show k = _; simp [ndC.ndsC], rfl⟩
 case round =>
  obtain ⟨j, z, hj, rfl, rfl, HZ, hw⟩ := hrel
  have hw' := hw.out
  subst hw'
  by_cases hlt : j < ks.length
  ·obtain ⟨p, o, ea, hcell⟩ := NN.out.cells (by intro e; have := congrArg List.length e; rw [mkNs_len, List.length_nil] at this; omega)
   obtain ⟨v1, v2, v3, S, ND⟩ := hcell j (by rw [mkNs_len]; exact hlt)
   have HMB : Hid (ndA (mkN.mkNs ks k) j = mkN (ndA ks j) (z, z + 1, z + 1 + 1, z + 1 + 1 + 1) (z + 1 + 1 + 1 + 1)) := by show _ = _; rw [HZ.out]; exact mkNs_at ks k j hlt
   have HB : Hid ((ndA (mkN.mkNs ks k) j).b = (z, z + 1, z + 1 + 1, z + 1 + 1 + 1)) := by show _ = _; rw [HMB.out]; cases ndA ks j; rfl
   rw [HB.out] at S
   rw [HMB.out] at ND
   obtain ⟨b1, d1, b2, d2, b3, d3, ev1, ev2, ev3, s1, _, s2, _, NK⟩ := ND.open
   rw [mkN_bs] at s1 ev1
   rw [mkN_is] at s2 ev2
   rw [mkN_ks] at NK ev3
   rw [mkBs_len] at ev1
   rw [mkIs_len] at ev2
   rw [mkNs_len] at ev3
   subst ev1 ev2 ev3
   obtain ⟨⟨c0, c1, c2, c3⟩, f4, f5, f6⟩ := S
   dsimp only at c0 c1 c2 c3
   have hs1 := HSZ.out (j + 1) (by omega)
   have hsz : Hid (ndC.ndsC (ks.take (j + 1)) = ndC.ndsC (ks.take j) + (4 + ndC (ndA ks j))) := ndsC_at hlt
   have hsn : Hid (ndC (ndA ks j) = 4 * (ndA ks j).bs.length + (ndA ks j).is.length + ndC.ndsC (ndA ks j).ks) := by show _ = _; cases ndA ks j; rfl
   have HZ2 : Hid (z + 1 + 1 + 1 + 1 + 4 * (ndA ks j).bs.length + (ndA ks j).is.length + ndC.ndsC (ndA ks j).ks = k + ndC.ndsC (ks.take (j + 1))) := by show _ = _; rw [hsz.out, hsn.out, HZ.out]; omega
   have hzb : z + 1 + 1 + 1 + 1 + 4 * ((ndA ks j).bs.length : Int) + (ndA ks j).is.length + ndC.ndsC (ndA ks j).ks ≤ 100000000 := by rw [HZ2.out]; omega
   have hz0 : 0 ≤ z := by rw [HZ.out]; omega
   have CK : HdC (ndA ks j).ks := IH.out _ (ndA_mem hlt)
   unfold HdC at CK
   have h1 := s1.max
   have h1' := s1.fits
   have h2 := s2.max
   have h2' := s2.fits
   have h3 := NK.max
   have h3' := NK.fits
   rw [mkBs_len] at h1'
   rw [mkIs_len] at h2'
   rw [mkNs_len] at h3'
   unfold maxLen at h1 h2 h3
   subst ea
   clear hsz hsn hs1 ND HMB HB hcell
   generalize ndA ks j = t at *
   go_wp2_with fail
   refine (heldBoxF b1 d1 t.bs.length _ _ s1 (by omega) (by omega)).mono ?_
   rintro e w5 ⟨rfl, rfl⟩
   clear s1
   go_wp2_with fail
   refine (heldIntF b2 d2 t.is.length _ _ s2 (by omega) (by omega)).mono ?_
   rintro e w6 ⟨rfl, rfl⟩
   clear s2
   go_wp2_with fail
   refine (CK b3 d3 _ _ NK (by omega) (by omega)).mono ?_
   rintro e w7 ⟨rfl, rfl⟩
   clear NK CK
   go_wp2
   go_roundw
   case rel => exact ⟨j + 1, _, by omega, by go_num, rfl, HZ2, (by first | exact trivial | exact rfl)⟩
   case measure => simp [intOf]; omega
  ·obtain rfl : j = ks.length := by omega
   have HE : Hid (z = k + ndC.ndsC ks) := by have := HZ.out; rw [List.take_length] at this; exact this
   clear HZ
   have hz := HE.out
   clear HE
   subst hz
   go_wp2
   go_ret
   exact ⟨rfl, rfl⟩
theorem heldNodeS_F : ∀ ks : List Nd, HdC ks := by
 have key : ∀ t : Nd, HdC t.ks := Nd.ind (fun _ _ _ ks ih => heldNodeS_step ih)
 exact fun ks => key (.mk (0, 0, 0, 0) [] [] ks)

set_option maxRecDepth 20000 in
set_option maxHeartbeats 4000000 in
theorem heldNode_F (t : Nd) (b x : Bx) (v1 v2 v3 : Value) (w : World) (N : NdIn 0 w (mkN t b 1) v1 v2 v3) (hs : ndSz t ≤ 1048576) :
  Calls Tryz.prog 12 #[.agg #[.int .i64 x.1, .int .i64 x.2.1, .int .i64 x.2.2.1, .int .i64 x.2.2.2, v1, v2, v3], .int .i64 1] w fun e w' => e = .returned (.int .i64 (1 + ndC t)) ∧ Below w.heap.size w w' := by
 obtain ⟨b1, d1, b2, d2, b3, d3, ev1, ev2, ev3, s1, _, s2, _, NK⟩ := N.open
 rw [mkN_bs] at s1 ev1
 rw [mkN_is] at s2 ev2
 rw [mkN_ks] at NK ev3
 rw [mkBs_len] at ev1
 rw [mkIs_len] at ev2
 rw [mkNs_len] at ev3
 subst ev1 ev2 ev3
 have hsn : Hid (ndC t = 4 * t.bs.length + t.is.length + ndC.ndsC t.ks) := by show _ = _; cases t; rfl
 have hs2 : 4 * t.bs.length + t.is.length + ndC.ndsC t.ks ≤ 4194304 := by have := ndC_sz t; rw [← hsn.out]; omega
 have HZ : Hid ((1 : Int) + ndC t = 1 + 4 * (t.bs.length : Int) + t.is.length + ndC.ndsC t.ks) := by show _ = _; rw [hsn.out]; omega
 rw [HZ.out]
 have CK : HdC t.ks := heldNodeS_F t.ks
 unfold HdC at CK
 obtain ⟨x1, x2, x3, x4⟩ := x
 dsimp only
 have h1 := s1.max
 have h1' := s1.fits
 have h2 := s2.max
 have h2' := s2.fits
 have h3 := NK.max
 have h3' := NK.fits
 rw [mkBs_len] at h1'
 rw [mkIs_len] at h2'
 rw [mkNs_len] at h3'
 unfold maxLen at h1 h2 h3
 have V := Sev.new w x1 x2 x3 x4 (.slice b1 t.bs.length d1) (.slice b2 t.is.length d2) (.slice b3 t.ks.length d3) 32
 have bn := below1 w (.cells #[.int .i64 x1, .int .i64 x2, .int .i64 x3, .int .i64 x4, .slice b1 t.bs.length d1, .slice b2 t.is.length d2, .slice b3 t.ks.length d3] 32)
 replace s1 := s1.below bn
 replace s2 := s2.below bn
 replace NK := NK.below bn
 clear N hs hsn
 go_enter Tryz.func12, Tryz.ntmps12
 go_upto_region 1 with fail
 generalize w.alloc (.cells #[.int .i64 x1, .int .i64 x2, .int .i64 x3, .int .i64 x4, .slice b1 t.bs.length d1, .slice b2 t.is.length d2, .slice b3 t.ks.length d3] 32) = wx at *
 obtain ⟨_, k4, k5, k6⟩ := id V
 simp only [Nat.zero_add] at k4 k5 k6
 clear V
 go_wp2_with fail
 refine (heldBoxF b1 d1 t.bs.length 1 wx s1 (by omega) (by omega)).mono ?_
 rintro e w5 ⟨rfl, rfl⟩
 clear s1
 go_wp2_with fail
 refine (heldIntF b2 d2 t.is.length _ _ s2 (by omega) (by omega)).mono ?_
 rintro e w6 ⟨rfl, rfl⟩
 clear s2
 go_wp2_with fail
 refine (CK b3 d3 _ _ NK (by omega) (by omega)).mono ?_
 rintro e w7 ⟨rfl, rfl⟩
 clear NK CK
 go_wp2
 go_ret
 exact ⟨rfl, bn⟩
end Go.Proofs.YtinlomcaagdbiaaGreat

/- Lists of boxes: whether two are equal, their marks. -/
namespace Go.Proofs.YtinlomcaagdbiaaGreat
open Go.RowKit

set_option maxRecDepth 20000 in
set_option maxHeartbeats 1000000 in
theorem eqBoxs (a b : Option Addr) (c d : Nat) (bs : List Bx) (w : World) (h : SeesX w a c bs) (k : SeesX w b d bs) :
  Calls Tryz.prog 22 #[.slice a bs.length c, .slice b bs.length d] w fun e w' => e = .returned (.bool true) ∧ Below w.heap.size w w' := by
 have hm := h.max
 have hf := h.fits
 unfold maxLen at hm
 have hne : ((bs.length : Int) != (bs.length : Int)) = false := by simp
 go_enter Tryz.func22, Tryz.ntmps22
 go_wp2
 go_loopw [5] (fun i wr => ∃ j : Nat, j ≤ bs.length ∧ i = .int .i64 j ∧ Below w.heap.size w wr) (fun i _ => bs.length - (intOf i).toNat)
 case atStart => exact ⟨0, Nat.zero_le _, rfl, Below.refl _ _⟩
 case round =>
  obtain ⟨j, hj, rfl, B⟩ := hrel
  rename World => wr
  by_cases hlt : j < bs.length
  ·obtain ⟨b1, o1, rfl, hc⟩ := (h.below B).cells (by intro e; simp [e] at hlt)
   obtain ⟨b2, o2, rfl, hd⟩ := (k.below B).cells (by intro e; simp [e] at hlt)
   obtain ⟨g1, g2, g3, g4⟩ := hc j hlt
   obtain ⟨e1, e2, e3, e4⟩ := hd j hlt
   generalize bxAt bs j = x at *
   obtain ⟨x1, x2, x3, x4⟩ := x
   dsimp only at g1 g2 g3 g4 e1 e2 e3 e4
   clear hc hd
   go_wp2_with fail
   have k0 : Four wr b1 (o1 + j * 4) (x1, x2, x3, x4) ∧ Four wr b2 (o2 + j * 4) (x1, x2, x3, x4) := ⟨⟨g1, g2, g3, g4⟩, ⟨e1, e2, e3, e4⟩⟩
   have B1 : Below wr.heap.size wr wr := Below.refl _ _
   go_region_held3 (fun w' => w'.cell? ⟨b1, o1 + j * 4, none⟩ = some (.int .i64 x1) ∧ w'.cell? ⟨b1, o1 + j * 4 + 1, none⟩ = some (.int .i64 x2) ∧ w'.cell? ⟨b1, o1 + j * 4 + 2, none⟩ = some (.int .i64 x3) ∧ w'.cell? ⟨b1, o1 + j * 4 + 3, none⟩ = some (.int .i64 x4) ∧ w'.cell? ⟨b2, o2 + j * 4, none⟩ = some (.int .i64 x1) ∧ w'.cell? ⟨b2, o2 + j * 4 + 1, none⟩ = some (.int .i64 x2) ∧ w'.cell? ⟨b2, o2 + j * 4 + 2, none⟩ = some (.int .i64 x3) ∧ w'.cell? ⟨b2, o2 + j * 4 + 3, none⟩ = some (.int .i64 x4))
    (first | exact ⟨k0.1.1, k0.1.2.1, k0.1.2.2.1, k0.1.2.2.2, k0.2.1, k0.2.2.1, k0.2.2.2.1, k0.2.2.2.2⟩ | exact ⟨bat B1 k0.1.1, bat B1 k0.1.2.1, bat B1 k0.1.2.2.1, bat B1 k0.1.2.2.2, bat B1 k0.2.1, bat B1 k0.2.2.1, bat B1 k0.2.2.2.1, bat B1 k0.2.2.2.2⟩)
    ((go_at_call 21; refine (eqBox_any _ _ _ _ _ _ _ _ _).mono ?_; rintro e w5 ⟨rfl, hb⟩; rw [eqX_refl]; replace B1 := B1.drew.trans (hb.mono B1.drew.size)))
   replace B := B.trans (B1.mono B.size)
   go_wp2_with fail
   go_roundw
   case rel => exact ⟨j + 1, by omega, by go_num, B⟩
   case measure => simp [intOf]; omega
  ·go_wp2
   go_ret
   exact ⟨rfl, B⟩

end Go.Proofs.YtinlomcaagdbiaaGreat

/- Whether two trees are equal, of the same one (eqIntS, eqNodeS, eqNode). -/
namespace Go.Proofs.YtinlomcaagdbiaaGreat
open Go.RowKit

set_option maxRecDepth 20000 in
set_option maxHeartbeats 1000000 in
theorem eqInts (a b : Option Addr) (c d : Nat) (ds : List Int) (w : World) (h : SeesI w a c ds) (k : SeesI w b d ds) :
  Calls Tryz.prog 23 #[.slice a ds.length c, .slice b ds.length d] w fun e w' => e = .returned (.bool true) ∧ Below w.heap.size w w' := by
 have hm := h.max
 have hf := h.fits
 unfold maxLen at hm
 have hne : ((ds.length : Int) != (ds.length : Int)) = false := by simp
 go_enter Tryz.func23, Tryz.ntmps23
 go_wp2
 go_loopw [5] (fun i wr => ∃ j : Nat, j ≤ ds.length ∧ i = .int .i64 j ∧ Below w.heap.size w wr) (fun i _ => ds.length - (intOf i).toNat)
 case atStart => exact ⟨0, Nat.zero_le _, rfl, Below.refl _ _⟩
 case round =>
  obtain ⟨j, hj, rfl, B⟩ := hrel
  rename World => wr
  by_cases hlt : j < ds.length
  ·obtain ⟨b1, o1, rfl, hc⟩ := (h.below B).cells (by intro e; simp [e] at hlt)
   obtain ⟨b2, o2, rfl, hd⟩ := (k.below B).cells (by intro e; simp [e] at hlt)
   have g1 := hc j hlt
   have g2 := hd j hlt
   generalize ds[j]?.getD 0 = x at *
   have hxx : (x != x) = false := by simp
   clear hc hd
   go_wp2_with fail
   go_region
   go_wp2
   go_roundw
   case rel => exact ⟨j + 1, by omega, by go_num, B.drew⟩
   case measure => simp [intOf]; omega
  ·go_wp2
   go_ret
   exact ⟨rfl, B⟩
def EqC (t : Nd) : Prop := ∀ (v1 v2 v3 u1 u2 u3 : Value) (w : World), NdIn 0 w t v1 v2 v3 → NdIn 0 w t u1 u2 u3 →
 Calls Tryz.prog 8 #[ndV t v1 v2 v3, ndV t u1 u2 u3] w fun e w' => e = .returned (.bool true) ∧ Below w.heap.size w w'
def EqsC (ks : List Nd) : Prop := ∀ (a b : Option Addr) (c d : Nat) (w : World), NdsIn 0 w a c ks → NdsIn 0 w b d ks →
 Calls Tryz.prog 24 #[.slice a ks.length c, .slice b ks.length d] w fun e w' => e = .returned (.bool true) ∧ Below w.heap.size w w'

set_option maxRecDepth 20000 in
set_option maxHeartbeats 4000000 in
theorem eqNodeS_step {ks : List Nd} (ih : ∀ k ∈ ks, EqC k) : EqsC ks := by
 intro a b c d w h k
 have IH : Hid (∀ k ∈ ks, EqC k) := ih
 have hn := lenN h
 clear ih
 have hne : ((ks.length : Int) != (ks.length : Int)) = false := by simp
 go_enter Tryz.func24, Tryz.ntmps24
 go_wp2
 go_loopw [5] (fun i wr => ∃ j : Nat, j ≤ ks.length ∧ i = .int .i64 j ∧ Below w.heap.size w wr) (fun i _ => ks.length - (intOf i).toNat)
 case atStart => exact ⟨0, Nat.zero_le _, rfl, Below.refl _ _⟩
 case round =>
  obtain ⟨j, hj, rfl, B⟩ := hrel
  rename World => wr
  by_cases hlt : j < ks.length
  ·obtain ⟨b1, o1, rfl, hc⟩ := (h.below B).cells (by intro e; simp [e] at hlt)
   obtain ⟨b2, o2, rfl, hd⟩ := (k.below B).cells (by intro e; simp [e] at hlt)
   obtain ⟨v1, v2, v3, SV, N1⟩ := hc j hlt
   obtain ⟨u1, u2, u3, SU, N2⟩ := hd j hlt
   have C : Hid (∀ W, Below wr.heap.size wr W → Calls Tryz.prog 8 #[ndV (ndA ks j) v1 v2 v3, ndV (ndA ks j) u1 u2 u3] W fun e w' => e = .returned (.bool true) ∧ Below W.heap.size W w') := fun W hb => IH.out _ (ndA_mem hlt) v1 v2 v3 u1 u2 u3 W (NdIn.keep hb _ N1) (NdIn.keep hb _ N2)
   clear hc hd N1 N2
   generalize ndA ks j = t at *
   obtain ⟨⟨x1, x2, x3, x4⟩, ux⟩ : ∃ x, Hid (t.b = x) := ⟨_, rfl⟩
   unfold ndV at C
   rw [ux.out] at SV SU C
   dsimp only at C
   obtain ⟨⟨g0, g1, g2, g3⟩, g4, g5, g6⟩ := SV
   obtain ⟨⟨h0, h1, h2, h3⟩, h4, h5, h6⟩ := SU
   dsimp only at g0 g1 g2 g3 h0 h1 h2 h3
   go_upto_region 6 with fail
   have N : Below wr.heap.size wr wr.drew := (Below.refl _ _).drew
   refine wp_region_held_drew (S := fun w' => Below wr.heap.size wr w') (by kernel_rfl) N (fun hHeld => ?_)
   clear hHeld
   generalize wr.drew = ww0 at *
   refine takeA (i := 0) (h := ?_)
   refine takeA (i := 1) (h := ?_)
   refine takeA (i := 2) (h := ?_)
   refine takeA (i := 3) (hy := by intro wq hSw; have y0 := bat hSw g0; have z0 := bat hSw h0; have y1 := bat hSw g1; have z1 := bat hSw h1; have y2 := bat hSw g2; have z2 := bat hSw h2; have y3 := bat hSw g3; have z3 := bat hSw h3; have y4 := bat hSw g4; have z4 := bat hSw h4; have y5 := bat hSw g5; have z5 := bat hSw h5; have y6 := bat hSw g6; have z6 := bat hSw h6; go_simp <;> with_reducible rfl) (h := ?_)
   refine takeA (i := 4) (h := ?_)
   refine takeA (i := 5) (h := ?_)
   refine takeA (i := 6) (h := ?_)
   refine takeA (i := 7) (hy := by intro wq hSw; have y0 := bat hSw g0; have z0 := bat hSw h0; have y1 := bat hSw g1; have z1 := bat hSw h1; have y2 := bat hSw g2; have z2 := bat hSw h2; have y3 := bat hSw g3; have z3 := bat hSw h3; have y4 := bat hSw g4; have z4 := bat hSw h4; have y5 := bat hSw g5; have z5 := bat hSw h5; have y6 := bat hSw g6; have z6 := bat hSw h6; go_simp <;> with_reducible rfl) (h := ?_)
   refine rdA (i := 8) (h := fun K hK => ?_)
   go_simp
   refine (C.out _ N).mono ?_
   rintro e ww1 ⟨rfl, hb⟩
   replace N := N.trans (hb.mono N.size)
   clear hb
   refine hK.out _ _ N (fun hHeld => ?_)
   clear hK K hHeld
   try simp only [Act.put, pA, pB, pC]
   refine takeA (i := 9) (h := ?_)
   refine wpAnyH_done (by kernel_rfl) ?_ _
   replace B := B.trans (N.mono B.size)
   clear N g0 g1 g2 g3 g4 g5 g6 h0 h1 h2 h3 h4 h5 h6 C
   go_wp2
   go_roundw
   case rel => exact ⟨j + 1, by omega, by go_num, B⟩
   case measure => simp [intOf]; omega
  ·go_wp2
   go_ret
   exact ⟨rfl, B⟩

set_option maxRecDepth 20000 in
set_option maxHeartbeats 4000000 in
theorem eqNode_step (b : Bx) (bs : List Bx) (is : List Int) (ks : List Nd) (ih : EqsC ks) : EqC (.mk b bs is ks) := by
 intro v1 v2 v3 u1 u2 u3 w h k
 obtain ⟨a1, c1, a2, c2, a3, c3, rfl, rfl, rfl, s1, _, s2, _, s3⟩ := h.open
 obtain ⟨x1, x2, x3, x4⟩ := b
 simp only [Nd.bs, Nd.is, Nd.ks] at s1 s2 s3
 obtain ⟨b1, d1, b2, d2, b3, d3, rfl, rfl, rfl, t1, _, t2, _, t3⟩ := k.open
 simp only [Nd.bs, Nd.is, Nd.ks] at t1 t2 t3
 show Calls Tryz.prog 8 #[.agg #[.int .i64 x1, .int .i64 x2, .int .i64 x3, .int .i64 x4, .slice a1 bs.length c1, .slice a2 is.length c2, .slice a3 ks.length c3], .agg #[.int .i64 x1, .int .i64 x2, .int .i64 x3, .int .i64 x4, .slice b1 bs.length d1, .slice b2 is.length d2, .slice b3 ks.length d3]] w _
 have B := below2 w (.cells #[.int .i64 x1, .int .i64 x2, .int .i64 x3, .int .i64 x4, .slice a1 bs.length c1, .slice a2 is.length c2, .slice a3 ks.length c3] 32) (.cells #[.int .i64 x1, .int .i64 x2, .int .i64 x3, .int .i64 x4, .slice b1 bs.length d1, .slice b2 is.length d2, .slice b3 ks.length d3] 32)
 have V := (Sev.new w x1 x2 x3 x4 (.slice a1 bs.length c1) (.slice a2 is.length c2) (.slice a3 ks.length c3) 32).below (below1 _ (.cells #[.int .i64 x1, .int .i64 x2, .int .i64 x3, .int .i64 x4, .slice b1 bs.length d1, .slice b2 is.length d2, .slice b3 ks.length d3] 32))
 have U := Sev.new (w.alloc (.cells #[.int .i64 x1, .int .i64 x2, .int .i64 x3, .int .i64 x4, .slice a1 bs.length c1, .slice a2 is.length c2, .slice a3 ks.length c3] 32)) x1 x2 x3 x4 (.slice b1 bs.length d1) (.slice b2 is.length d2) (.slice b3 ks.length d3) 32
 rw [World.size_alloc] at U
 clear h k
 replace s1 := s1.below B
 replace s2 := s2.below B
 replace s3 := s3.below B
 replace t1 := t1.below B
 replace t2 := t2.below B
 replace t3 := t3.below B
 obtain ⟨⟨k0, k1, k2, k3⟩, k4, k5, k6⟩ := id V
 obtain ⟨⟨l0, l1, l2, l3⟩, l4, l5, l6⟩ := id U
 simp only [Nat.zero_add] at k0 k1 k2 k3 k4 k5 k6 l0 l1 l2 l3 l4 l5 l6
 go_enter Tryz.func8, Tryz.ntmps8
 go_wp2_with fail
 generalize (w.alloc (.cells #[.int .i64 x1, .int .i64 x2, .int .i64 x3, .int .i64 x4, .slice a1 bs.length c1, .slice a2 is.length c2, .slice a3 ks.length c3] 32)).alloc (.cells #[.int .i64 x1, .int .i64 x2, .int .i64 x3, .int .i64 x4, .slice b1 bs.length d1, .slice b2 is.length d2, .slice b3 ks.length d3] 32) = W0 at *
 refine (eqBox_any x1 x2 x3 x4 x1 x2 x3 x4 _).mono ?_
 rintro e w1 ⟨rfl, hb⟩
 rw [eqX_refl]
 replace V := V.below hb
 replace U := U.below hb
 replace s1 := s1.below hb
 replace s2 := s2.below hb
 replace s3 := s3.below hb
 replace t1 := t1.below hb
 replace t2 := t2.below hb
 replace t3 := t3.below hb
 replace B := B.trans (hb.mono B.size)
 clear hb k0 k1 k2 k3 k4 k5 k6 l0 l1 l2 l3 l4 l5 l6
 obtain ⟨⟨k0, k1, k2, k3⟩, k4, k5, k6⟩ := id V
 obtain ⟨⟨l0, l1, l2, l3⟩, l4, l5, l6⟩ := id U
 simp only [Nat.zero_add] at k0 k1 k2 k3 k4 k5 k6 l0 l1 l2 l3 l4 l5 l6
 go_wp2_with fail
 refine (eqBoxs a1 b1 c1 d1 bs _ s1 t1).mono ?_
 rintro e w2 ⟨rfl, hb⟩
 replace V := V.below hb
 replace U := U.below hb
 replace s2 := s2.below hb
 replace s3 := s3.below hb
 replace t2 := t2.below hb
 replace t3 := t3.below hb
 replace B := B.trans (hb.mono B.size)
 clear hb k0 k1 k2 k3 k4 k5 k6 l0 l1 l2 l3 l4 l5 l6
 obtain ⟨⟨k0, k1, k2, k3⟩, k4, k5, k6⟩ := id V
 obtain ⟨⟨l0, l1, l2, l3⟩, l4, l5, l6⟩ := id U
 simp only [Nat.zero_add] at k0 k1 k2 k3 k4 k5 k6 l0 l1 l2 l3 l4 l5 l6
 go_wp2_with fail
 refine (eqInts a2 b2 c2 d2 is _ s2 t2).mono ?_
 rintro e w3 ⟨rfl, hb⟩
 replace V := V.below hb
 replace U := U.below hb
 replace s3 := s3.below hb
 replace t3 := t3.below hb
 replace B := B.trans (hb.mono B.size)
 clear hb k0 k1 k2 k3 k4 k5 k6 l0 l1 l2 l3 l4 l5 l6
 obtain ⟨⟨k0, k1, k2, k3⟩, k4, k5, k6⟩ := id V
 obtain ⟨⟨l0, l1, l2, l3⟩, l4, l5, l6⟩ := id U
 simp only [Nat.zero_add] at k0 k1 k2 k3 k4 k5 k6 l0 l1 l2 l3 l4 l5 l6
 go_wp2_with fail
 refine (ih a3 b3 c3 d3 _ s3 t3).mono ?_
 rintro e w4 ⟨rfl, hb⟩
 replace B := B.trans (hb.mono B.size)
 clear hb k0 k1 k2 k3 k4 k5 k6 l0 l1 l2 l3 l4 l5 l6
 go_wp2
 go_ret
 exact ⟨rfl, B⟩
theorem eqNode_any : ∀ t, EqC t := Nd.ind (fun b bs is ks ih => eqNode_step b bs is ks (eqNodeS_step ih))
end Go.Proofs.YtinlomcaagdbiaaGreat
