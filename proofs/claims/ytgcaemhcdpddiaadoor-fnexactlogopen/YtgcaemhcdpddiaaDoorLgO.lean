/- The specification's LogOpen. -/
import Derived.Test.YtgcaemhcdpddiaaDoorLgA
import Derived.Test.YtgcaemhcdpddiaaDoorLgG
import Derived.Deep.DeepCutAuto
namespace Go.Proofs.YtgcaemhcdpddiaaDoor
open Go.RowKit

set_option maxRecDepth 20000 in
set_option maxHeartbeats 2000000 in
theorem l12Region_any {lo : Nat} (ad : Addr) (a2 : Option Addr) (c c2 : Nat) (vs0 : List Value) (bs : List Int) (qs : List Wr) (F L : Int) (w : World) (h : DkR lo w (.slice (some ad) bs.length c) (.slice a2 qs.length c2) vs0 bs qs) (hb0 : bs.length ≤ 2000000) :
    Calls Tryd.prog 16 #[.agg #[.slice (some ad) bs.length c, .slice a2 qs.length c2], .int .i64 F, .int .i64 L] w fun e w' => ∃ r : Bool, e = .returned (.bool r) ∧ (r = true ↔ OpIn bs qs F L) ∧ Below w.heap.size w w' := by
  have HD : Hid (DkR lo w (.slice (some ad) bs.length c) (.slice a2 qs.length c2) vs0 bs qs) := h
  have B := below1 w (.cells #[.slice (some ad) bs.length c, .slice a2 qs.length c2] 34)
  have V := Box2.new w (lo := w.heap.size) (Nat.le_refl _) (.slice (some ad) bs.length c) (.slice a2 qs.length c2) 34
  have HO : Hid (OpIn bs qs F L ↔ DkOk bs qs ∧ 0 ≤ F ∧ F ≤ L ∧ L < ((bs.length / 64 : Nat) : Int)) := by show _ ↔ _; exact Iff.rfl
  obtain ⟨m, hm⟩ : ∃ m, Hid (bs.length / 64 = m) := ⟨_, rfl⟩
  clear h
  go_enter Tryd.func16, Tryd.ntmps16
  go_upto_region 1 with fail
  generalize w.alloc (.cells #[.slice (some ad) bs.length c, .slice a2 qs.length c2] 34) = W0 at *
  obtain ⟨v0, v1, vf, _⟩ := id V
  go_wp2_with fail
  refine (specDiskOk (some ad) a2 c c2 vs0 bs qs _ (HD.out.below B)).mono ?_
  rintro e w1 ⟨r, rfl, hr, hb⟩
  replace V := V.below hb
  replace B := B.trans (hb.mono B.size)
  clear hb v0 v1 vf
  cases r with
  | false =>
    have Y : Hid (¬OpIn bs qs F L) := fun q => by have := hr.2 (HO.out.1 q).1; cases this
    clear hr HO
    go_wp2
    go_ret
    first | exact ⟨false, rfl, ⟨(fun q => by cases q), fun q => absurd q Y.out⟩, B⟩ | exact .inl ⟨rfl, Y.out, B⟩
  | true =>
    have OK : Hid (DkOk bs qs) := hr.1 rfl
    clear hr
    by_cases h1 : 0 ≤ F ∧ F ≤ L
    · have d1 := in_yes h1
      obtain ⟨v0, v1, vf, _⟩ := id V
      go_wp2_with fail
      refine (l1InD _ _ _ _).mono ?_
      rintro e w2 ⟨rfl, rfl⟩
      rw [d1]
      go_wp2_with fail
      refine (l11Many_any (some ad) a2 c bs.length c2 qs.length m _ hm.out (by omega)).mono ?_
      rintro e w3 ⟨rfl, hb⟩
      replace B := B.trans (hb.mono B.size)
      clear hb v0 v1 vf V
      have HR : Hid (decide (L < (m : Int)) = true ↔ OpIn bs qs F L) := by
        show _ ↔ _
        rw [decide_eq_true_iff, HO.out, hm.out]
        exact ⟨fun q => ⟨OK.out, h1.1, h1.2, q⟩, fun q => q.2.2.2⟩
      clear HO d1 h1
      go_wp2
      go_ret
      first | exact ⟨_, rfl, HR.out, B⟩ | exact ⟨HR.out, B⟩
    · have d1 := in_no h1
      have Y : Hid (¬OpIn bs qs F L) := fun q => h1 ⟨(HO.out.1 q).2.1, (HO.out.1 q).2.2.1⟩
      clear h1 HO
      go_wp2_with fail
      refine (l1InD _ _ _ _).mono ?_
      rintro e w2 ⟨rfl, rfl⟩
      rw [d1]
      go_wp2
      go_ret
      first | exact ⟨false, rfl, ⟨(fun q => by cases q), fun q => absurd q Y.out⟩, B⟩ | exact .inl ⟨rfl, Y.out, B⟩

theorem RsRes.in {bs : List Int} {qs : List Wr} {F L : Int} {k : Nat} {res : List Int} {r : Bool} (h : RsRes bs qs (F + (k : Int)) res r) (o : OpIn bs qs F L) (hk : (k : Int) ≤ L - F) : res = secN (syN bs qs qs.length) (F.toNat + k) ∧ r = true := by
  obtain ⟨d, f0, f1, f2⟩ := o
  rcases h with ⟨_, e, hr⟩ | ⟨n, _, _⟩
  · have e2 : (F + (k : Int)).toNat = F.toNat + k := by omega
    refine ⟨?_, hr⟩
    rw [e, e2]
    exact rsN_sync d (by omega) _ (Nat.le_refl _)
  · exact absurd ⟨d, by omega, by omega⟩ n
end Go.Proofs.YtgcaemhcdpddiaaDoor
