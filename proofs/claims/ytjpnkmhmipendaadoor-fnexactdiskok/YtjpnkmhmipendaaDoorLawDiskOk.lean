/- The law on DiskOk: at every argument the program's DiskOk is the specification's; it writes into no argument. -/
import Derived.Test.YtjpnkmhmipendaaDoorTakI
import Derived.Test.YtjpnkmhmipendaaDoorDkU
namespace Go.Proofs.YtjpnkmhmipendaaDoor
open Go.RowKit

set_option maxRecDepth 20000 in
set_option maxHeartbeats 2000000 in
theorem lawDiskOk (a a2 : Option Addr) (c c2 : Nat) (bs : List Int) (qs : List Wr) (w : World) (h : SeesB w a c bs) (k : SeesQ w a2 c2 qs) (b0 : Addr) (E : Er b0 w) :
    Calls Tryd.prog 3 #[.agg #[.slice a bs.length c, .slice a2 qs.length c2]] w fun e w' => e = .returned (.bool true) ∧ Below w.heap.size w w' := by
  have hm := h.max
  have hf := h.fits
  unfold maxLen at hm
  have HB : Hid (SeesB w a c bs) := h
  have HE : Hid (Er b0 w) := E
  have wp := E.pos
  have HQ : Hid (SeesQ w a2 c2 qs) := k
  have B := below1 w (.cells #[.slice a bs.length c, .slice a2 qs.length c2] 25)
  have V := Box2.new w (lo := w.heap.size) (Nat.le_refl _) (.slice a bs.length c) (.slice a2 qs.length c2) 25
  clear h k E
  go_enter Tryd.func3, Tryd.ntmps3
  go_wp2_with fail
  refine (szDisk_any a a2 c c2 bs.length qs 1048576 _ (by omega) (HQ.out.below B) ⟨by omega, by omega⟩).mono ?_
  rintro e w1 ⟨z, rfl, hz, hb⟩
  have HZ : Hid (z = -1 ∨ (0 ≤ z ∧ z + bs.length + (uptoQ qs qs.length : Nat) = 1048576)) := hz
  replace V := V.below hb
  replace B := B.trans (hb.mono B.size)
  clear hb hz
  by_cases h0 : z < 0
  · go_wp2
    go_ret
    exact ⟨rfl, B⟩
  · have L1 : Hid (bs.length ≤ 1048576) := by show _ ≤ _; have := HZ.out; omega
    have L2 : Hid (uptoQ qs qs.length ≤ 1048576) := by show _ ≤ _; have := HZ.out; omega
    obtain ⟨v0, v1, vf, _⟩ := id V
    go_wp2_with fail
    refine (toDisk_any a a2 c c2 bs qs _ (HB.out.below B) (HQ.out.below B) L1.out L2.out).mono ?_
    rintro e w2 ⟨a3, b3, us, rfl, D2, S2, hb⟩
    replace V := V.below hb
    replace B := B.trans (hb.mono B.size)
    clear hb v0 v1 vf
    go_wp2_with fail
    refine (specDiskOk (some a3) b3 bs.length qs.length us bs qs _ D2).mono ?_
    rintro e w3 ⟨r, rfl, hr, hb⟩
    have HR : Hid (r = true ↔ DkOk bs qs) := hr
    replace V := V.below hb
    replace B := B.trans (hb.mono B.size)
    clear hb D2 hr S2
    obtain ⟨v0, v1, vf, _⟩ := id V
    go_wp2_with fail
    refine (toDisk_any a a2 c c2 bs qs _ (HB.out.below B) (HQ.out.below B) L1.out L2.out).mono ?_
    rintro e w4 ⟨a4, b4, vs, rfl, D4, S4, hb⟩
    replace V := V.below hb
    replace B := B.trans (hb.mono B.size)
    clear hb v0 v1 vf
    have X := Box2.new w4 (lo := w.heap.size) B.size (.slice (some a4) bs.length bs.length) (.slice b4 qs.length qs.length) 30
    have b5 := below1 w4 (.cells #[.slice (some a4) bs.length bs.length, .slice b4 qs.length qs.length] 30)
    replace V := V.below b5
    replace D4 := D4.below b5
    replace B := B.trans (b5.mono B.size)
    clear b5
    go_wp2_with fail
    refine (implDiskOk b0 (some a4) b4 bs.length qs.length vs bs qs _ D4 (HE.out.below B wp)).mono ?_
    rintro e w5 ⟨r2, rfl, hr2, hb⟩
    obtain rfl : r = r2 := by
      have h1 := HR.out
      cases r <;> cases r2 <;> simp_all
    replace V := V.below hb
    replace X := X.below hb
    replace D4 := D4.below hb
    replace B := B.trans (hb.mono B.size)
    clear hb hr2 HR
    have hrn : (r != r) = false := by simp
    generalize w4.heap.size = p4 at *
    obtain ⟨v0, v1, vf, _⟩ := id V
    obtain ⟨x0, x1, xf, _⟩ := id X
    go_wp2_with fail
    have k0 : w5.cell? ⟨w.heap.size, 0, none⟩ = some (.slice a bs.length c) ∧ w5.cell? ⟨w.heap.size, 1, none⟩ = some (.slice a2 qs.length c2) ∧ w5.cell? ⟨p4, 0, none⟩ = some (.slice (some a4) bs.length bs.length) ∧ w5.cell? ⟨p4, 1, none⟩ = some (.slice b4 qs.length qs.length) := ⟨v0, v1, x0, x1⟩
    have B1 : Below w5.heap.size w5 w5 := Below.refl _ _
    clear v0 v1 vf x0 x1 xf
    go_region_held3 (fun w' => w'.cell? ⟨w.heap.size, 0, none⟩ = some (.slice a bs.length c) ∧ w'.cell? ⟨w.heap.size, 1, none⟩ = some (.slice a2 qs.length c2) ∧ w'.cell? ⟨p4, 0, none⟩ = some (.slice (some a4) bs.length bs.length) ∧ w'.cell? ⟨p4, 1, none⟩ = some (.slice b4 qs.length qs.length))
      (first | exact k0 | exact ⟨bat B1 k0.1, bat B1 k0.2.1, bat B1 k0.2.2.1, bat B1 k0.2.2.2⟩)
      (first
        | (go_at_call 10; refine (toDisk_any a a2 c c2 bs qs _ (HB.out.below (B.trans (B1.drew.mono B.size))) (HQ.out.below (B.trans (B1.drew.mono B.size))) L1.out L2.out).mono ?_; rintro e w6 ⟨a6, b6, us6, rfl, D6, _, hb⟩; replace B1 := B1.drew.trans (hb.mono B1.drew.size))
        | (go_at_call 12; refine (eqDisk_any (some a4) b4 (some a6) b6 bs.length qs.length bs.length qs.length vs us6 bs qs _ (D4.below B1) D6).mono ?_; rintro e w7 ⟨rfl, hb⟩; replace B1 := B1.trans (hb.mono B1.size)))
    replace B := B.trans (B1.mono B.size)
    go_wp2
    go_ret
    exact ⟨rfl, B⟩
end Go.Proofs.YtjpnkmhmipendaaDoor
