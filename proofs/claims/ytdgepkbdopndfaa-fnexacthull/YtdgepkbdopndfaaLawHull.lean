/- The law on Hull: at every argument the program's Hull is the specification's, point by point; it writes into no argument and keeps nothing of one; its answer owns its memory. -/
import Derived.Test.YtdgepkbdopndfaaHulU
import Derived.Test.YtdgepkbdopndfaaMarkR
namespace Go.Proofs.Ytdgepkbdopndfaa
open Go.RowKit

set_option maxRecDepth 20000 in
set_option maxHeartbeats 2000000 in
theorem lawHull (a : Option Addr) (c : Nat) (ps : List (Int × Int)) (w : World) (h : SeesP w a c ps) :
    Calls Try.prog 3 #[.slice a ps.length c] w fun e w' => e = .returned (.bool true) ∧ Below w.heap.size w w' := by
  have hm := h.max
  have hf := h.fits
  unfold maxLen at hm
  go_enter Try.func3, Try.ntmps3
  go_wp2_with fail
  refine (szPts a c ps.length 1048576 _ (by omega) (by omega)).mono ?_
  rintro e w1 ⟨rfl, rfl⟩
  by_cases hz : (1048576 : Int) - ps.length < 0
  · rw [if_pos hz]
    go_wp2
    go_ret
    exact ⟨rfl, Below.refl _ _⟩
  · rw [if_neg hz]
    obtain ⟨z1, hz1⟩ : ∃ z : Int, Hid ((1048576 : Int) - ps.length = z) := ⟨_, rfl⟩
    have z10 : ¬ z1 < 0 := by rw [← hz1.out]; exact hz
    have L1 : ps.length ≤ 1048576 := by omega
    rw [hz1.out]
    clear hz
    go_wp2_with fail
    refine (toPtsN a c ps _ h L1).mono ?_
    rintro e w2 ⟨rfl, s2, _, _, hb⟩
    have B0 := hb
    clear hb
    go_wp2_with fail
    refine (specHull _ _ ps _ s2 L1).mono ?_
    rintro e w3 ⟨v0, rfl, ts, HO0, R0, hb⟩
    have L2 : ts.length ≤ 1048576 := by have := HO0.len; omega
    have HO : Hid (HullOf ps ts) := HO0
    clear HO0
    replace B0 := B0.trans (hb.mono B0.size)
    clear hb s2
    obtain ⟨e0, f0, ee, _, _⟩ := R0.shape
    subst ee
    have sz3 : w1.heap.size ≤ w3.heap.size := B0.size
    have Q0 : Hid (∀ k, (Value.slice e0 ts.length f0).ownBlock = some k → k < w3.heap.size) := fun k hk => (World.ownsRow.lt R0 k hk).2
    go_wp2_with fail
    refine (toPtsN a c ps _ (h.below B0) L1).mono ?_
    rintro e w4 ⟨rfl, s4, lt4, fz4, hb⟩
    have HX : Hid (Has w4 w3.heap.size 0 (ps.length * 2)) := s4.has fz4
    have X4 : Hid (Below w4.heap.size w4 w4) := Below.refl _ _
    replace B0 := B0.trans (hb.mono B0.size)
    replace R0 := R0.below hb
    clear hb fz4
    generalize hq3 : w3.heap.size = q3 at *
    go_wp2_with fail
    refine (implHull _ _ ps _ s4 L1).mono ?_
    rintro e w5 ⟨v1, rfl, t1, H1, R1, hb⟩
    obtain rfl := HO.out.one H1
    clear H1
    obtain ⟨e1, f1, ee, _, _⟩ := R1.shape
    subst ee
    have Q1 : Hid (∀ k, (Value.slice e1 ts.length f1).ownBlock = some k → q3 + 1 ≤ k) := fun k hk => by have := (World.ownsRow.lt R1 k hk).1; omega
    have X5 : Hid (Below w4.heap.size w4 w5) := hb
    replace B0 := B0.trans (hb.mono B0.size)
    replace R0 := R0.below hb
    replace s4 := s4.below hb
    clear hb X4
    go_wp2_with fail
    refine (eqPts e1 e0 f1 f0 ts _ R1.seesP R0.seesP).mono ?_
    rintro e w6 ⟨rfl, hb⟩
    have X6 : Hid (Below w4.heap.size w4 w6) := X5.out.trans (hb.mono X5.out.size)
    replace B0 := B0.trans (hb.mono B0.size)
    replace R0 := R0.below hb
    replace R1 := R1.below hb
    replace s4 := s4.below hb
    clear hb X5
    go_wp2_with fail
    refine (toPtsN a c ps _ (h.below B0) L1).mono ?_
    rintro e w7 ⟨rfl, s7, _, _, hb⟩
    have X7 : Hid (Below w4.heap.size w4 w7) := X6.out.trans (hb.mono X6.out.size)
    replace B0 := B0.trans (hb.mono B0.size)
    replace R0 := R0.below hb
    replace R1 := R1.below hb
    replace s4 := s4.below hb
    clear hb X6
    go_wp2_with fail
    refine (eqPts _ _ _ _ ps _ s4 s7).mono ?_
    rintro e w8 ⟨rfl, hb⟩
    have X8 : Hid (Below w4.heap.size w4 w8) := X7.out.trans (hb.mono X7.out.size)
    replace B0 := B0.trans (hb.mono B0.size)
    replace R0 := R0.below hb
    replace R1 := R1.below hb
    clear hb X7 s4 s7
    have HX8 : Has w8 q3 0 (ps.length * 2) := ⟨fun o ho => by
      obtain ⟨v, hv⟩ := HX.out.c o ho
      exact ⟨v, bat X8.out hv⟩, fun o => (X8.out.frozen (p := ⟨q3, o, none⟩) lt4).trans (HX.out.f o)⟩
    go_wp2_with fail
    refine (markPts q3 0 ps.length ps.length 1 _ HX8 L1 (by unfold maxLen; omega) (Nat.le_refl _) (by decide) (by decide)).mono ?_
    rintro e w9 ⟨rfl, PU⟩
    have sp : w8.heap.size ≤ w9.heap.size := PU (fun W => w8.heap.size ≤ W.heap.size) (fun W b o u _ _ q => by simpa using q) (Nat.le_refl _)
    have s8 := X8.out.size
    replace R0 := R0.puts PU (fun k hk => .inl (Q0.out k hk))
    replace R1 := R1.puts PU (fun k hk => .inr (Q1.out k hk))
    replace B0 := belowPuts B0 PU sz3
    have hkk : ¬ (1 + 2 * (ps.length : Int) < 0) := by omega
    clear PU HX8 HX X8
    go_wp2_with fail
    refine (eqPts e1 e0 f1 f0 ts _ R1.seesP R0.seesP).mono ?_
    rintro e w10 ⟨rfl, hb⟩
    replace B0 := B0.trans (hb.mono B0.size)
    replace R0 := R0.below hb
    replace R1 := R1.below hb
    have lo4 : w4.heap.size ≤ w10.heap.size := by have := hb.size; omega
    clear hb
    go_wp2_with fail
    refine (markRowR w4.heap.size e1 f1 ts _ R1 L2 lo4).mono ?_
    rintro e w11 ⟨rfl, R5, B5⟩
    have U0 := R0.under B5 (fun k hk => by have := Q0.out k hk; omega)
    replace B0 := B0.trans (B5.mono (by omega))
    have S5 : Hid (SeesP w11 e1 f1 (mkRow 1 ts.length)) := R5.seesN
    obtain ⟨k9, hk9⟩ : ∃ k, Hid ((1 + 2 * (ts.length : Int)) = k) := ⟨_, rfl⟩
    have kp : 0 ≤ k9 := by rw [← hk9.out]; omega
    have hk9n : (k9 != k9) = false := by simp
    rw [hk9.out]
    clear R5 B5 R1 R0
    go_wp2_with fail
    refine (heldPtsR e1 f1 ts.length 1 _ S5.out L2 (by decide) (by decide)).mono ?_
    rintro e w12 ⟨rfl, rfl⟩
    rw [hk9.out]
    go_wp2_with fail
    refine (toPtsN a c ps _ (h.below B0) L1).mono ?_
    rintro e w13 ⟨rfl, s13, _, _, hb⟩
    replace B0 := B0.trans (hb.mono B0.size)
    replace U0 := U0.below hb
    have S6 : Hid (SeesP w13 e1 f1 (mkRow 1 ts.length)) := S5.out.below hb
    clear hb S5
    go_wp2_with fail
    refine (implHull _ _ ps _ s13 L1).mono ?_
    rintro e w14 ⟨v2, rfl, t2, H2, R2, hb⟩
    obtain rfl := HO.out.one H2
    clear H2
    obtain ⟨e2, f2, ee, _, _⟩ := R2.shape
    subst ee
    replace B0 := B0.trans (hb.mono B0.size)
    replace U0 := U0.below hb
    have S7 : Hid (SeesP w14 e1 f1 (mkRow 1 ts.length)) := S6.out.below hb
    clear hb S6 s13
    go_wp2_with fail
    refine (eqPts e2 e0 f2 f0 ts _ R2.seesP U0.seesP).mono ?_
    rintro e w15 ⟨rfl, hb⟩
    replace B0 := B0.trans (hb.mono B0.size)
    have S8 : Hid (SeesP w15 e1 f1 (mkRow 1 ts.length)) := S7.out.below hb
    clear hb S7
    go_wp2_with fail
    refine (heldPtsR e1 f1 ts.length 1 _ S8.out L2 (by decide) (by decide)).mono ?_
    rintro e w16 ⟨rfl, rfl⟩
    rw [hk9.out]
    go_wp2
    go_ret
    exact ⟨rfl, B0⟩
end Go.Proofs.Ytdgepkbdopndfaa
