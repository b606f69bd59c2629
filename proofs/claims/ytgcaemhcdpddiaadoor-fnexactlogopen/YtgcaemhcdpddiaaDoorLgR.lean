/- A sector of the log, read: the specification's side. -/
import Derived.Test.YtgcaemhcdpddiaaDoorLgW
import Derived.Test.YtgcaemhcdpddiaaDoorPcS
import Derived.Test.YtgcaemhcdpddiaaDoorQuR
import Derived.Deep.DeepCutAuto
namespace Go.Proofs.YtgcaemhcdpddiaaDoor
open Go.RowKit

theorem Box4.grownL {lo p q : Nat} {w w' : World} {x0 x1 x2 x3 : Value} (h : Box4 lo w q x0 x1 x2 x3) (g : w.grownBy w' (some p)) (ne : q ≠ p) : Box4 lo w' q x0 x1 x2 x3 := by
  obtain ⟨hc, hf⟩ := grown_at g h.lt (by simpa using ne)
  exact ⟨(hc 0).trans h.c0, (hc 1).trans h.c1, (hc 2).trans h.c2, (hc 3).trans h.c3, fun o => (hf o).trans (h.fr o), h.lo⟩
theorem Box4.put3W {lo p : Nat} {w : World} {x0 x1 x2 x3 : Value} (h : Box4 lo w p x0 x1 x2 x3) (u : Value) : Box4 lo (w.setCell ⟨p, 3, none⟩ u) p x0 x1 x2 u :=
  ⟨(cell_other (.inr (by decide)) u).trans h.c0, (cell_other (.inr (by decide)) u).trans h.c1, (cell_other (.inr (by decide)) u).trans h.c2, cell_same h.c3 u, fun o => (World.frozen?_setCell ..).trans (h.fr o), h.lo⟩
/-- A byte of a row. -/
def u8N (bs : List Int) (k : Nat) : Int := bs[k]?.getD 0
/-- The piece that a sector has. -/
def lgPc (bs : List Int) : List Int := (bs.drop 16).take (u8N bs 9).toNat
/-- It is a sector of a log. -/
def LgIs (bs : List Int) : Prop := (1 ≤ lgGet bs 0 ∧ lgGet bs 0 ≤ 1000000) ∧ (1 ≤ u8N bs 8 ∧ u8N bs 8 ≤ 2) ∧ u8N bs 9 ≤ 44 ∧ (u8N bs 8 = 1 → u8N bs 9 = 44) ∧ lgSec (lgGet bs 0) (lgGet bs 4) (u8N bs 8 == 1) (lgPc bs) = bs
/-- What l12Read answers. -/
def RdRes (base : Nat) (w : World) (bs : List Int) (ep nu : Int) (m : Bool) (v : Value) (ok : Bool) : Prop :=
  (ok = true ∧ LgIs bs ∧ ep = lgGet bs 0 ∧ nu = lgGet bs 4 ∧ m = (u8N bs 8 == 1) ∧ RowB base w v (lgPc bs) ∧ ∃ ad c, v = .slice (some ad) (lgPc bs).length c) ∨ (ok = false ∧ ¬LgIs bs ∧ ep = 0 ∧ nu = 0 ∧ m = false ∧ v = .slice none 0 0)

set_option maxRecDepth 20000 in
set_option maxHeartbeats 4000000 in
theorem l12Read_any (a : Option Addr) (c : Nat) (bs : List Int) (w : World) (h : SeesB w a c bs) (hn : bs.length = 64) (h8 : ∀ x ∈ bs, 0 ≤ x ∧ x < 256) :
    Calls Tryd.prog 18 #[.slice a bs.length c] w fun e w' => ∃ ep nu m v ok, e = .returned (.tuple #[.agg #[.int .i64 ep, .int .i64 nu, .bool m, v], .bool ok]) ∧ RdRes w.heap.size w' bs ep nu m v ok ∧ Below w.heap.size w w' := by
  have hm := h.max
  have hf := h.fits
  unfold maxLen at hm
  have HS : Hid (SeesB w a c bs) := h
  have HBL0 : ∀ b' o', bs ≠ [] → a = some (⟨b', o', none⟩ : Addr) → b' < w.heap.size := fun b' o' hn' e => by
    obtain ⟨b2, o2, e2, hc⟩ := h.cells hn'
    rw [e2] at e
    injection e with e
    injection e with e
    subst e
    exact World.block_lt_of_cell? _ _ (hc 0 (List.length_pos_iff.2 hn'))
  have H8 : Hid (∀ x ∈ bs, 0 ≤ x ∧ x < 256) := h8
  obtain ⟨b, off, rfl, hc⟩ := h.cells (ne_of_len hn (by omega))
  have HBL : Hid (∀ b' o', bs ≠ [] → some (⟨b, off, none⟩ : Addr) = some (⟨b', o', none⟩ : Addr) → b' < w.heap.size) := HBL0
  clear HBL0
  have g8 : w.cell? ⟨b, off + 8, none⟩ = some (.int .u8 (u8N bs 8)) := hc 8 (by omega)
  have g9 : w.cell? ⟨b, off + 9, none⟩ = some (.int .u8 (u8N bs 9)) := hc 9 (by omega)
  have y8 : 0 ≤ u8N bs 8 ∧ u8N bs 8 < 256 := u8At h8 8
  have y9 : 0 ≤ u8N bs 9 ∧ u8N bs 9 < 256 := u8At h8 9
  have LI : Hid (LgIs bs ↔ (1 ≤ lgGet bs 0 ∧ lgGet bs 0 ≤ 1000000) ∧ (1 ≤ u8N bs 8 ∧ u8N bs 8 ≤ 2) ∧ u8N bs 9 ≤ 44 ∧ (u8N bs 8 = 1 → u8N bs 9 = 44) ∧ lgSec (lgGet bs 0) (lgGet bs 4) (u8N bs 8 == 1) (lgPc bs) = bs) := by show _ ↔ _; exact Iff.rfl
  have RY : Hid (∀ w' v, LgIs bs → RowB w.heap.size w' v (lgPc bs) → (∃ ad c, v = .slice (some ad) (lgPc bs).length c) → RdRes w.heap.size w' bs (lgGet bs 0) (lgGet bs 4) (u8N bs 8 == 1) v true) := fun w' v q r t => .inl ⟨rfl, q, rfl, rfl, rfl, r, t⟩
  have RN : Hid (∀ w', ¬LgIs bs → RdRes w.heap.size w' bs 0 0 false (.slice none 0 0) false) := fun w' q => .inr ⟨rfl, q, rfl, rfl, rfl, rfl⟩
  have PC : Hid (lgPc bs = (bs.drop 16).take (u8N bs 9).toNat) := rfl
  generalize HX8 : u8N bs 8 = x8 at *
  generalize HX9 : u8N bs 9 = x9 at *
  have G0 : Hid (∀ W, SeesB W (some ⟨b, off, none⟩) c bs → Calls Tryd.prog 31 #[.slice (some ⟨b, off, none⟩) 64 c, .int .i64 0] W fun e w' => e = .returned (.int .i64 (lgGet bs 0)) ∧ Below W.heap.size W w') := fun W q => by
    have X := l12Get_any _ c bs 0 W q (by omega) h8
    rw [hn] at X
    exact X
  have G4 : Hid (∀ W, SeesB W (some ⟨b, off, none⟩) c bs → Calls Tryd.prog 31 #[.slice (some ⟨b, off, none⟩) 64 c, .int .i64 4] W fun e w' => e = .returned (.int .i64 (lgGet bs 4)) ∧ Below W.heap.size W w') := fun W q => by
    have X := l12Get_any _ c bs 4 W q (by omega) h8
    rw [hn] at X
    exact X
  generalize lgGet bs 0 = ep at *
  generalize lgGet bs 4 = nu at *
  have HN : Hid (bs.length = 64) := hn
  rw [hn] at hf ⊢
  clear h h8 hc hn
  have B := below1 w (.cells #[.int .i64 0, .int .i64 0, .bool false, .slice none 0 0] 48)
  have VR := Box4.new w (lo := w.heap.size) (Nat.le_refl _) (.int .i64 0) (.int .i64 0) (.bool false) (.slice none 0 0) 48
  go_enter Tryd.func18, Tryd.ntmps18
  go_upto_region 1 with fail
  generalize w.alloc (.cells #[.int .i64 0, .int .i64 0, .bool false, .slice none 0 0] 48) = W0 at *
  replace g8 := bat B g8
  replace g9 := bat B g9
  have wW0 : w.heap.size < W0.heap.size := VR.lt
  have HS0 : Hid (SeesB W0 (some ⟨b, off, none⟩) c bs) := HS.out.below B
  go_cut [4] (fun s4 W => ∃ p, s4 = .pointer (some ⟨p, 0, none⟩) ∧ Box4 W0.heap.size W p (.int .i64 ep) (.int .i64 nu) (.bool (x8 == 1)) (.slice none 0 0) ∧ Below W0.heap.size W0 W)
  case first =>
    refine wp_region_held_drew (S := Below W0.heap.size W0) (by kernel_rfl) ((Below.refl _ _).drew) (fun hHeld => ?_)
    have N : Below W0.heap.size W0 W0.drew := hHeld
    revert hHeld N
    generalize W0.drew = ww0
    intro hHeld N
    refine takeQ (i := 0) (gt rfl) (by kernel_rfl) (fun _ _ _ h => h) (by rfl) (by intro wq _; go_simp <;> with_reducible rfl) (by assumption) ?_
    try simp only [Act.put, sA, sB, sC]
    refine takeQ (i := 2) (gt rfl) (by kernel_rfl) (fun _ _ _ h => h) (by rfl) (by intro wq _; go_simp <;> with_reducible rfl) (by assumption) ?_
    try simp only [Act.put, sA, sB, sC]
    refine takeQ (i := 4) (gt rfl) (by kernel_rfl) (fun _ _ _ h => h) (by rfl) (by intro wq _; go_simp <;> with_reducible rfl) (by assumption) ?_
    try simp only [Act.put, sA, sB, sC]
    refine takeQ (i := 5) (gt rfl) (by kernel_rfl) (fun _ _ _ h => h) (by rfl) (by intro wq _; go_simp <;> with_reducible rfl) (by assumption) ?_
    try simp only [Act.put, sA, sB, sC]
    refine takeQ (i := 6) (gt rfl) (by kernel_rfl) (fun _ _ _ h => h) (by rfl) (by intro wq hSw; have q0 := bat hSw g8; go_simp <;> with_reducible rfl) (by assumption) ?_
    try simp only [Act.put, sA, sB, sC]
    refine takeQ (i := 7) (gt rfl) (by kernel_rfl) (fun _ _ _ h => h) (by rfl) (by intro wq _; go_simp <;> with_reducible rfl) (by assumption) ?_
    try simp only [Act.put, sA, sB, sC]
    refine wpAnyH_ready (rs := [1, 9]) (by kernel_rfl) (by simp) (AllReadyH.cons (gt rfl) (fun K hK => ?_) (AllReadyH.cons (gt rfl) (fun K hK => ?_) AllReadyH.nil))
    · skip
      go_simp
      refine (G0.out _ (HS0.out.below N)).mono ?_
      rintro e1 ww1 ⟨rfl, hb⟩
      replace N := N.trans (hb.mono N.size)
      clear hb
      refine hK.out _ _ N (fun hHeld => ?_)
      clear hK K
      try simp only [Act.put, sA, sB, sC]
      refine wpAnyH_ready (rs := [3, 9]) (by kernel_rfl) (by simp) (AllReadyH.cons (gt rfl) (fun K hK => ?_) (AllReadyH.cons (gt rfl) (fun K hK => ?_) AllReadyH.nil))
      · skip
        go_simp
        refine (G4.out _ (HS0.out.below N)).mono ?_
        rintro e1 ww2 ⟨rfl, hb⟩
        replace N := N.trans (hb.mono N.size)
        clear hb
        refine hK.out _ _ N (fun hHeld => ?_)
        clear hK K
        try simp only [Act.put, sA, sB, sC]
        refine takeQ (i := 8) (gt rfl) (by kernel_rfl) (fun _ _ _ h => h) (by rfl) (by intro wq _; go_simp <;> with_reducible rfl) (by assumption) ?_
        try simp only [Act.put, sA, sB, sC]
        refine wpAnyH_ready (rs := [9]) (by kernel_rfl) (by simp) (AllReadyH.cons (gt rfl) (fun K hK => ?_) AllReadyH.nil)
        go_simp
        have kP := Box4.new ww2 N.size (.int .i64 0) (.int .i64 0) (.bool false) (.slice none 0 0) 48
        have hb := below1 ww2 (.cells #[.int .i64 0, .int .i64 0, .bool false, .slice none 0 0] 48)
        replace N := N.trans (hb.mono N.size)
        clear hb
        generalize ww2.alloc (.cells #[.int .i64 0, .int .i64 0, .bool false, .slice none 0 0] 48) = ww3 at *
        refine hK.out _ _ N (fun hHeld => ?_)
        clear hK K
        try simp only [Act.put, sA, sB, sC]
        refine wpAnyH_ready (rs := [10]) (by kernel_rfl) (by simp) (AllReadyH.cons (gt rfl) (fun K hK => ?_) AllReadyH.nil)
        have z0 := kP.c0
        have z1 := kP.c1
        have z2 := kP.c2
        have z3 := kP.c3
        have zf := kP.fr
        go_simp
        clear z0 z1 z2 z3 zf
        replace N := Box4.chain N kP (.int .i64 ep) (.int .i64 nu) (.bool (x8 == 1)) (.slice none 0 0)
        replace kP := kP.put (.int .i64 ep) (.int .i64 nu) (.bool (x8 == 1)) (.slice none 0 0)
        refine hK.out _ _ N (fun hHeld => ?_)
        clear hK K
        try simp only [Act.put, sA, sB, sC]
        refine wpAnyH_done (by kernel_rfl) ?_ _
        go_wp2
        go_meet
        case rel => exact ⟨_, rfl, kP, N⟩
      · skip
        go_simp
        have kP := Box4.new ww1 N.size (.int .i64 0) (.int .i64 0) (.bool false) (.slice none 0 0) 48
        have hb := below1 ww1 (.cells #[.int .i64 0, .int .i64 0, .bool false, .slice none 0 0] 48)
        replace N := N.trans (hb.mono N.size)
        clear hb
        generalize ww1.alloc (.cells #[.int .i64 0, .int .i64 0, .bool false, .slice none 0 0] 48) = ww5 at *
        refine hK.out _ _ N (fun hHeld => ?_)
        clear hK K
        try simp only [Act.put, sA, sB, sC]
        refine wpAnyH_ready (rs := [3]) (by kernel_rfl) (by simp) (AllReadyH.cons (gt rfl) (fun K hK => ?_) AllReadyH.nil)
        go_simp
        refine (G4.out _ (HS0.out.below N)).mono ?_
        rintro e1 ww6 ⟨rfl, hb⟩
        replace kP := kP.below hb
        replace N := N.trans (hb.mono N.size)
        clear hb
        refine hK.out _ _ N (fun hHeld => ?_)
        clear hK K
        try simp only [Act.put, sA, sB, sC]
        refine takeQ (i := 8) (gt rfl) (by kernel_rfl) (fun _ _ _ h => h) (by rfl) (by intro wq _; go_simp <;> with_reducible rfl) (by assumption) ?_
        try simp only [Act.put, sA, sB, sC]
        refine wpAnyH_ready (rs := [10]) (by kernel_rfl) (by simp) (AllReadyH.cons (gt rfl) (fun K hK => ?_) AllReadyH.nil)
        have z0 := kP.c0
        have z1 := kP.c1
        have z2 := kP.c2
        have z3 := kP.c3
        have zf := kP.fr
        go_simp
        clear z0 z1 z2 z3 zf
        replace N := Box4.chain N kP (.int .i64 ep) (.int .i64 nu) (.bool (x8 == 1)) (.slice none 0 0)
        replace kP := kP.put (.int .i64 ep) (.int .i64 nu) (.bool (x8 == 1)) (.slice none 0 0)
        refine hK.out _ _ N (fun hHeld => ?_)
        clear hK K
        try simp only [Act.put, sA, sB, sC]
        refine wpAnyH_done (by kernel_rfl) ?_ _
        go_wp2
        go_meet
        case rel => exact ⟨_, rfl, kP, N⟩
    · skip
      go_simp
      have kP := Box4.new ww0 N.size (.int .i64 0) (.int .i64 0) (.bool false) (.slice none 0 0) 48
      have hb := below1 ww0 (.cells #[.int .i64 0, .int .i64 0, .bool false, .slice none 0 0] 48)
      replace N := N.trans (hb.mono N.size)
      clear hb
      generalize ww0.alloc (.cells #[.int .i64 0, .int .i64 0, .bool false, .slice none 0 0] 48) = ww8 at *
      refine hK.out _ _ N (fun hHeld => ?_)
      clear hK K
      try simp only [Act.put, sA, sB, sC]
      refine wpAnyH_ready (rs := [1]) (by kernel_rfl) (by simp) (AllReadyH.cons (gt rfl) (fun K hK => ?_) AllReadyH.nil)
      go_simp
      refine (G0.out _ (HS0.out.below N)).mono ?_
      rintro e1 ww9 ⟨rfl, hb⟩
      replace kP := kP.below hb
      replace N := N.trans (hb.mono N.size)
      clear hb
      refine hK.out _ _ N (fun hHeld => ?_)
      clear hK K
      try simp only [Act.put, sA, sB, sC]
      refine wpAnyH_ready (rs := [3]) (by kernel_rfl) (by simp) (AllReadyH.cons (gt rfl) (fun K hK => ?_) AllReadyH.nil)
      go_simp
      refine (G4.out _ (HS0.out.below N)).mono ?_
      rintro e1 ww10 ⟨rfl, hb⟩
      replace kP := kP.below hb
      replace N := N.trans (hb.mono N.size)
      clear hb
      refine hK.out _ _ N (fun hHeld => ?_)
      clear hK K
      try simp only [Act.put, sA, sB, sC]
      refine takeQ (i := 8) (gt rfl) (by kernel_rfl) (fun _ _ _ h => h) (by rfl) (by intro wq _; go_simp <;> with_reducible rfl) (by assumption) ?_
      try simp only [Act.put, sA, sB, sC]
      refine wpAnyH_ready (rs := [10]) (by kernel_rfl) (by simp) (AllReadyH.cons (gt rfl) (fun K hK => ?_) AllReadyH.nil)
      have z0 := kP.c0
      have z1 := kP.c1
      have z2 := kP.c2
      have z3 := kP.c3
      have zf := kP.fr
      go_simp
      clear z0 z1 z2 z3 zf
      replace N := Box4.chain N kP (.int .i64 ep) (.int .i64 nu) (.bool (x8 == 1)) (.slice none 0 0)
      replace kP := kP.put (.int .i64 ep) (.int .i64 nu) (.bool (x8 == 1)) (.slice none 0 0)
      refine hK.out _ _ N (fun hHeld => ?_)
      clear hK K
      try simp only [Act.put, sA, sB, sC]
      refine wpAnyH_done (by kernel_rfl) ?_ _
      go_wp2
      go_meet
      case rel => exact ⟨_, rfl, kP, N⟩
  obtain ⟨p, rfl, VP, B1⟩ := hcut
  rename World => W1
  have ne : p ≠ w.heap.size := by have := VP.lo; have := VR.lt; omega
  replace g8 := bat B1 g8
  replace g9 := bat B1 g9
  replace VR := VR.below B1
  have BB := B.trans (B1.mono B.size)
  have HW1 : Hid (SeesB W1 (some ⟨b, off, none⟩) c bs) := HS0.out.below B1
  obtain ⟨v0, v1, v2, v3, vf, _⟩ := id VP
  obtain ⟨r0, r1, r2, r3, rf, rl⟩ := id VR
  have Q := Box4.chain BB VR (.int .i64 0) (.int .i64 0) (.bool false) (.slice none 0 0)
  clear HS0 HS G0 G4 B B1
  obtain ⟨acc, hacc⟩ : ∃ acc : Bool, Hid (acc = true ↔ (1 ≤ ep ∧ ep ≤ 1000000) ∧ (1 ≤ x8 ∧ x8 ≤ 2) ∧ x9 ≤ 44 ∧ (x8 = 1 → x9 = 44)) := ⟨decide ((1 ≤ ep ∧ ep ≤ 1000000) ∧ (1 ≤ x8 ∧ x8 ≤ 2) ∧ x9 ≤ 44 ∧ (x8 = 1 → x9 = 44)), by show _ ↔ _; exact decide_eq_true_iff⟩
  go_upto_region 3 with fail
  go_cut [44] (fun s44 W => s44 = .bool (!acc) ∧ W = W1)
  case first =>
    have NA : Hid (∀ P : Prop, (¬((1 ≤ ep ∧ ep ≤ 1000000) ∧ (1 ≤ x8 ∧ x8 ≤ 2) ∧ x9 ≤ 44 ∧ (x8 = 1 → x9 = 44))) → acc = false) := fun _ q => by cases acc with | false => rfl | true => exact absurd (hacc.out.1 rfl) q
    have YA : Hid (((1 ≤ ep ∧ ep ≤ 1000000) ∧ (1 ≤ x8 ∧ x8 ≤ 2) ∧ x9 ≤ 44 ∧ (x8 = 1 → x9 = 44)) → acc = true) := fun q => hacc.out.2 q
    by_cases h1 : 1 ≤ ep ∧ ep ≤ 1000000
    · have d1 := in_yes h1
      by_cases h2 : 1 ≤ x8 ∧ x8 ≤ 2
      · have d2 := in_yes h2
        by_cases h3 : x9 ≤ 44
        · by_cases h4 : x8 = 1
          · subst h4
            by_cases h5 : x9 = 44
            · have ea := YA.out ⟨h1, h2, h3, fun _ => h5⟩
              subst h5
              clear h1 h2 LI
              go_wp2_with fail
              refine (l1InD _ _ _ _).mono ?_
              rintro e w1 ⟨rfl, rfl⟩
              rw [d1]
              go_wp2_with fail
              refine (l1InD _ _ _ _).mono ?_
              rintro e w1 ⟨rfl, rfl⟩
              rw [d2]
              go_wp2
              go_meet
              case rel => exact ⟨by rw [ea]; first | rfl | (rw [decide_eq_false (show ¬(44 < x9) by omega)]; rfl), rfl⟩
            · have ea := NA.out True (fun q => h5 (q.2.2.2 rfl))
              have e9 : (x9 != 44) = true := by simp [h5]
              clear h1 h2 LI
              go_wp2_with fail
              refine (l1InD _ _ _ _).mono ?_
              rintro e w1 ⟨rfl, rfl⟩
              rw [d1]
              go_wp2_with fail
              refine (l1InD _ _ _ _).mono ?_
              rintro e w1 ⟨rfl, rfl⟩
              rw [d2]
              go_wp2
              go_meet
              case rel => exact ⟨by rw [ea]; first | rfl | (rw [decide_eq_false (show ¬(44 < x9) by omega)]; rfl), rfl⟩
          · have ea := YA.out ⟨h1, h2, h3, fun q => absurd q h4⟩
            have e8 : (x8 == 1) = false := by simp [h4]
            clear h1 h2 LI
            go_wp2_with fail
            refine (l1InD _ _ _ _).mono ?_
            rintro e w1 ⟨rfl, rfl⟩
            rw [d1]
            go_wp2_with fail
            refine (l1InD _ _ _ _).mono ?_
            rintro e w1 ⟨rfl, rfl⟩
            rw [d2]
            go_wp2
            go_meet
            case rel => exact ⟨by rw [ea]; first | rfl | (rw [decide_eq_false (show ¬(44 < x9) by omega)]; rfl), rfl⟩
        · have ea := NA.out True (fun q => h3 q.2.2.1)
          clear h1 h2 LI
          go_wp2_with fail
          refine (l1InD _ _ _ _).mono ?_
          rintro e w1 ⟨rfl, rfl⟩
          rw [d1]
          go_wp2_with fail
          refine (l1InD _ _ _ _).mono ?_
          rintro e w1 ⟨rfl, rfl⟩
          rw [d2]
          go_wp2
          go_meet
          case rel => exact ⟨by rw [ea]; first | rfl | (rw [decide_eq_false (show ¬(44 < x9) by omega)]; rfl), rfl⟩
      · have d2 := in_no h2
        have ea := NA.out True (fun q => h2 q.2.1)
        clear h1 h2 LI
        go_wp2_with fail
        refine (l1InD _ _ _ _).mono ?_
        rintro e w1 ⟨rfl, rfl⟩
        rw [d1]
        go_wp2_with fail
        refine (l1InD _ _ _ _).mono ?_
        rintro e w1 ⟨rfl, rfl⟩
        rw [d2]
        go_wp2
        go_meet
        case rel => exact ⟨by rw [ea]; first | rfl | (rw [decide_eq_false (show ¬(44 < x9) by omega)]; rfl), rfl⟩
    · have d1 := in_no h1
      have ea := NA.out True (fun q => h1 q.1)
      clear h1 LI
      go_wp2_with fail
      refine (l1InD _ _ _ _).mono ?_
      rintro e w1 ⟨rfl, rfl⟩
      rw [d1]
      go_wp2
      go_meet
      case rel => exact ⟨by rw [ea]; first | rfl | (rw [decide_eq_false (show ¬(44 < x9) by omega)]; rfl), rfl⟩
  obtain ⟨rfl, rfl⟩ := hcut
  have QQ : ∀ W, Below w.heap.size w W → Box4 w.heap.size W w.heap.size (.int .i64 0) (.int .i64 0) (.bool false) (.slice none 0 0) → Hid (Below w.heap.size w ((((W.setCell ⟨w.heap.size, 0, none⟩ (.int .i64 0)).setCell ⟨w.heap.size, 1, none⟩ (.int .i64 0)).setCell ⟨w.heap.size, 2, none⟩ (.bool false)).setCell ⟨w.heap.size, 3, none⟩ (.slice none 0 0))) := fun W b v => Box4.chain b v (.int .i64 0) (.int .i64 0) (.bool false) (.slice none 0 0)
  clear Q
  cases acc with
  | false =>
    have NI : Hid (¬LgIs bs) := fun q => by obtain ⟨q1, q2, q3, q4, _⟩ := LI.out.1 q; have := hacc.out.2 ⟨q1, q2, q3, q4⟩; cases this
    have Q := QQ _ BB VR
    clear LI hacc QQ
    go_wp2
    exact bodyPost_ret (v := .tuple #[.agg #[.int .i64 0, .int .i64 0, .bool false, .slice none 0 0], .bool false]) (by simp [results, Tryd.results18, go_sem, r0, r1, r2, r3]) rfl ⟨0, 0, false, .slice none 0 0, false, rfl, RN.out _ NI.out, Q.out⟩
  | true =>
    have HAC : Hid ((1 ≤ ep ∧ ep ≤ 1000000) ∧ (1 ≤ x8 ∧ x8 ≤ 2) ∧ x9 ≤ 44 ∧ (x8 = 1 → x9 = 44)) := hacc.out.1 rfl
    obtain ⟨-, k2, k3, -⟩ := hacc.out.1 rfl
    obtain ⟨n, hn9⟩ : ∃ n : Nat, x9 = (n : Int) := ⟨x9.toNat, by omega⟩
    subst hn9
    have hnb : n ≤ 44 := by omega
    have PL : Hid ((lgPc bs).length = n) := by show _ = _; rw [PC.out, List.length_take, List.length_drop, HN.out]; omega
    rename World => W1
    have bn := below1 W1 (.cells #[] 5)
    have RE := RowB.empty W1 (base := w.heap.size + 1) (by have := VR.lt; omega)
    have SP := (HW1.out.below bn).part (i := 16) (n := n) (by rw [HN.out]; omega)
    rw [show (bs.drop 16).take n = lgPc bs from by rw [PC.out, Int.toNat_natCast]] at SP
    have B2 := BB.trans (bn.mono BB.size)
    obtain ⟨v5, w5, hr5, R5, G5, A5⟩ := appS RE SP (by rw [PL.out]; simp; omega) (by have := VR.lt; have := bn.size; omega)
    rw [PL.out] at hr5
    rw [List.nil_append] at R5
    obtain ⟨a5, c5, rfl, -, -⟩ := R5.shape'
    have LB : Hid (∀ x ∈ lgPc bs, 0 ≤ x ∧ x < 256) := by show ∀ _, _; rw [PC.out]; exact fun x hx => H8.out x (List.mem_of_mem_drop (List.mem_of_mem_take hx))
    have hw16 : IntKind.i64.wrap (16 + (n : Int)) = 16 + (n : Int) := by rw [IntKind.wrap_i64]; omega
    have hn16 : (16 + (n : Int)).toNat - 16 = n := by omega
    have hn17 : 16 + n - 16 = n := by omega
    have pl1 : p < W1.heap.size := VP.lt
    replace G5 : (W1.alloc (.cells #[] 5)).grownBy w5 (some W1.heap.size) := G5
    have plo := VP.lo
    have wl1 : w.heap.size < W1.heap.size := VR.lt
    obtain ⟨d5, rfl⟩ : ∃ d5, a5 = some d5 := by
      cases a5 with
      | some d => exact ⟨d, rfl⟩
      | none => rcases A5 with q | q <;> cases q
    have ow : ∀ k, (Value.slice (some d5) (lgPc bs).length c5).ownBlock = some k → W1.heap.size ≤ k := fun k hk => by
      rcases A5 with q | q
      · rw [q] at hk; injection hk with hk; exact Nat.le_of_eq hk
      · rw [q] at hk; injection hk with hk; have := bn.size; omega
    have VP5 := (VP.below bn).grownW G5 (fun e => by injection e with e; omega)
    have VR5 := (VR.below bn).grownW G5 (fun e => by injection e with e; omega)
    have BB5 := B2.grown G5 B2.size (fun k hk => by injection hk with hk; omega)
    have SB5 := (HW1.out.below bn).keptW G5 (fun b' o' hn e q => by
      have : b' < W1.heap.size := by
        obtain ⟨b2, o2, e2, hc⟩ := HW1.out.cells hn
        rw [e2] at e
        injection e with e
        injection e with e
        subst e
        exact World.block_lt_of_cell? _ _ (hc 0 (List.length_pos_iff.2 hn))
      injection q with q
      omega)
    have NB : Hid (∀ b' o', bs ≠ [] → some (⟨b, off, none⟩ : Addr) = some (⟨b', o', none⟩ : Addr) → b' < w.heap.size) := HBL
    have gp := grownBy_setCell (grownBy_refl w5 (some p)) (p := ⟨p, 3, none⟩) rfl (.slice (some d5) (lgPc bs).length c5)
    have VP6 := VP5.put3W (.slice (some d5) (lgPc bs).length c5)
    have VR6 := VR5.grownW gp (fun e => by injection e with e; exact ne e)
    have R6 : RowB (w.heap.size + 1) _ _ _ := owns_kept' R5 gp (fun k hk e => by injection e with e; have := ow k hk; omega)
    have BB6 := BB5.grown gp BB5.size (fun k hk => by injection hk with hk; omega)
    have SB6 := SB5.keptW gp (fun b' o' hn e q => by have := NB.out b' o' hn e; injection q with q; omega)
    obtain ⟨v0, v1, v2, v3, vf, _⟩ := id VP5
    clear k2 k3 hacc HW1 SB5 BB5 VR5 R5 G5 A5 B2 SP RE VP VR BB gp VP5 g8 g9 r0 r1 r2 r3 rf
    go_upto_region 6 with (at_builtin; refine Lib.wpList_append_run _ rfl (.tmp 46) (.tmp 50) 22 22 rfl _ _ rfl rfl _ w5 hr5 ?_)
    clear v0 v1 v2 v3 vf hr5 bn
    generalize w5.setCell ⟨p, 3, none⟩ (.slice (some d5) (lgPc bs).length c5) = w6 at *
    obtain ⟨v0, v1, v2, v3, vf, _⟩ := id VP6
    go_wp2_with fail
    refine (l12Sector_any ep nu (x8 == 1) (some d5) c5 (lgPc bs) _ R6.seesB (by rw [PL.out]; omega) LB.out).mono ?_
    rintro e w7 ⟨v7, rfl, R7, hb⟩
    have L7 : Hid ((lgSec ep nu (x8 == 1) (lgPc bs)).length = 64) := lgSec_len (by rw [PL.out]; omega)
    obtain ⟨q7, c7, rfl, -, -⟩ := R7.shape (ne_of_len L7.out (by omega))
    obtain ⟨f7, m7⟩ := R7.caps
    unfold maxLen at m7
    have VP7 : Hid (_) := VP6.below hb
    have VR7 : Hid (_) := VR6.below hb
    have R8 : Hid (RowB (w.heap.size + 1) w7 _ (lgPc bs)) := R6.below hb
    have SB7 : Hid (SeesB w7 (some ⟨b, off, none⟩) c bs) := SB6.below hb
    have BB7 := BB6.trans (hb.mono BB6.size)
    have S7 : Hid (SeesB w7 (some ⟨q7, 0, none⟩) c7 (lgSec ep nu (x8 == 1) (lgPc bs))) := R7.seesB
    have LI2 : Hid (LgIs bs ↔ lgSec ep nu (x8 == 1) (lgPc bs) = bs) := by
      show _ ↔ _
      exact LI.out.trans ⟨fun q => q.2.2.2.2, fun q => ⟨(HAC.out).1, (HAC.out).2.1, (HAC.out).2.2.1, (HAC.out).2.2.2, q⟩⟩
    clear VP6 VR6 R6 SB6 BB6 hb R7 v0 v1 v2 v3 vf LI
    generalize lgSec ep nu (x8 == 1) (lgPc bs) = D at *
    rw [L7.out]
    go_wp2
    go_loopw [7] (fun s7 wr => ∃ j : Nat, j ≤ 64 ∧ s7 = .int .i64 j ∧ Hid (D.take j = bs.take j) ∧ Below w7.heap.size w7 wr) (fun s7 _ => 64 - (intOf s7).toNat)
    case atStart => exact ⟨0, by omega, rfl, (by show _ = _; simp), Below.refl _ _⟩
    case round =>
      obtain ⟨j, hj, rfl, hE, BJ⟩ := hrel
      rename World => wr
      by_cases hlt : j < 64
      · obtain ⟨b1, o1, e1, hc1⟩ := (SB7.out.below BJ).cells (ne_of_len HN.out (by omega))
        injection e1 with e1
        injection e1 with e1 e2
        subst e1 e2
        have g1 := hc1 j (by rw [HN.out]; exact hlt)
        obtain ⟨b2, o2, e2, hc2⟩ := (S7.out.below BJ).cells (ne_of_len L7.out (by omega))
        injection e2 with e2
        injection e2 with e1 e2
        subst e1 e2
        have g2 := hc2 j (by rw [L7.out]; exact hlt)
        rw [Nat.zero_add] at g2
        have tk1 : Hid (bs.take (j + 1) = bs.take j ++ [bs[j]?.getD 0]) := by show _ = _; rw [List.take_add_one, List.getElem?_eq_getElem (by rw [HN.out]; exact hlt)]; rfl
        have tk2 : Hid (D.take (j + 1) = D.take j ++ [D[j]?.getD 0]) := by show _ = _; rw [List.take_add_one, List.getElem?_eq_getElem (by rw [L7.out]; exact hlt)]; rfl
        have NE : Hid (bs[j]?.getD 0 ≠ D[j]?.getD 0 → ¬LgIs bs) := fun q l => q (by rw [← LI2.out.1 l])
        generalize bs[j]?.getD 0 = x at *
        generalize D[j]?.getD 0 = y at *
        clear hc1 hc2
        by_cases hxy : x = y
        · subst hxy
          have hxx : (x != x) = false := by simp
          have HE2 : Hid (D.take (j + 1) = bs.take (j + 1)) := by show _ = _; rw [tk1.out, tk2.out, hE.out]
          go_wp2_with fail
          go_region
          go_wp2
          go_roundw
          case rel => exact ⟨j + 1, by omega, by go_num, HE2, BJ.drew⟩
          case measure => simp [intOf]; omega
        · have hxx : (x != y) = true := by simp [hxy]
          have NI : Hid (¬LgIs bs) := NE.out hxy
          have VRd := VR7.out.below BJ
          have Qd := (QQ _ (BB7.trans (BJ.mono BB7.size)) VRd).out.drew
          obtain ⟨r0, r1, r2, r3, rf, _⟩ := id VRd
          go_wp2_with fail
          go_region
          go_wp2
          exact bodyPost_ret (v := .tuple #[.agg #[.int .i64 0, .int .i64 0, .bool false, .slice none 0 0], .bool false]) (by simp [results, Tryd.results18, go_sem, r0, r1, r2, r3]) rfl ⟨0, 0, false, .slice none 0 0, false, rfl, RN.out _ NI.out, Qd⟩
      · obtain rfl : j = 64 := by omega
        have YI : Hid (LgIs bs) := LI2.out.2 (by have := hE.out; rwa [List.take_of_length_le (by rw [L7.out]; omega), List.take_of_length_le (by rw [HN.out]; omega)] at this)
        have VRd := VR7.out.below BJ
        have VPd := VP7.out.below BJ
        have RRd := R8.out.below BJ
        have BBd := BB7.trans (BJ.mono BB7.size)
        obtain ⟨r0, r1, r2, r3, rf, _⟩ := id VRd
        obtain ⟨v0, v1, v2, v3, vf, _⟩ := id VPd
        have Qd := Box4.chain BBd VRd (.int .i64 ep) (.int .i64 nu) (.bool (x8 == 1)) (.slice (some d5) (lgPc bs).length c5)
        have VS := VRd.put (.int .i64 ep) (.int .i64 nu) (.bool (x8 == 1)) (.slice (some d5) (lgPc bs).length c5)
        obtain ⟨s0, s1, s2, s3, _, _⟩ := id VS
        have gp := grownBy_setCell (grownBy_setCell (grownBy_setCell (grownBy_setCell (grownBy_refl wr (some w.heap.size)) (p := ⟨w.heap.size, 0, none⟩) rfl (.int .i64 ep)) (p := ⟨w.heap.size, 1, none⟩) rfl (.int .i64 nu)) (p := ⟨w.heap.size, 2, none⟩) rfl (.bool (x8 == 1))) (p := ⟨w.heap.size, 3, none⟩) rfl (.slice (some d5) (lgPc bs).length c5)
        have RF := row_base (base' := w.heap.size) (owns_kept' RRd gp (fun k hk e => by injection e with e; have := ow k hk; omega)) (by omega)
        have RZ : Hid (RdRes w.heap.size _ bs ep nu (x8 == 1) (.slice (some d5) (lgPc bs).length c5) true) := RY.out _ _ YI.out RF ⟨_, _, rfl⟩
        clear VS gp RF RRd VPd VRd BBd
        go_wp2
        exact bodyPost_ret (v := .tuple #[.agg #[.int .i64 ep, .int .i64 nu, .bool (x8 == 1), .slice (some d5) (lgPc bs).length c5], .bool true]) (by simp [results, Tryd.results18, go_sem, s0, s1, s2, s3]) rfl ⟨_, _, _, _, _, rfl, RZ.out, Qd⟩
end Go.Proofs.YtgcaemhcdpddiaaDoor
