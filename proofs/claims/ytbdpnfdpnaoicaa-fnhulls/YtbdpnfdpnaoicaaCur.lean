/- The cursor of a draw: a byte of it, a number below a most. -/
import Derived.Test.YtbdpnfdpnaoicaaBase
import Derived.Test.YtbdpnfdpnaoicaaProg
import Derived.Deep.RegionHeld3
namespace Go.Proofs.Ytbdpnfdpnaoicaa
open Go.RowKit

/-- n bytes that can be read. -/
def Byt (w : World) (a : Option Addr) (n : Nat) : Prop := ∀ j, j < n → ∃ b off, a = some ⟨b, off, none⟩ ∧ ∃ y : Int, 0 ≤ y ∧ y < 256 ∧ w.cell? ⟨b, off + j, none⟩ = some (.int .u8 y)
/-- A cursor over them, in block p. -/
structure Cur (w : World) (p : Nat) (a : Option Addr) (n cap : Nat) : Prop where
  c0 : w.cell? ⟨p, 0, none⟩ = some (.slice a n cap)
  c1 : ∃ i : Nat, i ≤ n ∧ w.cell? ⟨p, 1, none⟩ = some (.int .i64 i)
  c2 : ∃ h : Int, w.cell? ⟨p, 2, none⟩ = some (.int .i64 h)
  fr : ∀ o, w.frozen? ⟨p, o, none⟩ = false
  byt : Byt w a n
  apart : ∀ b off, a = some ⟨b, off, none⟩ → 0 < n → b ≠ p
  most : n ≤ 1048576

theorem and255 (n : Int) : 0 ≤ bits .and .i64 n 255 ∧ bits .and .i64 n 255 < 256 := by
  have e : (BitVec.ofInt 64 255).toNat = 255 := by decide
  have h : (BitVec.ofInt 64 n &&& BitVec.ofInt 64 255).toNat ≤ 255 := by
    rw [BitVec.toNat_and, e]
    exact Nat.and_le_right
  show 0 ≤ IntKind.i64.wrap ((BitVec.ofInt 64 n &&& BitVec.ofInt 64 255).toNat : Nat) ∧ IntKind.i64.wrap ((BitVec.ofInt 64 n &&& BitVec.ofInt 64 255).toNat : Nat) < 256
  rw [IntKind.wrap_i64]
  omega
theorem grownBy_drew {w w' : World} {row : Option Nat} (h : w.grownBy w' row) : w.grownBy w'.drew row := grownBy_drewN h 1
theorem Byt.kept {w w' : World} {a : Option Addr} {n p : Nat} (h : Byt w a n) (g : w.grownBy w' (some p)) (ap : ∀ b off, a = some ⟨b, off, none⟩ → 0 < n → b ≠ p) : Byt w' a n := by
  intro j hj
  obtain ⟨b, off, e, y, y0, y1, hc⟩ := h j hj
  refine ⟨b, off, e, y, y0, y1, ?_⟩
  rw [← hc]
  exact World.cell?_of_block (g.block b (World.block_lt_of_cell? _ _ hc) (fun q => ap b off e (by omega) (by simpa using q)))

set_option maxHeartbeats 2000000 in
theorem l1Byte_any (p : Nat) (a : Option Addr) (n cap : Nat) (w : World) (h : Cur w p a n cap) :
    Calls Try.prog 31 #[.pointer (some ⟨p, 0, none⟩)] w fun e w' => ∃ x : Int, e = .returned (.int .i64 x) ∧ 0 ≤ x ∧ x < 256 ∧ Cur w' p a n cap ∧ w.grownBy w' (some p) := by
  obtain ⟨c0, ⟨i, hi, c1⟩, ⟨h0, c2⟩, fr, byt, ap, mo⟩ := h
  go_enter Try.func31, Try.ntmps31
  go_wp2_with fail
  generalize hH : wrap64 (wrap64 (h0 * 6364136223846793005) + 1442695040888963407) = h1
  clear hH
  have k2 : (w.setCell ⟨p, 2, none⟩ (.int .i64 h1)).cell? ⟨p, 2, none⟩ = some (.int .i64 h1) := World.cell?_setCell_same _ _ _ c2
  have k1 : (w.setCell ⟨p, 2, none⟩ (.int .i64 h1)).cell? ⟨p, 1, none⟩ = some (.int .i64 i) := (World.cell?_setCell_other _ _ _ _ (by simp)).trans c1
  have k0 : (w.setCell ⟨p, 2, none⟩ (.int .i64 h1)).cell? ⟨p, 0, none⟩ = some (.slice a n cap) := (World.cell?_setCell_other _ _ _ _ (by simp)).trans c0
  have kf : ∀ o, (w.setCell ⟨p, 2, none⟩ (.int .i64 h1)).frozen? ⟨p, o, none⟩ = false := fun o => (World.frozen?_setCell ..).trans (fr o)
  have G : w.grownBy (w.setCell ⟨p, 2, none⟩ (.int .i64 h1)) (some p) := grownBy_setCell (grownBy_refl _ _) rfl _
  have bt := byt.kept G ap
  have HM : Hid (∀ b off, a = some ⟨b, off, none⟩ → 0 < n → b ≠ p) := ap
  clear c0 c1 c2 fr byt ap
  generalize w.setCell ⟨p, 2, none⟩ (.int .i64 h1) = W1 at *
  go_region_held3 (fun w' => w'.cell? ⟨p, 2, none⟩ = some (.int .i64 h1)) (exact k2) (fail)
  go_wp2_with fail
  obtain ⟨x0, hx⟩ : ∃ x, Hid (bits .and .i64 (bits .xor .i64 (h1 / 8589934592) (h1 / 140737488355328)) 255 = x) := ⟨_, rfl⟩
  have bx := and255 (bits .xor .i64 (h1 / 8589934592) (h1 / 140737488355328))
  rw [hx.out] at bx
  obtain ⟨bx0, bx1⟩ := bx
  rw [hx.out]
  have j2 : W1.drew.cell? ⟨p, 2, none⟩ = some (.int .i64 h1) := k2
  have j1 : W1.drew.cell? ⟨p, 1, none⟩ = some (.int .i64 i) := k1
  have j0 : W1.drew.cell? ⟨p, 0, none⟩ = some (.slice a n cap) := k0
  have jf : ∀ o, W1.drew.frozen? ⟨p, o, none⟩ = false := kf
  have jb : Byt W1.drew a n := bt
  replace G := grownBy_drew G
  clear k0 k1 k2 kf bt hx
  generalize W1.drew = W2 at *
  by_cases hlt : i < n
  · have hlt' : (i : Int) < n := by omega
    go_region_held3 (fun w' => w'.cell? ⟨p, 1, none⟩ = some (.int .i64 i) ∧ w'.cell? ⟨p, 0, none⟩ = some (.slice a n cap)) (exact ⟨j1, j0⟩) (fail)
    go_wp2_with fail
    obtain ⟨b, off, rfl, y, y0, y1, hy⟩ := jb i hlt
    have l2 : W2.drew.cell? ⟨p, 2, none⟩ = some (.int .i64 h1) := j2
    have l1 : W2.drew.cell? ⟨p, 1, none⟩ = some (.int .i64 i) := j1
    have l0 : W2.drew.cell? ⟨p, 0, none⟩ = some (.slice (some ⟨b, off, none⟩) n cap) := j0
    have lf : ∀ o, W2.drew.frozen? ⟨p, o, none⟩ = false := jf
    have lb : Byt W2.drew (some ⟨b, off, none⟩) n := jb
    have ly : W2.drew.cell? ⟨b, off + i, none⟩ = some (.int .u8 y) := hy
    replace G := grownBy_drew G
    clear j0 j1 j2 jf jb hy
    generalize W2.drew = W3 at *
    go_region_held3 (fun w' => w'.cell? ⟨p, 1, none⟩ = some (.int .i64 i) ∧ w'.cell? ⟨p, 0, none⟩ = some (.slice (some ⟨b, off, none⟩) n cap) ∧ w'.cell? ⟨b, off + i, none⟩ = some (.int .u8 y)) (exact ⟨l1, l0, ly⟩) (fail)
    obtain ⟨x1, hx⟩ : ∃ x, Hid (bits .and .i64 (IntKind.i64.wrap (x0 + IntKind.i64.wrap y)) 255 = x) := ⟨_, rfl⟩
    have bx := and255 (IntKind.i64.wrap (x0 + IntKind.i64.wrap y))
    rw [hx.out] at bx
    obtain ⟨e0, e1⟩ := bx
    rw [hx.out]
    have m2 : W3.drew.cell? ⟨p, 2, none⟩ = some (.int .i64 h1) := l2
    have m1 : W3.drew.cell? ⟨p, 1, none⟩ = some (.int .i64 i) := l1
    have m0 : W3.drew.cell? ⟨p, 0, none⟩ = some (.slice (some ⟨b, off, none⟩) n cap) := l0
    have mf : ∀ o, W3.drew.frozen? ⟨p, o, none⟩ = false := lf
    have mb : Byt W3.drew (some ⟨b, off, none⟩) n := lb
    replace G := grownBy_drew G
    clear l0 l1 l2 lf lb ly hx
    generalize W3.drew = W4 at *
    go_wp2
    go_ret
    have G5 : W4.grownBy (W4.setCell ⟨p, 1, none⟩ (.int .i64 (i + 1))) (some p) := grownBy_setCell (grownBy_refl _ _) rfl _
    refine ⟨x1, rfl, e0, e1, ⟨(World.cell?_setCell_other _ _ _ _ (by simp)).trans m0, ⟨i + 1, by omega, ?_⟩, ⟨h1, (World.cell?_setCell_other _ _ _ _ (by simp)).trans m2⟩, fun o => (World.frozen?_setCell ..).trans (mf o), mb.kept G5 HM.out, HM.out, mo⟩, grownBy_trans G G5⟩
    have := World.cell?_setCell_same W4 ⟨p, 1, none⟩ (.int .i64 ((i : Int) + 1)) m1
    simpa using this
  · have hge : (n : Int) ≤ i := by omega
    go_region_held3 (fun w' => w'.cell? ⟨p, 1, none⟩ = some (.int .i64 i) ∧ w'.cell? ⟨p, 0, none⟩ = some (.slice a n cap)) (exact ⟨j1, j0⟩) (fail)
    go_wp2
    go_ret
    exact ⟨x0, rfl, bx0, bx1, ⟨j0, ⟨i, hi, j1⟩, ⟨h1, j2⟩, jf, jb, HM.out, mo⟩, grownBy_drew G⟩

set_option maxHeartbeats 2000000 in
theorem l1Below_any (p : Nat) (a : Option Addr) (n cap : Nat) (m : Int) (w : World) (h : Cur w p a n cap) :
    Calls Try.prog 13 #[.pointer (some ⟨p, 0, none⟩), .int .i64 m] w fun e w' => ∃ x : Int, e = .returned (.int .i64 x) ∧ 0 ≤ x ∧ (0 < m → x < m) ∧ Cur w' p a n cap ∧ w.grownBy w' (some p) := by
  by_cases h0 : m ≤ 0
  · go_enter Try.func13, Try.ntmps13
    go_wp2
    go_ret
    exact ⟨0, rfl, by omega, by omega, h, grownBy_refl _ _⟩
  · have h0' : 0 < m := by omega
    by_cases h1 : m ≤ 256
    · go_enter Try.func13, Try.ntmps13
      go_wp2_with fail
      refine (l1Byte_any p a n cap _ h).mono ?_
      rintro e w1 ⟨x, rfl, x0, x1, hc, g⟩
      have r0 := Int.emod_nonneg x (show m ≠ 0 by omega)
      have r1 := Int.emod_lt_of_pos x h0'
      go_wp2
      go_ret
      exact ⟨x % m, rfl, r0, fun _ => r1, hc, g⟩
    · have h1' : 256 < m := by omega
      go_enter Try.func13, Try.ntmps13
      go_wp2_with fail
      refine (l1Byte_any p a n cap _ h).mono ?_
      rintro e w1 ⟨x, rfl, x0, x1, hc, g⟩
      go_wp2_with fail
      refine (l1Byte_any p a n cap _ hc).mono ?_
      rintro e w2 ⟨y, rfl, y0, y1, hc2, g2⟩
      go_wp2_with fail
      refine (l1Byte_any p a n cap _ hc2).mono ?_
      rintro e w3 ⟨z, rfl, z0, z1, hc3, g3⟩
      have r0 := Int.emod_nonneg (x * 65536 + y * 256 + z) (show m ≠ 0 by omega)
      have r1 := Int.emod_lt_of_pos (x * 65536 + y * 256 + z) h0'
      go_wp2
      go_ret
      exact ⟨(x * 65536 + y * 256 + z) % m, rfl, r0, fun _ => r1, hc3, grownBy_trans (grownBy_trans g g2) g3⟩

set_option maxHeartbeats 1000000 in
theorem l1Once_any (p : Nat) (a : Option Addr) (n cap : Nat) (m : Int) (w : World) (h : Cur w p a n cap) :
    Calls Try.prog 12 #[.pointer (some ⟨p, 0, none⟩), .int .i64 m] w fun e w' => ∃ x : Bool, e = .returned (.bool x) ∧ Cur w' p a n cap ∧ w.grownBy w' (some p) := by
  go_enter Try.func12, Try.ntmps12
  go_wp2_with fail
  refine (l1Below_any p a n cap m _ h).mono ?_
  rintro e w1 ⟨x, rfl, x0, x1, hc, g⟩
  by_cases hx : x = 0
  all_goals
    go_wp2
    go_ret
    exact ⟨_, rfl, hc, g⟩

set_option maxHeartbeats 1000000 in
theorem l1Int_any (p : Nat) (a : Option Addr) (n cap : Nat) (b off k kc : Nat) (w : World) (h : Cur w p a n cap) (hk : 0 < k) (hm : k ≤ 256) (hl : ∀ j, j < k → ∃ z : Int, w.cell? ⟨b, off + j, none⟩ = some (.int .i64 z)) (hb : b ≠ p) :
    Calls Try.prog 47 #[.pointer (some ⟨p, 0, none⟩), .slice (some ⟨b, off, none⟩) k kc] w fun e w' => ∃ j : Nat, j < k ∧ ∃ z : Int, w.cell? ⟨b, off + j, none⟩ = some (.int .i64 z) ∧ e = .returned (.int .i64 z) ∧ Cur w' p a n cap ∧ w.grownBy w' (some p) := by
  go_enter Try.func47, Try.ntmps47
  go_wp2_with fail
  refine (l1Below_any p a n cap k _ h).mono ?_
  rintro e w1 ⟨x, rfl, x0, x1, hc, g⟩
  have x2 := x1 (by omega)
  obtain ⟨j, rfl⟩ : ∃ j : Nat, x = j := ⟨x.toNat, by omega⟩
  have hj : j < k := by omega
  obtain ⟨z, hz⟩ := hl j hj
  have hz1 : w1.cell? ⟨b, off + j, none⟩ = some (.int .i64 z) := (World.cell?_of_block (g.block b (World.block_lt_of_cell? _ _ hz) (fun e => hb (by simpa using e)))).trans hz
  go_wp2
  go_ret
  exact ⟨j, hj, z, hz, rfl, hc, g⟩
end Go.Proofs.Ytbdpnfdpnaoicaa
