import Derived.Test.YtfhcbgjnojcigaaBase
import Derived.Test.YtfhcbgjnojcigaaProg
import Derived.Deep.RegionHeld3
/- The cursor of a draw: a byte of it, a number below a most. -/
namespace Go.Proofs.Ytfhcbgjnojcigaa
open Go.RowKit

/-- n bytes that can be read. -/
def Byt (w : World) (a : Option Addr) (n : Nat) : Prop := ∀ j, j < n → ∃ b off, a = some ⟨b, off, none⟩ ∧ ∃ y : Int, 0 ≤ y ∧ y < 256 ∧ w.cell? ⟨b, off + j, none⟩ = some (.int .u8 y)
/-- A cursor over them, in block p. -/
structure Cur (w : World) (p : Nat) (a : Option Addr) (n cap : Nat) : Prop where
  c0 : w.cell? ⟨p, 0, none⟩ = some (.slice a n cap)
  c1 : ∃ i : Nat, i ≤ n ∧ w.cell? ⟨p, 1, none⟩ = some (.int .i64 i)
  c2 : ∃ h : Int, w.cell? ⟨p, 2, none⟩ = some (.int .i64 h)
  fr : ∀ o, w.frozen? ⟨p, o, none⟩ = false
  byt : Byt w a n
  apart : ∀ b off, a = some ⟨b, off, none⟩ → 0 < n → b ≠ p
  most : n ≤ 1048576

theorem and255 (n : Int) : 0 ≤ bits .and .i64 n 255 ∧ bits .and .i64 n 255 < 256 := by
  have e : (BitVec.ofInt 64 255).toNat = 255 := by decide
  have h : (BitVec.ofInt 64 n &&& BitVec.ofInt 64 255).toNat ≤ 255 := by
    rw [BitVec.toNat_and, e]
    exact Nat.and_le_right
  show 0 ≤ IntKind.i64.wrap ((BitVec.ofInt 64 n &&& BitVec.ofInt 64 255).toNat : Nat) ∧ IntKind.i64.wrap ((BitVec.ofInt 64 n &&& BitVec.ofInt 64 255).toNat : Nat) < 256
  rw [IntKind.wrap_i64]
  omega
theorem grownBy_drew {w w' : World} {row : Option Nat} (h : w.grownBy w' row) : w.grownBy w'.drew row := grownBy_drewN h 1
theorem Byt.kept {w w' : World} {a : Option Addr} {n p : Nat} (h : Byt w a n) (g : w.grownBy w' (some p)) (ap : ∀ b off, a = some ⟨b, off, none⟩ → 0 < n → b ≠ p) : Byt w' a n := by
  intro j hj
  obtain ⟨b, off, e, y, y0, y1, hc⟩ := h j hj
  refine ⟨b, off, e, y, y0, y1, ?_⟩
  rw [← hc]
  exact World.cell?_of_block (g.block b (World.block_lt_of_cell? _ _ hc) (fun q => ap b off e (by omega) (by simpa using q)))

set_option maxHeartbeats 2000000 in
theorem l1Byte_any (p : Nat) (a : Option Addr) (n cap : Nat) (w : World) (h : Cur w p a n cap) :
    Calls Try.prog 45 #[.pointer (some ⟨p, 0, none⟩)] w fun e w' => ∃ x : Int, e = .returned (.int .i64 x) ∧ 0 ≤ x ∧ x < 256 ∧ Cur w' p a n cap ∧ w.grownBy w' (some p) := by
  obtain ⟨c0, ⟨i, hi, c1⟩, ⟨h0, c2⟩, fr, byt, ap, mo⟩ := h
  go_enter Try.func45, Try.ntmps45
  go_wp2_with fail
  generalize hH : wrap64 (wrap64 (h0 * 6364136223846793005) + 1442695040888963407) = h1
  clear hH
  have k2 : (w.setCell ⟨p, 2, none⟩ (.int .i64 h1)).cell? ⟨p, 2, none⟩ = some (.int .i64 h1) := World.cell?_setCell_same _ _ _ c2
  have k1 : (w.setCell ⟨p, 2, none⟩ (.int .i64 h1)).cell? ⟨p, 1, none⟩ = some (.int .i64 i) := (World.cell?_setCell_other _ _ _ _ (by simp)).trans c1
  have k0 : (w.setCell ⟨p, 2, none⟩ (.int .i64 h1)).cell? ⟨p, 0, none⟩ = some (.slice a n cap) := (World.cell?_setCell_other _ _ _ _ (by simp)).trans c0
  have kf : ∀ o, (w.setCell ⟨p, 2, none⟩ (.int .i64 h1)).frozen? ⟨p, o, none⟩ = false := fun o => (World.frozen?_setCell ..).trans (fr o)
  have G : w.grownBy (w.setCell ⟨p, 2, none⟩ (.int .i64 h1)) (some p) := grownBy_setCell (grownBy_refl _ _) rfl _
  have bt := byt.kept G ap
  have HM : Hid (∀ b off, a = some ⟨b, off, none⟩ → 0 < n → b ≠ p) := ap
  clear c0 c1 c2 fr byt ap
  generalize w.setCell ⟨p, 2, none⟩ (.int .i64 h1) = W1 at *
  go_region_held3 (fun w' => w'.cell? ⟨p, 2, none⟩ = some (.int .i64 h1)) (exact k2) (fail)
  go_wp2_with fail
  obtain ⟨x0, hx⟩ : ∃ x, Hid (bits .and .i64 (bits .xor .i64 (h1 / 8589934592) (h1 / 140737488355328)) 255 = x) := ⟨_, rfl⟩
  have bx := and255 (bits .xor .i64 (h1 / 8589934592) (h1 / 140737488355328))
  rw [hx.out] at bx
  obtain ⟨bx0, bx1⟩ := bx
  rw [hx.out]
  have j2 : W1.drew.cell? ⟨p, 2, none⟩ = some (.int .i64 h1) := k2
  have j1 : W1.drew.cell? ⟨p, 1, none⟩ = some (.int .i64 i) := k1
  have j0 : W1.drew.cell? ⟨p, 0, none⟩ = some (.slice a n cap) := k0
  have jf : ∀ o, W1.drew.frozen? ⟨p, o, none⟩ = false := kf
  have jb : Byt W1.drew a n := bt
  replace G := grownBy_drew G
  clear k0 k1 k2 kf bt hx
  generalize W1.drew = W2 at *
  by_cases hlt : i < n
  · have hlt' : (i : Int) < n := by omega
    go_region_held3 (fun w' => w'.cell? ⟨p, 1, none⟩ = some (.int .i64 i) ∧ w'.cell? ⟨p, 0, none⟩ = some (.slice a n cap)) (exact ⟨j1, j0⟩) (fail)
    go_wp2_with fail
    obtain ⟨b, off, rfl, y, y0, y1, hy⟩ := jb i hlt
    have l2 : W2.drew.cell? ⟨p, 2, none⟩ = some (.int .i64 h1) := j2
    have l1 : W2.drew.cell? ⟨p, 1, none⟩ = some (.int .i64 i) := j1
    have l0 : W2.drew.cell? ⟨p, 0, none⟩ = some (.slice (some ⟨b, off, none⟩) n cap) := j0
    have lf : ∀ o, W2.drew.frozen? ⟨p, o, none⟩ = false := jf
    have lb : Byt W2.drew (some ⟨b, off, none⟩) n := jb
    have ly : W2.drew.cell? ⟨b, off + i, none⟩ = some (.int .u8 y) := hy
    replace G := grownBy_drew G
    clear j0 j1 j2 jf jb hy
    generalize W2.drew = W3 at *
    go_region_held3 (fun w' => w'.cell? ⟨p, 1, none⟩ = some (.int .i64 i) ∧ w'.cell? ⟨p, 0, none⟩ = some (.slice (some ⟨b, off, none⟩) n cap) ∧ w'.cell? ⟨b, off + i, none⟩ = some (.int .u8 y)) (exact ⟨l1, l0, ly⟩) (fail)
    obtain ⟨x1, hx⟩ : ∃ x, Hid (bits .and .i64 (IntKind.i64.wrap (x0 + IntKind.i64.wrap y)) 255 = x) := ⟨_, rfl⟩
    have bx := and255 (IntKind.i64.wrap (x0 + IntKind.i64.wrap y))
    rw [hx.out] at bx
    obtain ⟨e0, e1⟩ := bx
    rw [hx.out]
    have m2 : W3.drew.cell? ⟨p, 2, none⟩ = some (.int .i64 h1) := l2
    have m1 : W3.drew.cell? ⟨p, 1, none⟩ = some (.int .i64 i) := l1
    have m0 : W3.drew.cell? ⟨p, 0, none⟩ = some (.slice (some ⟨b, off, none⟩) n cap) := l0
    have mf : ∀ o, W3.drew.frozen? ⟨p, o, none⟩ = false := lf
    have mb : Byt W3.drew (some ⟨b, off, none⟩) n := lb
    replace G := grownBy_drew G
    clear l0 l1 l2 lf lb ly hx
    generalize W3.drew = W4 at *
    go_wp2
    go_ret
    have G5 : W4.grownBy (W4.setCell ⟨p, 1, none⟩ (.int .i64 (i + 1))) (some p) := grownBy_setCell (grownBy_refl _ _) rfl _
    refine ⟨x1, rfl, e0, e1, ⟨(World.cell?_setCell_other _ _ _ _ (by simp)).trans m0, ⟨i + 1, by omega, ?_⟩, ⟨h1, (World.cell?_setCell_other _ _ _ _ (by simp)).trans m2⟩, fun o => (World.frozen?_setCell ..).trans (mf o), mb.kept G5 HM.out, HM.out, mo⟩, grownBy_trans G G5⟩
    have := World.cell?_setCell_same W4 ⟨p, 1, none⟩ (.int .i64 ((i : Int) + 1)) m1
    simpa using this
  · have hge : (n : Int) ≤ i := by omega
    go_region_held3 (fun w' => w'.cell? ⟨p, 1, none⟩ = some (.int .i64 i) ∧ w'.cell? ⟨p, 0, none⟩ = some (.slice a n cap)) (exact ⟨j1, j0⟩) (fail)
    go_wp2
    go_ret
    exact ⟨x0, rfl, bx0, bx1, ⟨j0, ⟨i, hi, j1⟩, ⟨h1, j2⟩, jf, jb, HM.out, mo⟩, grownBy_drew G⟩

set_option maxHeartbeats 2000000 in
theorem l1Below_any (p : Nat) (a : Option Addr) (n cap : Nat) (m : Int) (w : World) (h : Cur w p a n cap) :
    Calls Try.prog 27 #[.pointer (some ⟨p, 0, none⟩), .int .i64 m] w fun e w' => ∃ x : Int, e = .returned (.int .i64 x) ∧ 0 ≤ x ∧ (0 < m → x < m) ∧ Cur w' p a n cap ∧ w.grownBy w' (some p) := by
  by_cases h0 : m ≤ 0
  · go_enter Try.func27, Try.ntmps27
    go_wp2
    go_ret
    exact ⟨0, rfl, by omega, by omega, h, grownBy_refl _ _⟩
  · have h0' : 0 < m := by omega
    by_cases h1 : m ≤ 256
    · go_enter Try.func27, Try.ntmps27
      go_wp2_with fail
      refine (l1Byte_any p a n cap _ h).mono ?_
      rintro e w1 ⟨x, rfl, x0, x1, hc, g⟩
      have r0 := Int.emod_nonneg x (show m ≠ 0 by omega)
      have r1 := Int.emod_lt_of_pos x h0'
      go_wp2
      go_ret
      exact ⟨x % m, rfl, r0, fun _ => r1, hc, g⟩
    · have h1' : 256 < m := by omega
      go_enter Try.func27, Try.ntmps27
      go_wp2_with fail
      refine (l1Byte_any p a n cap _ h).mono ?_
      rintro e w1 ⟨x, rfl, x0, x1, hc, g⟩
      go_wp2_with fail
      refine (l1Byte_any p a n cap _ hc).mono ?_
      rintro e w2 ⟨y, rfl, y0, y1, hc2, g2⟩
      go_wp2_with fail
      refine (l1Byte_any p a n cap _ hc2).mono ?_
      rintro e w3 ⟨z, rfl, z0, z1, hc3, g3⟩
      have r0 := Int.emod_nonneg (x * 65536 + y * 256 + z) (show m ≠ 0 by omega)
      have r1 := Int.emod_lt_of_pos (x * 65536 + y * 256 + z) h0'
      go_wp2
      go_ret
      exact ⟨(x * 65536 + y * 256 + z) % m, rfl, r0, fun _ => r1, hc3, grownBy_trans (grownBy_trans g g2) g3⟩

set_option maxHeartbeats 1000000 in
theorem l1Once_any (p : Nat) (a : Option Addr) (n cap : Nat) (m : Int) (w : World) (h : Cur w p a n cap) :
    Calls Try.prog 43 #[.pointer (some ⟨p, 0, none⟩), .int .i64 m] w fun e w' => ∃ x : Bool, e = .returned (.bool x) ∧ Cur w' p a n cap ∧ w.grownBy w' (some p) := by
  go_enter Try.func43, Try.ntmps43
  go_wp2_with fail
  refine (l1Below_any p a n cap m _ h).mono ?_
  rintro e w1 ⟨x, rfl, x0, x1, hc, g⟩
  by_cases hx : x = 0
  all_goals
    go_wp2
    go_ret
    exact ⟨_, rfl, hc, g⟩

set_option maxHeartbeats 1000000 in
theorem l1Int_any (p : Nat) (a : Option Addr) (n cap : Nat) (b off k kc : Nat) (w : World) (h : Cur w p a n cap) (hk : 0 < k) (hm : k ≤ 256) (hl : ∀ j, j < k → ∃ z : Int, w.cell? ⟨b, off + j, none⟩ = some (.int .i64 z)) (hb : b ≠ p) :
    Calls Try.prog 44 #[.pointer (some ⟨p, 0, none⟩), .slice (some ⟨b, off, none⟩) k kc] w fun e w' => ∃ j : Nat, j < k ∧ ∃ z : Int, w.cell? ⟨b, off + j, none⟩ = some (.int .i64 z) ∧ e = .returned (.int .i64 z) ∧ Cur w' p a n cap ∧ w.grownBy w' (some p) := by
  go_enter Try.func44, Try.ntmps44
  go_wp2_with fail
  refine (l1Below_any p a n cap k _ h).mono ?_
  rintro e w1 ⟨x, rfl, x0, x1, hc, g⟩
  have x2 := x1 (by omega)
  obtain ⟨j, rfl⟩ : ∃ j : Nat, x = j := ⟨x.toNat, by omega⟩
  have hj : j < k := by omega
  obtain ⟨z, hz⟩ := hl j hj
  have hz1 : w1.cell? ⟨b, off + j, none⟩ = some (.int .i64 z) := (World.cell?_of_block (g.block b (World.block_lt_of_cell? _ _ hz) (fun e => hb (by simpa using e)))).trans hz
  go_wp2
  go_ret
  exact ⟨j, hj, z, hz, rfl, hc, g⟩
end Go.Proofs.Ytfhcbgjnojcigaa

/- A new cursor; what stays of a cursor and of variables beside it. -/
namespace Go.Proofs.Ytfhcbgjnojcigaa
open Go.RowKit

theorem Byt.below {w w' : World} {a : Option Addr} {n : Nat} (h : Byt w a n) (hb : Below w.heap.size w w') : Byt w' a n := by
  intro j hj
  obtain ⟨b, off, e, y, y0, y1, hc⟩ := h j hj
  exact ⟨b, off, e, y, y0, y1, bat hb hc⟩
theorem Byt.apart {w : World} {a : Option Addr} {n : Nat} (h : Byt w a n) : ∀ b off, a = some ⟨b, off, none⟩ → 0 < n → b ≠ w.heap.size := by
  intro b off ea hn
  obtain ⟨b', off', ea', y, _, _, hc⟩ := h 0 hn
  have hl : b' < w.heap.size := World.block_lt_of_cell? _ _ hc
  rw [ea] at ea'
  simp only [Option.some.injEq, Addr.mk.injEq] at ea'
  omega
theorem Cur.lt {w : World} {p n cap : Nat} {a : Option Addr} (h : Cur w p a n cap) : p < w.heap.size := World.block_lt_of_cell? _ _ h.c0
theorem Cur.below {w w' : World} {p n cap : Nat} {a : Option Addr} (h : Cur w p a n cap) (hb : Below w.heap.size w w') : Cur w' p a n cap := by
  have hl : p < w.heap.size := h.lt
  obtain ⟨c0, ⟨i, hi, c1⟩, ⟨h0, c2⟩, fr, byt, ap, mo⟩ := h
  exact ⟨bat hb c0, ⟨i, hi, bat hb c1⟩, ⟨h0, bat hb c2⟩, fun o => (hb.frozen (p := ⟨p, o, none⟩) hl).trans (fr o), byt.below hb, ap, mo⟩
theorem grown_alloc {w w1 : World} {row : Option Nat} (h : w.grownBy w1 row) (o : Obj) : w.grownBy (w1.alloc o) row := grownBy_trans h (World.grownBy_alloc _ _ _)
theorem grown_new {w w1 : World} {row : Option Nat} (h : w.grownBy w1 row) {q : Nat} (hq : w.heap.size ≤ q) (o : Nat) (u : Value) : w.grownBy (w1.setCell ⟨q, o, none⟩ u) row :=
  ⟨h.os, h.tape, h.output, by simpa using h.size, fun i hi hr => (Below.heap_setCell _ _ _ _ (by show i ≠ q; omega)).trans (h.block i hi hr)⟩
theorem Box2.grown {lo p q : Nat} {w w' : World} {x0 x1 : Value} (h : Box2 lo w q x0 x1) (g : w.grownBy w' (some p)) (ne : q ≠ p) : Box2 lo w' q x0 x1 := by
  have hb := g.block q h.lt (fun e => ne (by simpa using e))
  exact ⟨(World.cell?_of_block hb).trans h.c0, (World.cell?_of_block hb).trans h.c1, fun o => (World.frozen?_of_block (a := ⟨q, o, none⟩) hb).trans (h.fr o), h.lo⟩
/-- A cell elsewhere is set. -/
theorem Cur.put {w : World} {p n cap q : Nat} {a : Option Addr} (h : Cur w p a n cap) (hq : q ≠ p) (hb : ∀ b off, a = some ⟨b, off, none⟩ → 0 < n → b ≠ q) (o : Nat) (u : Value) : Cur (w.setCell ⟨q, o, none⟩ u) p a n cap := by
  obtain ⟨c0, ⟨i, hi, c1⟩, ⟨h0, c2⟩, fr, byt, ap, mo⟩ := h
  have e : ∀ j, (w.setCell ⟨q, o, none⟩ u).cell? ⟨p, j, none⟩ = w.cell? ⟨p, j, none⟩ := fun j => cell_other (.inl hq) u
  refine ⟨(e 0).trans c0, ⟨i, hi, (e 1).trans c1⟩, ⟨h0, (e 2).trans c2⟩, fun j => (World.frozen?_setCell ..).trans (fr j), ?_, ap, mo⟩
  intro j hj
  obtain ⟨b, off, ea, y, y0, y1, hc⟩ := byt j hj
  exact ⟨b, off, ea, y, y0, y1, (cell_other (.inl (Ne.symm (hb b off ea (by omega)))) u).trans hc⟩

set_option maxRecDepth 20000 in
set_option maxHeartbeats 2000000 in
theorem l1New_any (a : Option Addr) (n cap : Nat) (w : World) (hb : Byt w a n) (hm : n ≤ 1048576) :
    Calls Try.prog 12 #[.slice a n cap] w fun e w' => e = .returned (.pointer (some ⟨w.heap.size, 0, none⟩)) ∧ Cur w' w.heap.size a n cap ∧ Below w.heap.size w w' := by
  have HM : Hid (n ≤ 1048576) := hm
  have HB : Hid (Byt w a n) := hb
  have hm' : (n : Int) ≤ 9223372036854770000 := by omega
  clear hm hb
  go_enter Try.func12, Try.ntmps12
  go_wp2
  go_loop [3, 4] (fun h i => ∃ (k : Nat) (z : Int), k ≤ n ∧ i = .int .i64 k ∧ h = .int .i64 z) (fun _ i => n - (intOf i).toNat)
  case atStart => exact ⟨0, _, Nat.zero_le _, rfl, rfl⟩
  case round =>
    obtain ⟨k, z, hk, rfl, rfl⟩ := hrel
    by_cases h1 : k < n
    · by_cases h2 : k < 4000
      · obtain ⟨b, off, rfl, y, y0, y1, hc⟩ := HB.out k h1
        go_wp2
        go_round
        case rel => exact ⟨k + 1, _, by omega, by go_num, rfl⟩
        case measure => simp [intOf]; omega
      · have h2' : (4000 : Int) ≤ k := by omega
        go_wp2
        go_ret
        have hbl := below1 w (.cells #[.slice a n cap, .int .i64 0, .int .i64 z] 55)
        exact ⟨rfl, ⟨cell_new _ _ _ 0 rfl, ⟨0, by omega, cell_new _ _ _ 1 rfl⟩, ⟨z, cell_new _ _ _ 2 rfl⟩, fun o => frozen_new _ _ _ o, HB.out.below hbl, HB.out.apart, HM.out⟩, hbl⟩
    · go_wp2
      go_ret
      have hbl := below1 w (.cells #[.slice a n cap, .int .i64 0, .int .i64 z] 55)
      exact ⟨rfl, ⟨cell_new _ _ _ 0 rfl, ⟨0, by omega, cell_new _ _ _ 1 rfl⟩, ⟨z, cell_new _ _ _ 2 rfl⟩, fun o => frozen_new _ _ _ o, HB.out.below hbl, HB.out.apart, HM.out⟩, hbl⟩
end Go.Proofs.Ytfhcbgjnojcigaa

/- A point that is drawn. -/
namespace Go.Proofs.Ytfhcbgjnojcigaa
open Go.RowKit

theorem Box2.put0 {lo p : Nat} {w : World} {x0 x1 : Value} (h : Box2 lo w p x0 x1) (u : Value) : Box2 lo (w.setCell ⟨p, 0, none⟩ u) p u x1 :=
  ⟨cell_same h.c0 u, (cell_other (.inr (by decide)) u).trans h.c1, fun o => (World.frozen?_setCell ..).trans (h.fr o), h.lo⟩
theorem Box2.put1 {lo p : Nat} {w : World} {x0 x1 : Value} (h : Box2 lo w p x0 x1) (u : Value) : Box2 lo (w.setCell ⟨p, 1, none⟩ u) p x0 u :=
  ⟨(cell_other (.inr (by decide)) u).trans h.c0, cell_same h.c1 u, fun o => (World.frozen?_setCell ..).trans (h.fr o), h.lo⟩
theorem Box2.far {lo p q : Nat} {w : World} {x0 x1 : Value} (h : Box2 lo w q x0 x1) (ne : q ≠ p) (o : Nat) (u : Value) : Box2 lo (w.setCell ⟨p, o, none⟩ u) q x0 x1 :=
  ⟨(cell_other (.inl (Ne.symm ne)) u).trans h.c0, (cell_other (.inl (Ne.symm ne)) u).trans h.c1, fun i => (World.frozen?_setCell ..).trans (h.fr i), h.lo⟩

set_option maxRecDepth 20000 in
set_option maxHeartbeats 8000000 in
theorem l3Draw_any (p : Nat) (a : Option Addr) (n cap : Nat) (w : World) (h : Cur w p a n cap) :
    Calls Try.prog 26 #[.pointer (some ⟨p, 0, none⟩)] w fun e w' => ∃ x y : Int, e = .returned (.agg #[.int .i64 x, .int .i64 y]) ∧ Cur w' p a n cap ∧ w.grownBy w' (some p) := by
  have hp : p < w.heap.size := h.lt
  have HA : Hid (∀ q, w.heap.size ≤ q → ∀ b off, a = some ⟨b, off, none⟩ → 0 < n → b ≠ q) := by
    intro q hq b off ea hn
    obtain ⟨b', off', ea', y, _, _, hc⟩ := h.byt 0 hn
    have hl : b' < w.heap.size := World.block_lt_of_cell? _ _ hc
    rw [ea] at ea'
    simp only [Option.some.injEq, Addr.mk.injEq] at ea'
    omega
  have kR := Box2.new w (Nat.le_refl _) (.int .i64 0) (.int .i64 0) 25
  have hc := h.below (below1 w (.cells #[.int .i64 0, .int .i64 0] 25))
  have G := grown_alloc (grownBy_refl w (some p)) (.cells #[.int .i64 0, .int .i64 0] 25)
  have nR : w.heap.size ≠ p := by omega
  clear h
  go_enter Try.func26, Try.ntmps26
  go_wp2_with fail
  generalize w.alloc (.cells #[.int .i64 0, .int .i64 0] 25) = W0 at *
  refine (l1Below_any p a n cap 9 _ hc).mono ?_
  rintro e w1 ⟨x, rfl, x0, x1, hc1, g⟩
  have x2 := x1 (by omega)
  replace kR := kR.grown g nR
  replace G := grownBy_trans G g
  clear hc g x1
  go_wp2_with fail
  refine (l1Below_any p a n cap 9 _ hc1).mono ?_
  rintro e w2 ⟨y, rfl, y0, y1, hc2, g⟩
  have y2 := y1 (by omega)
  replace kR := kR.grown g nR
  replace G := grownBy_trans G g
  clear hc1 g y1
  have lR := kR.lt
  go_wp2_with fail
  have kB := Box2.new w2 (lo := w.heap.size) G.size (.int .i64 (x - 4)) (.int .i64 (y - 4)) 25
  have hb := below1 w2 (.cells #[.int .i64 (x - 4), .int .i64 (y - 4)] 25)
  have nB : w2.heap.size ≠ p := by have := G.size; omega
  have nBR : w2.heap.size ≠ w.heap.size := by omega
  have loB := G.size
  replace kR := kR.below hb
  replace hc2 := hc2.below hb
  replace G := grown_alloc G (.cells #[.int .i64 (x - 4), .int .i64 (y - 4)] 25)
  clear hb
  generalize w2.alloc (.cells #[.int .i64 (x - 4), .int .i64 (y - 4)] 25) = W2 at *
  generalize x - 4 = X at *
  generalize y - 4 = Y at *
  clear x0 x2 y0 y2 lR
  refine (l1Once_any p a n cap 8 _ hc2).mono ?_
  rintro e u1 ⟨f1, rfl, hc1a, g⟩
  replace kR := kR.grown g nR
  replace kB := kB.grown g nB
  replace G := grownBy_trans G g
  clear g hc2
  cases f1
  · skip
    go_wp2_with fail
    refine (l1Once_any p a n cap 8 _ hc1a).mono ?_
    rintro e u2 ⟨f2, rfl, hc2a, g⟩
    replace kR := kR.grown g nR
    replace kB := kB.grown g nB
    replace G := grownBy_trans G g
    clear g hc1a
    cases f2
    · skip
      skip
      have s0 := kB.c0
      have s1 := kB.c1
      have r0 := kR.c0
      have r1 := kR.c1
      have rf := kR.fr
      go_wp2
      exact bodyPost_ret (v := .agg #[.int .i64 X, .int .i64 Y]) (by simp [results, Try.results26, go_sem, r0, r1]) rfl ⟨X, Y, rfl, (hc2a.put nR (HA.out _ (Nat.le_refl _)) 0 _).put nR (HA.out _ (Nat.le_refl _)) 1 _, grown_new (grown_new G (Nat.le_refl _) 0 _) (Nat.le_refl _) 1 _⟩
    · skip
      have lR := kR.lt
      have lB := kB.lt
      have lp := hc2a.lt
      go_wp2_with fail
      have hb := below1 u2 (.cells #[.int .i64 (-10000000), .int .i64 (10000000), .int .i64 (9999998), .int .i64 (7654321), .int .i64 (-10000001), .int .i64 (9223372036854775807)] 3)
      have nL : u2.heap.size ≠ p := by omega
      have hl : ∀ j, j < 6 → ∃ z : Int, (u2.alloc (.cells #[.int .i64 (-10000000), .int .i64 (10000000), .int .i64 (9999998), .int .i64 (7654321), .int .i64 (-10000001), .int .i64 (9223372036854775807)] 3)).cell? ⟨u2.heap.size, 0 + j, none⟩ = some (.int .i64 z) := by
        intro j hj
        have : j = 0 ∨ j = 1 ∨ j = 2 ∨ j = 3 ∨ j = 4 ∨ j = 5 := by omega
        rcases this with rfl | rfl | rfl | rfl | rfl | rfl
        · exact ⟨_, cell_new _ _ _ 0 rfl⟩
        · exact ⟨_, cell_new _ _ _ 1 rfl⟩
        · exact ⟨_, cell_new _ _ _ 2 rfl⟩
        · exact ⟨_, cell_new _ _ _ 3 rfl⟩
        · exact ⟨_, cell_new _ _ _ 4 rfl⟩
        · exact ⟨_, cell_new _ _ _ 5 rfl⟩
      replace kR := kR.below hb
      replace kB := kB.below hb
      replace hc2a := hc2a.below hb
      replace G := grown_alloc G (.cells #[.int .i64 (-10000000), .int .i64 (10000000), .int .i64 (9999998), .int .i64 (7654321), .int .i64 (-10000001), .int .i64 (9223372036854775807)] 3)
      refine (l1Int_any p a n cap u2.heap.size 0 6 6 _ hc2a (by decide) (by decide) hl nL).mono ?_
      rintro e v2 ⟨j, hj, z2, _, rfl, hc2b, g⟩
      replace kR := kR.grown g nR
      replace kB := kB.grown g nB
      replace G := grownBy_trans G g
      clear g hl hb hc2a nL hj
      have s0 := kB.c0
      have s1 := kB.c1
      have sf := kB.fr
      have kB' := kB.put1 (.int .i64 z2)
      have kR' := kR.far (Ne.symm nBR) 1 (.int .i64 z2)
      have hd := hc2b.put nB (HA.out _ loB) 1 (.int .i64 z2)
      have G' := grown_new G loB 1 (.int .i64 z2)
      clear G hc2b
      have r0 := kR.c0
      have r1 := kR.c1
      have rf := kR.fr
      have nRB := Ne.symm nBR
      go_wp2
      exact bodyPost_ret (v := .agg #[.int .i64 X, .int .i64 z2]) (by simp [results, Try.results26, go_sem, kR'.c0, kR'.c1]) rfl ⟨X, z2, rfl, (hd.put nR (HA.out _ (Nat.le_refl _)) 0 _).put nR (HA.out _ (Nat.le_refl _)) 1 _, grown_new (grown_new G' (Nat.le_refl _) 0 _) (Nat.le_refl _) 1 _⟩
  · skip
    have lR := kR.lt
    have lB := kB.lt
    have lp := hc1a.lt
    go_wp2_with fail
    have hb := below1 u1 (.cells #[.int .i64 (-10000000), .int .i64 (10000000), .int .i64 (9999999), .int .i64 (1234567), .int .i64 (10000001), .int .i64 (-9223372036854775808)] 3)
    have nL : u1.heap.size ≠ p := by omega
    have hl : ∀ j, j < 6 → ∃ z : Int, (u1.alloc (.cells #[.int .i64 (-10000000), .int .i64 (10000000), .int .i64 (9999999), .int .i64 (1234567), .int .i64 (10000001), .int .i64 (-9223372036854775808)] 3)).cell? ⟨u1.heap.size, 0 + j, none⟩ = some (.int .i64 z) := by
      intro j hj
      have : j = 0 ∨ j = 1 ∨ j = 2 ∨ j = 3 ∨ j = 4 ∨ j = 5 := by omega
      rcases this with rfl | rfl | rfl | rfl | rfl | rfl
      · exact ⟨_, cell_new _ _ _ 0 rfl⟩
      · exact ⟨_, cell_new _ _ _ 1 rfl⟩
      · exact ⟨_, cell_new _ _ _ 2 rfl⟩
      · exact ⟨_, cell_new _ _ _ 3 rfl⟩
      · exact ⟨_, cell_new _ _ _ 4 rfl⟩
      · exact ⟨_, cell_new _ _ _ 5 rfl⟩
    replace kR := kR.below hb
    replace kB := kB.below hb
    replace hc1a := hc1a.below hb
    replace G := grown_alloc G (.cells #[.int .i64 (-10000000), .int .i64 (10000000), .int .i64 (9999999), .int .i64 (1234567), .int .i64 (10000001), .int .i64 (-9223372036854775808)] 3)
    refine (l1Int_any p a n cap u1.heap.size 0 6 6 _ hc1a (by decide) (by decide) hl nL).mono ?_
    rintro e v1 ⟨j, hj, z1, _, rfl, hc1b, g⟩
    replace kR := kR.grown g nR
    replace kB := kB.grown g nB
    replace G := grownBy_trans G g
    clear g hl hb hc1a nL hj
    have s0 := kB.c0
    have s1 := kB.c1
    have sf := kB.fr
    have kB' := kB.put0 (.int .i64 z1)
    have kR' := kR.far (Ne.symm nBR) 0 (.int .i64 z1)
    have hd := hc1b.put nB (HA.out _ loB) 0 (.int .i64 z1)
    have G' := grown_new G loB 0 (.int .i64 z1)
    clear G hc1b
    clear kB kR
    have kB := kB'
    have kR := kR'
    have G := G'
    clear kB' kR' G'
    go_wp2_with fail
    clear s0 s1 sf
    generalize v1.setCell ⟨w2.heap.size, 0, none⟩ (.int .i64 z1) = t1 at *
    refine (l1Once_any p a n cap 8 _ hd).mono ?_
    rintro e u3 ⟨f3, rfl, hc3a, g⟩
    replace kR := kR.grown g nR
    replace kB := kB.grown g nB
    replace G := grownBy_trans G g
    clear g hd
    cases f3
    · skip
      skip
      have s0 := kB.c0
      have s1 := kB.c1
      have r0 := kR.c0
      have r1 := kR.c1
      have rf := kR.fr
      go_wp2
      exact bodyPost_ret (v := .agg #[.int .i64 z1, .int .i64 Y]) (by simp [results, Try.results26, go_sem, r0, r1]) rfl ⟨z1, Y, rfl, (hc3a.put nR (HA.out _ (Nat.le_refl _)) 0 _).put nR (HA.out _ (Nat.le_refl _)) 1 _, grown_new (grown_new G (Nat.le_refl _) 0 _) (Nat.le_refl _) 1 _⟩
    · skip
      have lR := kR.lt
      have lB := kB.lt
      have lp := hc3a.lt
      go_wp2_with fail
      have hb := below1 u3 (.cells #[.int .i64 (-10000000), .int .i64 (10000000), .int .i64 (9999998), .int .i64 (7654321), .int .i64 (-10000001), .int .i64 (9223372036854775807)] 3)
      have nL : u3.heap.size ≠ p := by omega
      have hl : ∀ j, j < 6 → ∃ z : Int, (u3.alloc (.cells #[.int .i64 (-10000000), .int .i64 (10000000), .int .i64 (9999998), .int .i64 (7654321), .int .i64 (-10000001), .int .i64 (9223372036854775807)] 3)).cell? ⟨u3.heap.size, 0 + j, none⟩ = some (.int .i64 z) := by
        intro j hj
        have : j = 0 ∨ j = 1 ∨ j = 2 ∨ j = 3 ∨ j = 4 ∨ j = 5 := by omega
        rcases this with rfl | rfl | rfl | rfl | rfl | rfl
        · exact ⟨_, cell_new _ _ _ 0 rfl⟩
        · exact ⟨_, cell_new _ _ _ 1 rfl⟩
        · exact ⟨_, cell_new _ _ _ 2 rfl⟩
        · exact ⟨_, cell_new _ _ _ 3 rfl⟩
        · exact ⟨_, cell_new _ _ _ 4 rfl⟩
        · exact ⟨_, cell_new _ _ _ 5 rfl⟩
      replace kR := kR.below hb
      replace kB := kB.below hb
      replace hc3a := hc3a.below hb
      replace G := grown_alloc G (.cells #[.int .i64 (-10000000), .int .i64 (10000000), .int .i64 (9999998), .int .i64 (7654321), .int .i64 (-10000001), .int .i64 (9223372036854775807)] 3)
      refine (l1Int_any p a n cap u3.heap.size 0 6 6 _ hc3a (by decide) (by decide) hl nL).mono ?_
      rintro e v3 ⟨j, hj, z3, _, rfl, hc3b, g⟩
      replace kR := kR.grown g nR
      replace kB := kB.grown g nB
      replace G := grownBy_trans G g
      clear g hl hb hc3a nL hj
      have s0 := kB.c0
      have s1 := kB.c1
      have sf := kB.fr
      have kB' := kB.put1 (.int .i64 z3)
      have kR' := kR.far (Ne.symm nBR) 1 (.int .i64 z3)
      have hd := hc3b.put nB (HA.out _ loB) 1 (.int .i64 z3)
      have G' := grown_new G loB 1 (.int .i64 z3)
      clear G hc3b
      have r0 := kR.c0
      have r1 := kR.c1
      have rf := kR.fr
      have nRB := Ne.symm nBR
      go_wp2
      exact bodyPost_ret (v := .agg #[.int .i64 z1, .int .i64 z3]) (by simp [results, Try.results26, go_sem, kR'.c0, kR'.c1]) rfl ⟨z1, z3, rfl, (hd.put nR (HA.out _ (Nat.le_refl _)) 0 _).put nR (HA.out _ (Nat.le_refl _)) 1 _, grown_new (grown_new G' (Nat.le_refl _) 0 _) (Nat.le_refl _) 1 _⟩
end Go.Proofs.Ytfhcbgjnojcigaa
