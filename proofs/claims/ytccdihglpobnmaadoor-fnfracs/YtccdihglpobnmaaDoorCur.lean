import Derived.Test.YtccdihglpobnmaaDoorBase
import Derived.Test.YtccdihglpobnmaaDoorProg
import Derived.Deep.RegionHeld3
/- The cursor of a draw: a byte of it, a number below a most. -/
namespace Go.Proofs.YtccdihglpobnmaaDoor
open Go.RowKit

/-- n bytes that can be read. -/
def Byt (w : World) (a : Option Addr) (n : Nat) : Prop := ∀ j, j < n → ∃ b off, a = some ⟨b, off, none⟩ ∧ ∃ y : Int, 0 ≤ y ∧ y < 256 ∧ w.cell? ⟨b, off + j, none⟩ = some (.int .u8 y)
/-- A cursor over them, in block p. -/
structure Cur (w : World) (p : Nat) (a : Option Addr) (n cap : Nat) : Prop where
  c0 : w.cell? ⟨p, 0, none⟩ = some (.slice a n cap)
  c1 : ∃ i : Nat, i ≤ n ∧ w.cell? ⟨p, 1, none⟩ = some (.int .i64 i)
  c2 : ∃ h : Int, w.cell? ⟨p, 2, none⟩ = some (.int .i64 h)
  fr : ∀ o, w.frozen? ⟨p, o, none⟩ = false
  byt : Byt w a n
  apart : ∀ b off, a = some ⟨b, off, none⟩ → 0 < n → b ≠ p
  most : n ≤ 1048576

theorem and255 (n : Int) : 0 ≤ bits .and .i64 n 255 ∧ bits .and .i64 n 255 < 256 := by
  have e : (BitVec.ofInt 64 255).toNat = 255 := by decide
  have h : (BitVec.ofInt 64 n &&& BitVec.ofInt 64 255).toNat ≤ 255 := by
    rw [BitVec.toNat_and, e]
    exact Nat.and_le_right
  show 0 ≤ IntKind.i64.wrap ((BitVec.ofInt 64 n &&& BitVec.ofInt 64 255).toNat : Nat) ∧ IntKind.i64.wrap ((BitVec.ofInt 64 n &&& BitVec.ofInt 64 255).toNat : Nat) < 256
  rw [IntKind.wrap_i64]
  omega
theorem grownBy_drew {w w' : World} {row : Option Nat} (h : w.grownBy w' row) : w.grownBy w'.drew row := grownBy_drewN h 1
theorem Byt.kept {w w' : World} {a : Option Addr} {n p : Nat} (h : Byt w a n) (g : w.grownBy w' (some p)) (ap : ∀ b off, a = some ⟨b, off, none⟩ → 0 < n → b ≠ p) : Byt w' a n := by
  intro j hj
  obtain ⟨b, off, e, y, y0, y1, hc⟩ := h j hj
  refine ⟨b, off, e, y, y0, y1, ?_⟩
  rw [← hc]
  exact World.cell?_of_block (g.block b (World.block_lt_of_cell? _ _ hc) (fun q => ap b off e (by omega) (by simpa using q)))

set_option maxHeartbeats 2000000 in
theorem l1Byte_any (p : Nat) (a : Option Addr) (n cap : Nat) (w : World) (h : Cur w p a n cap) :
    Calls Tryd.prog 60 #[.pointer (some ⟨p, 0, none⟩)] w fun e w' => ∃ x : Int, e = .returned (.int .i64 x) ∧ 0 ≤ x ∧ x < 256 ∧ Cur w' p a n cap ∧ w.grownBy w' (some p) := by
  obtain ⟨c0, ⟨i, hi, c1⟩, ⟨h0, c2⟩, fr, byt, ap, mo⟩ := h
  go_enter Tryd.func60, Tryd.ntmps60
  go_wp2_with fail
  generalize hH : wrap64 (wrap64 (h0 * 6364136223846793005) + 1442695040888963407) = h1
  clear hH
  have k2 : (w.setCell ⟨p, 2, none⟩ (.int .i64 h1)).cell? ⟨p, 2, none⟩ = some (.int .i64 h1) := World.cell?_setCell_same _ _ _ c2
  have k1 : (w.setCell ⟨p, 2, none⟩ (.int .i64 h1)).cell? ⟨p, 1, none⟩ = some (.int .i64 i) := (World.cell?_setCell_other _ _ _ _ (by simp)).trans c1
  have k0 : (w.setCell ⟨p, 2, none⟩ (.int .i64 h1)).cell? ⟨p, 0, none⟩ = some (.slice a n cap) := (World.cell?_setCell_other _ _ _ _ (by simp)).trans c0
  have kf : ∀ o, (w.setCell ⟨p, 2, none⟩ (.int .i64 h1)).frozen? ⟨p, o, none⟩ = false := fun o => (World.frozen?_setCell ..).trans (fr o)
  have G : w.grownBy (w.setCell ⟨p, 2, none⟩ (.int .i64 h1)) (some p) := grownBy_setCell (grownBy_refl _ _) rfl _
  have bt := byt.kept G ap
  have HM : Hid (∀ b off, a = some ⟨b, off, none⟩ → 0 < n → b ≠ p) := ap
  clear c0 c1 c2 fr byt ap
  generalize w.setCell ⟨p, 2, none⟩ (.int .i64 h1) = W1 at *
  go_region_held3 (fun w' => w'.cell? ⟨p, 2, none⟩ = some (.int .i64 h1)) (exact k2) (fail)
  go_wp2_with fail
  obtain ⟨x0, hx⟩ : ∃ x, Hid (bits .and .i64 (bits .xor .i64 (h1 / 8589934592) (h1 / 140737488355328)) 255 = x) := ⟨_, rfl⟩
  have bx := and255 (bits .xor .i64 (h1 / 8589934592) (h1 / 140737488355328))
  rw [hx.out] at bx
  obtain ⟨bx0, bx1⟩ := bx
  rw [hx.out]
  have j2 : W1.drew.cell? ⟨p, 2, none⟩ = some (.int .i64 h1) := k2
  have j1 : W1.drew.cell? ⟨p, 1, none⟩ = some (.int .i64 i) := k1
  have j0 : W1.drew.cell? ⟨p, 0, none⟩ = some (.slice a n cap) := k0
  have jf : ∀ o, W1.drew.frozen? ⟨p, o, none⟩ = false := kf
  have jb : Byt W1.drew a n := bt
  replace G := grownBy_drew G
  clear k0 k1 k2 kf bt hx
  generalize W1.drew = W2 at *
  by_cases hlt : i < n
  · have hlt' : (i : Int) < n := by omega
    go_region_held3 (fun w' => w'.cell? ⟨p, 1, none⟩ = some (.int .i64 i) ∧ w'.cell? ⟨p, 0, none⟩ = some (.slice a n cap)) (exact ⟨j1, j0⟩) (fail)
    go_wp2_with fail
    obtain ⟨b, off, rfl, y, y0, y1, hy⟩ := jb i hlt
    have l2 : W2.drew.cell? ⟨p, 2, none⟩ = some (.int .i64 h1) := j2
    have l1 : W2.drew.cell? ⟨p, 1, none⟩ = some (.int .i64 i) := j1
    have l0 : W2.drew.cell? ⟨p, 0, none⟩ = some (.slice (some ⟨b, off, none⟩) n cap) := j0
    have lf : ∀ o, W2.drew.frozen? ⟨p, o, none⟩ = false := jf
    have lb : Byt W2.drew (some ⟨b, off, none⟩) n := jb
    have ly : W2.drew.cell? ⟨b, off + i, none⟩ = some (.int .u8 y) := hy
    replace G := grownBy_drew G
    clear j0 j1 j2 jf jb hy
    generalize W2.drew = W3 at *
    go_region_held3 (fun w' => w'.cell? ⟨p, 1, none⟩ = some (.int .i64 i) ∧ w'.cell? ⟨p, 0, none⟩ = some (.slice (some ⟨b, off, none⟩) n cap) ∧ w'.cell? ⟨b, off + i, none⟩ = some (.int .u8 y)) (exact ⟨l1, l0, ly⟩) (fail)
    obtain ⟨x1, hx⟩ : ∃ x, Hid (bits .and .i64 (IntKind.i64.wrap (x0 + IntKind.i64.wrap y)) 255 = x) := ⟨_, rfl⟩
    have bx := and255 (IntKind.i64.wrap (x0 + IntKind.i64.wrap y))
    rw [hx.out] at bx
    obtain ⟨e0, e1⟩ := bx
    rw [hx.out]
    have m2 : W3.drew.cell? ⟨p, 2, none⟩ = some (.int .i64 h1) := l2
    have m1 : W3.drew.cell? ⟨p, 1, none⟩ = some (.int .i64 i) := l1
    have m0 : W3.drew.cell? ⟨p, 0, none⟩ = some (.slice (some ⟨b, off, none⟩) n cap) := l0
    have mf : ∀ o, W3.drew.frozen? ⟨p, o, none⟩ = false := lf
    have mb : Byt W3.drew (some ⟨b, off, none⟩) n := lb
    replace G := grownBy_drew G
    clear l0 l1 l2 lf lb ly hx
    generalize W3.drew = W4 at *
    go_wp2
    go_ret
    have G5 : W4.grownBy (W4.setCell ⟨p, 1, none⟩ (.int .i64 (i + 1))) (some p) := grownBy_setCell (grownBy_refl _ _) rfl _
    refine ⟨x1, rfl, e0, e1, ⟨(World.cell?_setCell_other _ _ _ _ (by simp)).trans m0, ⟨i + 1, by omega, ?_⟩, ⟨h1, (World.cell?_setCell_other _ _ _ _ (by simp)).trans m2⟩, fun o => (World.frozen?_setCell ..).trans (mf o), mb.kept G5 HM.out, HM.out, mo⟩, grownBy_trans G G5⟩
    have := World.cell?_setCell_same W4 ⟨p, 1, none⟩ (.int .i64 ((i : Int) + 1)) m1
    simpa using this
  · have hge : (n : Int) ≤ i := by omega
    go_region_held3 (fun w' => w'.cell? ⟨p, 1, none⟩ = some (.int .i64 i) ∧ w'.cell? ⟨p, 0, none⟩ = some (.slice a n cap)) (exact ⟨j1, j0⟩) (fail)
    go_wp2
    go_ret
    exact ⟨x0, rfl, bx0, bx1, ⟨j0, ⟨i, hi, j1⟩, ⟨h1, j2⟩, jf, jb, HM.out, mo⟩, grownBy_drew G⟩

set_option maxHeartbeats 2000000 in
theorem l1Below_any (p : Nat) (a : Option Addr) (n cap : Nat) (m : Int) (w : World) (h : Cur w p a n cap) :
    Calls Tryd.prog 30 #[.pointer (some ⟨p, 0, none⟩), .int .i64 m] w fun e w' => ∃ x : Int, e = .returned (.int .i64 x) ∧ 0 ≤ x ∧ (0 < m → x < m) ∧ Cur w' p a n cap ∧ w.grownBy w' (some p) := by
  by_cases h0 : m ≤ 0
  · go_enter Tryd.func30, Tryd.ntmps30
    go_wp2
    go_ret
    exact ⟨0, rfl, by omega, by omega, h, grownBy_refl _ _⟩
  · have h0' : 0 < m := by omega
    by_cases h1 : m ≤ 256
    · go_enter Tryd.func30, Tryd.ntmps30
      go_wp2_with fail
      refine (l1Byte_any p a n cap _ h).mono ?_
      rintro e w1 ⟨x, rfl, x0, x1, hc, g⟩
      have r0 := Int.emod_nonneg x (show m ≠ 0 by omega)
      have r1 := Int.emod_lt_of_pos x h0'
      go_wp2
      go_ret
      exact ⟨x % m, rfl, r0, fun _ => r1, hc, g⟩
    · have h1' : 256 < m := by omega
      go_enter Tryd.func30, Tryd.ntmps30
      go_wp2_with fail
      refine (l1Byte_any p a n cap _ h).mono ?_
      rintro e w1 ⟨x, rfl, x0, x1, hc, g⟩
      go_wp2_with fail
      refine (l1Byte_any p a n cap _ hc).mono ?_
      rintro e w2 ⟨y, rfl, y0, y1, hc2, g2⟩
      go_wp2_with fail
      refine (l1Byte_any p a n cap _ hc2).mono ?_
      rintro e w3 ⟨z, rfl, z0, z1, hc3, g3⟩
      have r0 := Int.emod_nonneg (x * 65536 + y * 256 + z) (show m ≠ 0 by omega)
      have r1 := Int.emod_lt_of_pos (x * 65536 + y * 256 + z) h0'
      go_wp2
      go_ret
      exact ⟨(x * 65536 + y * 256 + z) % m, rfl, r0, fun _ => r1, hc3, grownBy_trans (grownBy_trans g g2) g3⟩

set_option maxHeartbeats 1000000 in
theorem l1Once_any (p : Nat) (a : Option Addr) (n cap : Nat) (m : Int) (w : World) (h : Cur w p a n cap) :
    Calls Tryd.prog 29 #[.pointer (some ⟨p, 0, none⟩), .int .i64 m] w fun e w' => ∃ x : Bool, e = .returned (.bool x) ∧ Cur w' p a n cap ∧ w.grownBy w' (some p) := by
  go_enter Tryd.func29, Tryd.ntmps29
  go_wp2_with fail
  refine (l1Below_any p a n cap m _ h).mono ?_
  rintro e w1 ⟨x, rfl, x0, x1, hc, g⟩
  by_cases hx : x = 0
  all_goals
    go_wp2
    go_ret
    exact ⟨_, rfl, hc, g⟩

set_option maxHeartbeats 1000000 in
theorem l1Int_any (p : Nat) (a : Option Addr) (n cap : Nat) (b off k kc : Nat) (w : World) (h : Cur w p a n cap) (hk : 0 < k) (hm : k ≤ 256) (hl : ∀ j, j < k → ∃ z : Int, w.cell? ⟨b, off + j, none⟩ = some (.int .i64 z)) (hb : b ≠ p) :
    Calls Tryd.prog 63 #[.pointer (some ⟨p, 0, none⟩), .slice (some ⟨b, off, none⟩) k kc] w fun e w' => ∃ j : Nat, j < k ∧ ∃ z : Int, w.cell? ⟨b, off + j, none⟩ = some (.int .i64 z) ∧ e = .returned (.int .i64 z) ∧ Cur w' p a n cap ∧ w.grownBy w' (some p) := by
  go_enter Tryd.func63, Tryd.ntmps63
  go_wp2_with fail
  refine (l1Below_any p a n cap k _ h).mono ?_
  rintro e w1 ⟨x, rfl, x0, x1, hc, g⟩
  have x2 := x1 (by omega)
  obtain ⟨j, rfl⟩ : ∃ j : Nat, x = j := ⟨x.toNat, by omega⟩
  have hj : j < k := by omega
  obtain ⟨z, hz⟩ := hl j hj
  have hz1 : w1.cell? ⟨b, off + j, none⟩ = some (.int .i64 z) := (World.cell?_of_block (g.block b (World.block_lt_of_cell? _ _ hz) (fun e => hb (by simpa using e)))).trans hz
  go_wp2
  go_ret
  exact ⟨j, hj, z, hz, rfl, hc, g⟩
end Go.Proofs.YtccdihglpobnmaaDoor

/- A new cursor; what stays of a cursor and of variables beside it. -/
namespace Go.Proofs.YtccdihglpobnmaaDoor
open Go.RowKit

theorem Byt.below {w w' : World} {a : Option Addr} {n : Nat} (h : Byt w a n) (hb : Below w.heap.size w w') : Byt w' a n := by
  intro j hj
  obtain ⟨b, off, e, y, y0, y1, hc⟩ := h j hj
  exact ⟨b, off, e, y, y0, y1, bat hb hc⟩
theorem Byt.apart {w : World} {a : Option Addr} {n : Nat} (h : Byt w a n) : ∀ b off, a = some ⟨b, off, none⟩ → 0 < n → b ≠ w.heap.size := by
  intro b off ea hn
  obtain ⟨b', off', ea', y, _, _, hc⟩ := h 0 hn
  have hl : b' < w.heap.size := World.block_lt_of_cell? _ _ hc
  rw [ea] at ea'
  simp only [Option.some.injEq, Addr.mk.injEq] at ea'
  omega
theorem Cur.lt {w : World} {p n cap : Nat} {a : Option Addr} (h : Cur w p a n cap) : p < w.heap.size := World.block_lt_of_cell? _ _ h.c0
theorem Cur.below {w w' : World} {p n cap : Nat} {a : Option Addr} (h : Cur w p a n cap) (hb : Below w.heap.size w w') : Cur w' p a n cap := by
  have hl : p < w.heap.size := h.lt
  obtain ⟨c0, ⟨i, hi, c1⟩, ⟨h0, c2⟩, fr, byt, ap, mo⟩ := h
  exact ⟨bat hb c0, ⟨i, hi, bat hb c1⟩, ⟨h0, bat hb c2⟩, fun o => (hb.frozen (p := ⟨p, o, none⟩) hl).trans (fr o), byt.below hb, ap, mo⟩
theorem grown_alloc {w w1 : World} {row : Option Nat} (h : w.grownBy w1 row) (o : Obj) : w.grownBy (w1.alloc o) row := grownBy_trans h (World.grownBy_alloc _ _ _)
theorem grown_new {w w1 : World} {row : Option Nat} (h : w.grownBy w1 row) {q : Nat} (hq : w.heap.size ≤ q) (o : Nat) (u : Value) : w.grownBy (w1.setCell ⟨q, o, none⟩ u) row :=
  ⟨h.os, h.tape, h.output, by simpa using h.size, fun i hi hr => (Below.heap_setCell _ _ _ _ (by show i ≠ q; omega)).trans (h.block i hi hr)⟩
theorem Box2.grown {lo p q : Nat} {w w' : World} {x0 x1 : Value} (h : Box2 lo w q x0 x1) (g : w.grownBy w' (some p)) (ne : q ≠ p) : Box2 lo w' q x0 x1 := by
  have hb := g.block q h.lt (fun e => ne (by simpa using e))
  exact ⟨(World.cell?_of_block hb).trans h.c0, (World.cell?_of_block hb).trans h.c1, fun o => (World.frozen?_of_block (a := ⟨q, o, none⟩) hb).trans (h.fr o), h.lo⟩
/-- A cell elsewhere is set. -/
theorem Cur.put {w : World} {p n cap q : Nat} {a : Option Addr} (h : Cur w p a n cap) (hq : q ≠ p) (hb : ∀ b off, a = some ⟨b, off, none⟩ → 0 < n → b ≠ q) (o : Nat) (u : Value) : Cur (w.setCell ⟨q, o, none⟩ u) p a n cap := by
  obtain ⟨c0, ⟨i, hi, c1⟩, ⟨h0, c2⟩, fr, byt, ap, mo⟩ := h
  have e : ∀ j, (w.setCell ⟨q, o, none⟩ u).cell? ⟨p, j, none⟩ = w.cell? ⟨p, j, none⟩ := fun j => cell_other (.inl hq) u
  refine ⟨(e 0).trans c0, ⟨i, hi, (e 1).trans c1⟩, ⟨h0, (e 2).trans c2⟩, fun j => (World.frozen?_setCell ..).trans (fr j), ?_, ap, mo⟩
  intro j hj
  obtain ⟨b, off, ea, y, y0, y1, hc⟩ := byt j hj
  exact ⟨b, off, ea, y, y0, y1, (cell_other (.inl (Ne.symm (hb b off ea (by omega)))) u).trans hc⟩

set_option maxRecDepth 20000 in
set_option maxHeartbeats 2000000 in
theorem l1New_any (a : Option Addr) (n cap : Nat) (w : World) (hb : Byt w a n) (hm : n ≤ 1048576) :
    Calls Tryd.prog 27 #[.slice a n cap] w fun e w' => e = .returned (.pointer (some ⟨w.heap.size, 0, none⟩)) ∧ Cur w' w.heap.size a n cap ∧ Below w.heap.size w w' := by
  have HM : Hid (n ≤ 1048576) := hm
  have HB : Hid (Byt w a n) := hb
  have hm' : (n : Int) ≤ 9223372036854770000 := by omega
  clear hm hb
  go_enter Tryd.func27, Tryd.ntmps27
  go_wp2
  go_loop [3, 4] (fun h i => ∃ (k : Nat) (z : Int), k ≤ n ∧ i = .int .i64 k ∧ h = .int .i64 z) (fun _ i => n - (intOf i).toNat)
  case atStart => exact ⟨0, _, Nat.zero_le _, rfl, rfl⟩
  case round =>
    obtain ⟨k, z, hk, rfl, rfl⟩ := hrel
    by_cases h1 : k < n
    · by_cases h2 : k < 4000
      · obtain ⟨b, off, rfl, y, y0, y1, hc⟩ := HB.out k h1
        go_wp2
        go_round
        case rel => exact ⟨k + 1, _, by omega, by go_num, rfl⟩
        case measure => simp [intOf]; omega
      · have h2' : (4000 : Int) ≤ k := by omega
        go_wp2
        go_ret
        have hbl := below1 w (.cells #[.slice a n cap, .int .i64 0, .int .i64 z] 88)
        exact ⟨rfl, ⟨cell_new _ _ _ 0 rfl, ⟨0, by omega, cell_new _ _ _ 1 rfl⟩, ⟨z, cell_new _ _ _ 2 rfl⟩, fun o => frozen_new _ _ _ o, HB.out.below hbl, HB.out.apart, HM.out⟩, hbl⟩
    · go_wp2
      go_ret
      have hbl := below1 w (.cells #[.slice a n cap, .int .i64 0, .int .i64 z] 88)
      exact ⟨rfl, ⟨cell_new _ _ _ 0 rfl, ⟨0, by omega, cell_new _ _ _ 1 rfl⟩, ⟨z, cell_new _ _ _ 2 rfl⟩, fun o => frozen_new _ _ _ o, HB.out.below hbl, HB.out.apart, HM.out⟩, hbl⟩
end Go.Proofs.YtccdihglpobnmaaDoor

/- Whole numbers that are drawn: l1Int of a list that is written out, l1Odd, DrawFracOf. -/
namespace Go.Proofs.YtccdihglpobnmaaDoor
open Go.RowKit

theorem ints_cell (L : List Int) (w : World) (t : TypeId) (j : Nat) (hj : j < L.length) : (w.alloc (.cells (L.map (Value.int .i64)).toArray t)).cell? ⟨w.heap.size, 0 + j, none⟩ = some (.int .i64 L[j]) := by
  refine cell_new _ _ _ _ ?_
  simp [hj]

/-- One of a list that lies in a block of its own. -/
theorem l1Int_list (p : Nat) (a : Option Addr) (n cap : Nat) (L : List Int) (b kc : Nat) (w : World) (h : Cur w p a n cap) (hk : 0 < L.length) (hm : L.length ≤ 256) (hl : ∀ j (hj : j < L.length), w.cell? ⟨b, 0 + j, none⟩ = some (.int .i64 L[j])) (hb : b ≠ p) :
    Calls Tryd.prog 63 #[.pointer (some ⟨p, 0, none⟩), .slice (some ⟨b, 0, none⟩) L.length kc] w fun e w' => ∃ z : Int, z ∈ L ∧ e = .returned (.int .i64 z) ∧ Cur w' p a n cap ∧ w.grownBy w' (some p) := by
  refine (l1Int_any p a n cap b 0 L.length kc w h hk hm (fun j hj => ⟨_, hl j hj⟩) hb).mono ?_
  rintro e w' ⟨j, hj, z, hz, rfl, hc, g⟩
  rw [hl j hj] at hz
  simp only [Option.some.injEq, Value.int.injEq, true_and] at hz
  exact ⟨z, by rw [← hz]; exact List.getElem_mem hj, rfl, hc, g⟩

/-- The limits, and beyond. -/
def oddL : List Int := [-1, 0, 1, 2, 255, 256, 65535, 2147483647, 2147483648, 4294967295, 4294967296, -2147483648, 9223372036854775807, -9223372036854775808]
theorem odd_bounds : ∀ z ∈ oddL, -9223372036854775808 ≤ z ∧ z ≤ 9223372036854775807 := by decide

set_option maxRecDepth 20000 in
set_option maxHeartbeats 2000000 in
theorem l1Odd_any (p : Nat) (a : Option Addr) (n cap : Nat) (w : World) (h : Cur w p a n cap) :
    Calls Tryd.prog 32 #[.pointer (some ⟨p, 0, none⟩)] w fun e w' => ∃ z : Int, -9223372036854775808 ≤ z ∧ z ≤ 9223372036854775807 ∧ e = .returned (.int .i64 z) ∧ Cur w' p a n cap ∧ w.grownBy w' (some p) := by
  have hp : p < w.heap.size := h.lt
  have H1 : Cur (w.alloc (.cells (oddL.map (Value.int .i64)).toArray 3)) p a n cap := h.below (below1 _ _)
  have HL : ∀ j (hj : j < oddL.length), (w.alloc (.cells (oddL.map (Value.int .i64)).toArray 3)).cell? ⟨w.heap.size, 0 + j, none⟩ = some (.int .i64 oddL[j]) := fun j hj => ints_cell oddL w _ j hj
  go_enter Tryd.func32, Tryd.ntmps32
  go_wp2_with fail
  refine (l1Int_list p a n cap oddL w.heap.size 14 _ H1 (by decide) (by decide) HL (by omega)).mono ?_
  rintro e w1 ⟨z, hz, rfl, hc, g⟩
  have hb := odd_bounds z hz
  have G := grownBy_trans (World.grownBy_alloc w _ (some p)) g
  clear H1 HL
  go_wp2
  go_ret
  exact ⟨z, hb.1, hb.2, rfl, hc, G⟩

end Go.Proofs.YtccdihglpobnmaaDoor

/- A point that is drawn. -/
namespace Go.Proofs.YtccdihglpobnmaaDoor
open Go.RowKit

theorem Box2.put0 {lo p : Nat} {w : World} {x0 x1 : Value} (h : Box2 lo w p x0 x1) (u : Value) : Box2 lo (w.setCell ⟨p, 0, none⟩ u) p u x1 :=
  ⟨cell_same h.c0 u, (cell_other (.inr (by decide)) u).trans h.c1, fun o => (World.frozen?_setCell ..).trans (h.fr o), h.lo⟩
theorem Box2.put1 {lo p : Nat} {w : World} {x0 x1 : Value} (h : Box2 lo w p x0 x1) (u : Value) : Box2 lo (w.setCell ⟨p, 1, none⟩ u) p x0 u :=
  ⟨(cell_other (.inr (by decide)) u).trans h.c0, cell_same h.c1 u, fun o => (World.frozen?_setCell ..).trans (h.fr o), h.lo⟩
theorem Box2.far {lo p q : Nat} {w : World} {x0 x1 : Value} (h : Box2 lo w q x0 x1) (ne : q ≠ p) (o : Nat) (u : Value) : Box2 lo (w.setCell ⟨p, o, none⟩ u) q x0 x1 :=
  ⟨(cell_other (.inl (Ne.symm ne)) u).trans h.c0, (cell_other (.inl (Ne.symm ne)) u).trans h.c1, fun i => (World.frozen?_setCell ..).trans (h.fr i), h.lo⟩

end Go.Proofs.YtccdihglpobnmaaDoor

/- Whether an input is too long. -/
namespace Go.Proofs.YtccdihglpobnmaaDoor
open Go.RowKit

theorem bigB_any (a : Option Addr) (n cap : Nat) (w : World) :
    Calls Tryd.prog 5 #[.slice a n cap] w fun e w' => e = .returned (.bool (decide (1048576 < (n : Int)))) ∧ w' = w := by
  go_enter Tryd.func5, Tryd.ntmps5
  go_wp2
  go_ret
  exact ⟨rfl, rfl⟩
end Go.Proofs.YtccdihglpobnmaaDoor
