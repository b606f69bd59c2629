import Derived.Test.YtcnmglghmianoaaBase
import Derived.Test.YtcnmglghmianoaaProg
import Derived.Deep.RegionHeld3
import Derived.Test.YtcnmglghmianoaaRowPt
import Derived.Test.YtcnmglghmianoaaShapeL
import Derived.Maps.AppendAt
/- The cursor of a draw: a byte of it, a number below a most. -/
namespace Go.Proofs.Ytcnmglghmianoaa
open Go.RowKit

/-- n bytes that can be read. -/
def Byt (w : World) (a : Option Addr) (n : Nat) : Prop := ∀ j, j < n → ∃ b off, a = some ⟨b, off, none⟩ ∧ ∃ y : Int, 0 ≤ y ∧ y < 256 ∧ w.cell? ⟨b, off + j, none⟩ = some (.int .u8 y)
/-- A cursor over them, in block p. -/
structure Cur (w : World) (p : Nat) (a : Option Addr) (n cap : Nat) : Prop where
  c0 : w.cell? ⟨p, 0, none⟩ = some (.slice a n cap)
  c1 : ∃ i : Nat, i ≤ n ∧ w.cell? ⟨p, 1, none⟩ = some (.int .i64 i)
  c2 : ∃ h : Int, w.cell? ⟨p, 2, none⟩ = some (.int .i64 h)
  fr : ∀ o, w.frozen? ⟨p, o, none⟩ = false
  byt : Byt w a n
  apart : ∀ b off, a = some ⟨b, off, none⟩ → 0 < n → b ≠ p
  most : n ≤ 1048576

theorem and255 (n : Int) : 0 ≤ bits .and .i64 n 255 ∧ bits .and .i64 n 255 < 256 := by
  have e : (BitVec.ofInt 64 255).toNat = 255 := by decide
  have h : (BitVec.ofInt 64 n &&& BitVec.ofInt 64 255).toNat ≤ 255 := by
    rw [BitVec.toNat_and, e]
    exact Nat.and_le_right
  show 0 ≤ IntKind.i64.wrap ((BitVec.ofInt 64 n &&& BitVec.ofInt 64 255).toNat : Nat) ∧ IntKind.i64.wrap ((BitVec.ofInt 64 n &&& BitVec.ofInt 64 255).toNat : Nat) < 256
  rw [IntKind.wrap_i64]
  omega
theorem grownBy_drew {w w' : World} {row : Option Nat} (h : w.grownBy w' row) : w.grownBy w'.drew row := grownBy_drewN h 1
theorem Byt.kept {w w' : World} {a : Option Addr} {n p : Nat} (h : Byt w a n) (g : w.grownBy w' (some p)) (ap : ∀ b off, a = some ⟨b, off, none⟩ → 0 < n → b ≠ p) : Byt w' a n := by
  intro j hj
  obtain ⟨b, off, e, y, y0, y1, hc⟩ := h j hj
  refine ⟨b, off, e, y, y0, y1, ?_⟩
  rw [← hc]
  exact World.cell?_of_block (g.block b (World.block_lt_of_cell? _ _ hc) (fun q => ap b off e (by omega) (by simpa using q)))

set_option maxHeartbeats 2000000 in
theorem l1Byte_any (p : Nat) (a : Option Addr) (n cap : Nat) (w : World) (h : Cur w p a n cap) :
    Calls Try.prog 53 #[.pointer (some ⟨p, 0, none⟩)] w fun e w' => ∃ x : Int, e = .returned (.int .i64 x) ∧ 0 ≤ x ∧ x < 256 ∧ Cur w' p a n cap ∧ w.grownBy w' (some p) := by
  obtain ⟨c0, ⟨i, hi, c1⟩, ⟨h0, c2⟩, fr, byt, ap, mo⟩ := h
  go_enter Try.func53, Try.ntmps53
  go_wp2_with fail
  generalize hH : wrap64 (wrap64 (h0 * 6364136223846793005) + 1442695040888963407) = h1
  clear hH
  have k2 : (w.setCell ⟨p, 2, none⟩ (.int .i64 h1)).cell? ⟨p, 2, none⟩ = some (.int .i64 h1) := World.cell?_setCell_same _ _ _ c2
  have k1 : (w.setCell ⟨p, 2, none⟩ (.int .i64 h1)).cell? ⟨p, 1, none⟩ = some (.int .i64 i) := (World.cell?_setCell_other _ _ _ _ (by simp)).trans c1
  have k0 : (w.setCell ⟨p, 2, none⟩ (.int .i64 h1)).cell? ⟨p, 0, none⟩ = some (.slice a n cap) := (World.cell?_setCell_other _ _ _ _ (by simp)).trans c0
  have kf : ∀ o, (w.setCell ⟨p, 2, none⟩ (.int .i64 h1)).frozen? ⟨p, o, none⟩ = false := fun o => (World.frozen?_setCell ..).trans (fr o)
  have G : w.grownBy (w.setCell ⟨p, 2, none⟩ (.int .i64 h1)) (some p) := grownBy_setCell (grownBy_refl _ _) rfl _
  have bt := byt.kept G ap
  have HM : Hid (∀ b off, a = some ⟨b, off, none⟩ → 0 < n → b ≠ p) := ap
  clear c0 c1 c2 fr byt ap
  generalize w.setCell ⟨p, 2, none⟩ (.int .i64 h1) = W1 at *
  go_region_held3 (fun w' => w'.cell? ⟨p, 2, none⟩ = some (.int .i64 h1)) (exact k2) (fail)
  go_wp2_with fail
  obtain ⟨x0, hx⟩ : ∃ x, Hid (bits .and .i64 (bits .xor .i64 (h1 / 8589934592) (h1 / 140737488355328)) 255 = x) := ⟨_, rfl⟩
  have bx := and255 (bits .xor .i64 (h1 / 8589934592) (h1 / 140737488355328))
  rw [hx.out] at bx
  obtain ⟨bx0, bx1⟩ := bx
  rw [hx.out]
  have j2 : W1.drew.cell? ⟨p, 2, none⟩ = some (.int .i64 h1) := k2
  have j1 : W1.drew.cell? ⟨p, 1, none⟩ = some (.int .i64 i) := k1
  have j0 : W1.drew.cell? ⟨p, 0, none⟩ = some (.slice a n cap) := k0
  have jf : ∀ o, W1.drew.frozen? ⟨p, o, none⟩ = false := kf
  have jb : Byt W1.drew a n := bt
  replace G := grownBy_drew G
  clear k0 k1 k2 kf bt hx
  generalize W1.drew = W2 at *
  by_cases hlt : i < n
  · have hlt' : (i : Int) < n := by omega
    go_region_held3 (fun w' => w'.cell? ⟨p, 1, none⟩ = some (.int .i64 i) ∧ w'.cell? ⟨p, 0, none⟩ = some (.slice a n cap)) (exact ⟨j1, j0⟩) (fail)
    go_wp2_with fail
    obtain ⟨b, off, rfl, y, y0, y1, hy⟩ := jb i hlt
    have l2 : W2.drew.cell? ⟨p, 2, none⟩ = some (.int .i64 h1) := j2
    have l1 : W2.drew.cell? ⟨p, 1, none⟩ = some (.int .i64 i) := j1
    have l0 : W2.drew.cell? ⟨p, 0, none⟩ = some (.slice (some ⟨b, off, none⟩) n cap) := j0
    have lf : ∀ o, W2.drew.frozen? ⟨p, o, none⟩ = false := jf
    have lb : Byt W2.drew (some ⟨b, off, none⟩) n := jb
    have ly : W2.drew.cell? ⟨b, off + i, none⟩ = some (.int .u8 y) := hy
    replace G := grownBy_drew G
    clear j0 j1 j2 jf jb hy
    generalize W2.drew = W3 at *
    go_region_held3 (fun w' => w'.cell? ⟨p, 1, none⟩ = some (.int .i64 i) ∧ w'.cell? ⟨p, 0, none⟩ = some (.slice (some ⟨b, off, none⟩) n cap) ∧ w'.cell? ⟨b, off + i, none⟩ = some (.int .u8 y)) (exact ⟨l1, l0, ly⟩) (fail)
    obtain ⟨x1, hx⟩ : ∃ x, Hid (bits .and .i64 (IntKind.i64.wrap (x0 + IntKind.i64.wrap y)) 255 = x) := ⟨_, rfl⟩
    have bx := and255 (IntKind.i64.wrap (x0 + IntKind.i64.wrap y))
    rw [hx.out] at bx
    obtain ⟨e0, e1⟩ := bx
    rw [hx.out]
    have m2 : W3.drew.cell? ⟨p, 2, none⟩ = some (.int .i64 h1) := l2
    have m1 : W3.drew.cell? ⟨p, 1, none⟩ = some (.int .i64 i) := l1
    have m0 : W3.drew.cell? ⟨p, 0, none⟩ = some (.slice (some ⟨b, off, none⟩) n cap) := l0
    have mf : ∀ o, W3.drew.frozen? ⟨p, o, none⟩ = false := lf
    have mb : Byt W3.drew (some ⟨b, off, none⟩) n := lb
    replace G := grownBy_drew G
    clear l0 l1 l2 lf lb ly hx
    generalize W3.drew = W4 at *
    go_wp2
    go_ret
    have G5 : W4.grownBy (W4.setCell ⟨p, 1, none⟩ (.int .i64 (i + 1))) (some p) := grownBy_setCell (grownBy_refl _ _) rfl _
    refine ⟨x1, rfl, e0, e1, ⟨(World.cell?_setCell_other _ _ _ _ (by simp)).trans m0, ⟨i + 1, by omega, ?_⟩, ⟨h1, (World.cell?_setCell_other _ _ _ _ (by simp)).trans m2⟩, fun o => (World.frozen?_setCell ..).trans (mf o), mb.kept G5 HM.out, HM.out, mo⟩, grownBy_trans G G5⟩
    have := World.cell?_setCell_same W4 ⟨p, 1, none⟩ (.int .i64 ((i : Int) + 1)) m1
    simpa using this
  · have hge : (n : Int) ≤ i := by omega
    go_region_held3 (fun w' => w'.cell? ⟨p, 1, none⟩ = some (.int .i64 i) ∧ w'.cell? ⟨p, 0, none⟩ = some (.slice a n cap)) (exact ⟨j1, j0⟩) (fail)
    go_wp2
    go_ret
    exact ⟨x0, rfl, bx0, bx1, ⟨j0, ⟨i, hi, j1⟩, ⟨h1, j2⟩, jf, jb, HM.out, mo⟩, grownBy_drew G⟩

set_option maxHeartbeats 2000000 in
theorem l1Below_any (p : Nat) (a : Option Addr) (n cap : Nat) (m : Int) (w : World) (h : Cur w p a n cap) :
    Calls Try.prog 32 #[.pointer (some ⟨p, 0, none⟩), .int .i64 m] w fun e w' => ∃ x : Int, e = .returned (.int .i64 x) ∧ 0 ≤ x ∧ (0 < m → x < m) ∧ Cur w' p a n cap ∧ w.grownBy w' (some p) := by
  by_cases h0 : m ≤ 0
  · go_enter Try.func32, Try.ntmps32
    go_wp2
    go_ret
    exact ⟨0, rfl, by omega, by omega, h, grownBy_refl _ _⟩
  · have h0' : 0 < m := by omega
    by_cases h1 : m ≤ 256
    · go_enter Try.func32, Try.ntmps32
      go_wp2_with fail
      refine (l1Byte_any p a n cap _ h).mono ?_
      rintro e w1 ⟨x, rfl, x0, x1, hc, g⟩
      have r0 := Int.emod_nonneg x (show m ≠ 0 by omega)
      have r1 := Int.emod_lt_of_pos x h0'
      go_wp2
      go_ret
      exact ⟨x % m, rfl, r0, fun _ => r1, hc, g⟩
    · have h1' : 256 < m := by omega
      go_enter Try.func32, Try.ntmps32
      go_wp2_with fail
      refine (l1Byte_any p a n cap _ h).mono ?_
      rintro e w1 ⟨x, rfl, x0, x1, hc, g⟩
      go_wp2_with fail
      refine (l1Byte_any p a n cap _ hc).mono ?_
      rintro e w2 ⟨y, rfl, y0, y1, hc2, g2⟩
      go_wp2_with fail
      refine (l1Byte_any p a n cap _ hc2).mono ?_
      rintro e w3 ⟨z, rfl, z0, z1, hc3, g3⟩
      have r0 := Int.emod_nonneg (x * 65536 + y * 256 + z) (show m ≠ 0 by omega)
      have r1 := Int.emod_lt_of_pos (x * 65536 + y * 256 + z) h0'
      go_wp2
      go_ret
      exact ⟨(x * 65536 + y * 256 + z) % m, rfl, r0, fun _ => r1, hc3, grownBy_trans (grownBy_trans g g2) g3⟩

set_option maxHeartbeats 1000000 in
theorem l1Once_any (p : Nat) (a : Option Addr) (n cap : Nat) (m : Int) (w : World) (h : Cur w p a n cap) :
    Calls Try.prog 35 #[.pointer (some ⟨p, 0, none⟩), .int .i64 m] w fun e w' => ∃ x : Bool, e = .returned (.bool x) ∧ Cur w' p a n cap ∧ w.grownBy w' (some p) := by
  go_enter Try.func35, Try.ntmps35
  go_wp2_with fail
  refine (l1Below_any p a n cap m _ h).mono ?_
  rintro e w1 ⟨x, rfl, x0, x1, hc, g⟩
  by_cases hx : x = 0
  all_goals
    go_wp2
    go_ret
    exact ⟨_, rfl, hc, g⟩

set_option maxHeartbeats 1000000 in
theorem l1Int_any (p : Nat) (a : Option Addr) (n cap : Nat) (b off k kc : Nat) (w : World) (h : Cur w p a n cap) (hk : 0 < k) (hm : k ≤ 256) (hl : ∀ j, j < k → ∃ z : Int, w.cell? ⟨b, off + j, none⟩ = some (.int .i64 z)) (hb : b ≠ p) :
    Calls Try.prog 16 #[.pointer (some ⟨p, 0, none⟩), .slice (some ⟨b, off, none⟩) k kc] w fun e w' => ∃ j : Nat, j < k ∧ ∃ z : Int, w.cell? ⟨b, off + j, none⟩ = some (.int .i64 z) ∧ e = .returned (.int .i64 z) ∧ Cur w' p a n cap ∧ w.grownBy w' (some p) := by
  go_enter Try.func16, Try.ntmps16
  go_wp2_with fail
  refine (l1Below_any p a n cap k _ h).mono ?_
  rintro e w1 ⟨x, rfl, x0, x1, hc, g⟩
  have x2 := x1 (by omega)
  obtain ⟨j, rfl⟩ : ∃ j : Nat, x = j := ⟨x.toNat, by omega⟩
  have hj : j < k := by omega
  obtain ⟨z, hz⟩ := hl j hj
  have hz1 : w1.cell? ⟨b, off + j, none⟩ = some (.int .i64 z) := (World.cell?_of_block (g.block b (World.block_lt_of_cell? _ _ hz) (fun e => hb (by simpa using e)))).trans hz
  go_wp2
  go_ret
  exact ⟨j, hj, z, hz, rfl, hc, g⟩
end Go.Proofs.Ytcnmglghmianoaa

/- A new cursor; what stays of a cursor and of variables beside it. -/
namespace Go.Proofs.Ytcnmglghmianoaa
open Go.RowKit

theorem Byt.below {w w' : World} {a : Option Addr} {n : Nat} (h : Byt w a n) (hb : Below w.heap.size w w') : Byt w' a n := by
  intro j hj
  obtain ⟨b, off, e, y, y0, y1, hc⟩ := h j hj
  exact ⟨b, off, e, y, y0, y1, bat hb hc⟩
theorem Byt.apart {w : World} {a : Option Addr} {n : Nat} (h : Byt w a n) : ∀ b off, a = some ⟨b, off, none⟩ → 0 < n → b ≠ w.heap.size := by
  intro b off ea hn
  obtain ⟨b', off', ea', y, _, _, hc⟩ := h 0 hn
  have hl : b' < w.heap.size := World.block_lt_of_cell? _ _ hc
  rw [ea] at ea'
  simp only [Option.some.injEq, Addr.mk.injEq] at ea'
  omega
theorem Cur.lt {w : World} {p n cap : Nat} {a : Option Addr} (h : Cur w p a n cap) : p < w.heap.size := World.block_lt_of_cell? _ _ h.c0
theorem Cur.below {w w' : World} {p n cap : Nat} {a : Option Addr} (h : Cur w p a n cap) (hb : Below w.heap.size w w') : Cur w' p a n cap := by
  have hl : p < w.heap.size := h.lt
  obtain ⟨c0, ⟨i, hi, c1⟩, ⟨h0, c2⟩, fr, byt, ap, mo⟩ := h
  exact ⟨bat hb c0, ⟨i, hi, bat hb c1⟩, ⟨h0, bat hb c2⟩, fun o => (hb.frozen (p := ⟨p, o, none⟩) hl).trans (fr o), byt.below hb, ap, mo⟩
theorem grown_alloc {w w1 : World} {row : Option Nat} (h : w.grownBy w1 row) (o : Obj) : w.grownBy (w1.alloc o) row := grownBy_trans h (World.grownBy_alloc _ _ _)
theorem grown_new {w w1 : World} {row : Option Nat} (h : w.grownBy w1 row) {q : Nat} (hq : w.heap.size ≤ q) (o : Nat) (u : Value) : w.grownBy (w1.setCell ⟨q, o, none⟩ u) row :=
  ⟨h.os, h.tape, h.output, by simpa using h.size, fun i hi hr => (Below.heap_setCell _ _ _ _ (by show i ≠ q; omega)).trans (h.block i hi hr)⟩
theorem Box2.grown {lo p q : Nat} {w w' : World} {x0 x1 : Value} (h : Box2 lo w q x0 x1) (g : w.grownBy w' (some p)) (ne : q ≠ p) : Box2 lo w' q x0 x1 := by
  have hb := g.block q h.lt (fun e => ne (by simpa using e))
  exact ⟨(World.cell?_of_block hb).trans h.c0, (World.cell?_of_block hb).trans h.c1, fun o => (World.frozen?_of_block (a := ⟨q, o, none⟩) hb).trans (h.fr o), h.lo⟩
/-- A cell elsewhere is set. -/
theorem Cur.put {w : World} {p n cap q : Nat} {a : Option Addr} (h : Cur w p a n cap) (hq : q ≠ p) (hb : ∀ b off, a = some ⟨b, off, none⟩ → 0 < n → b ≠ q) (o : Nat) (u : Value) : Cur (w.setCell ⟨q, o, none⟩ u) p a n cap := by
  obtain ⟨c0, ⟨i, hi, c1⟩, ⟨h0, c2⟩, fr, byt, ap, mo⟩ := h
  have e : ∀ j, (w.setCell ⟨q, o, none⟩ u).cell? ⟨p, j, none⟩ = w.cell? ⟨p, j, none⟩ := fun j => cell_other (.inl hq) u
  refine ⟨(e 0).trans c0, ⟨i, hi, (e 1).trans c1⟩, ⟨h0, (e 2).trans c2⟩, fun j => (World.frozen?_setCell ..).trans (fr j), ?_, ap, mo⟩
  intro j hj
  obtain ⟨b, off, ea, y, y0, y1, hc⟩ := byt j hj
  exact ⟨b, off, ea, y, y0, y1, (cell_other (.inl (Ne.symm (hb b off ea (by omega)))) u).trans hc⟩

set_option maxRecDepth 20000 in
set_option maxHeartbeats 2000000 in
theorem l1New_any (a : Option Addr) (n cap : Nat) (w : World) (hb : Byt w a n) (hm : n ≤ 1048576) :
    Calls Try.prog 13 #[.slice a n cap] w fun e w' => e = .returned (.pointer (some ⟨w.heap.size, 0, none⟩)) ∧ Cur w' w.heap.size a n cap ∧ Below w.heap.size w w' := by
  have HM : Hid (n ≤ 1048576) := hm
  have HB : Hid (Byt w a n) := hb
  have hm' : (n : Int) ≤ 9223372036854770000 := by omega
  clear hm hb
  go_enter Try.func13, Try.ntmps13
  go_wp2
  go_loop [3, 4] (fun h i => ∃ (k : Nat) (z : Int), k ≤ n ∧ i = .int .i64 k ∧ h = .int .i64 z) (fun _ i => n - (intOf i).toNat)
  case atStart => exact ⟨0, _, Nat.zero_le _, rfl, rfl⟩
  case round =>
    obtain ⟨k, z, hk, rfl, rfl⟩ := hrel
    by_cases h1 : k < n
    · by_cases h2 : k < 4000
      · obtain ⟨b, off, rfl, y, y0, y1, hc⟩ := HB.out k h1
        go_wp2
        go_round
        case rel => exact ⟨k + 1, _, by omega, by go_num, rfl⟩
        case measure => simp [intOf]; omega
      · have h2' : (4000 : Int) ≤ k := by omega
        go_wp2
        go_ret
        have hbl := below1 w (.cells #[.slice a n cap, .int .i64 0, .int .i64 z] 58)
        exact ⟨rfl, ⟨cell_new _ _ _ 0 rfl, ⟨0, by omega, cell_new _ _ _ 1 rfl⟩, ⟨z, cell_new _ _ _ 2 rfl⟩, fun o => frozen_new _ _ _ o, HB.out.below hbl, HB.out.apart, HM.out⟩, hbl⟩
    · go_wp2
      go_ret
      have hbl := below1 w (.cells #[.slice a n cap, .int .i64 0, .int .i64 z] 58)
      exact ⟨rfl, ⟨cell_new _ _ _ 0 rfl, ⟨0, by omega, cell_new _ _ _ 1 rfl⟩, ⟨z, cell_new _ _ _ 2 rfl⟩, fun o => frozen_new _ _ _ o, HB.out.below hbl, HB.out.apart, HM.out⟩, hbl⟩
end Go.Proofs.Ytcnmglghmianoaa

/- Shapes that are drawn: a list of rows that a call owns, whatever stands in them. -/
namespace Go.Proofs.Ytcnmglghmianoaa
open Go.RowKit

/-- A list of rows of points of the call's own: each row in a block of its own. -/
structure RingsR (lo : Nat) (w : World) (v : Value) (vs : List Value) : Prop where
  own : w.ownsRow lo 24 1 v vs.length vs
  rows : ∀ u ∈ vs, ∃ ps, RowPt lo w u ps ∧ ps.length ≤ 200
  ne : ∀ u ∈ vs, ∀ k, u.ownBlock = some k → v.ownBlock ≠ some k
  apart : ∀ (i j : Nat) (u u' : Value), i < j → vs[i]? = some u → vs[j]? = some u' → ∀ k, u.ownBlock = some k → u'.ownBlock ≠ some k
  few : vs.length ≤ 20
theorem owns_kept {w w' : World} {base e size n : Nat} {v : Value} {xs : List Value} {row : Option Nat} (h : w.ownsRow base e size v n xs) (g : w.grownBy w' row) (ne : ∀ k, v.ownBlock = some k → row ≠ some k) : w'.ownsRow base e size v n xs := by
  refine h.kept g ?_
  cases q : v.ownBlock with
  | none => exact .inl rfl
  | some k => exact .inr (fun e => ne k q e.symm)
theorem RingsR.kept {lo : Nat} {w w' : World} {v : Value} {vs : List Value} {row : Option Nat} (h : RingsR lo w v vs) (g : w.grownBy w' row) (nv : ∀ k, v.ownBlock = some k → row ≠ some k) (nr : ∀ u ∈ vs, ∀ k, u.ownBlock = some k → row ≠ some k) : RingsR lo w' v vs :=
  ⟨owns_kept h.own g nv, fun u hu => by
    obtain ⟨ps, R, l⟩ := h.rows u hu
    exact ⟨ps, owns_kept R g (nr u hu), l⟩, h.ne, h.apart, h.few⟩
theorem RingsR.below {lo : Nat} {w w' : World} {v : Value} {vs : List Value} (h : RingsR lo w v vs) (hb : Below w.heap.size w w') : RingsR lo w' v vs :=
  h.kept (grown_of_below hb) (fun _ _ e => by cases e) (fun _ _ _ _ e => by cases e)
/-- What is drawn on leaves it. -/
theorem RingsR.drawn {lo p : Nat} {w w' : World} {v : Value} {vs : List Value} (h : RingsR lo w v vs) (g : w.grownBy w' (some p)) (hp : p < lo) : RingsR lo w' v vs :=
  h.kept g (fun k hk e => by have := (World.ownsRow.lt h.own k hk).1; injection e with e; omega) (fun u hu k hk e => by
    obtain ⟨ps, R, _⟩ := h.rows u hu
    have := (World.ownsRow.lt R k hk).1
    injection e with e
    omega)
theorem RingsR.base {lo lo' : Nat} {w : World} {v : Value} {vs : List Value} (h : RingsR lo w v vs) (hl : lo' ≤ lo) : RingsR lo' w v vs :=
  ⟨row_base h.own hl, fun u hu => by
    obtain ⟨ps, R, l⟩ := h.rows u hu
    exact ⟨ps, row_base R hl, l⟩, h.ne, h.apart, h.few⟩
theorem RowPt.drawn {lo p : Nat} {w w' : World} {v : Value} {ps : List (Int × Int)} (h : RowPt lo w v ps) (g : w.grownBy w' (some p)) (hp : p < lo) : RowPt lo w' v ps :=
  owns_kept h g (fun k hk e => by have := (World.ownsRow.lt h k hk).1; injection e with e; omega)
theorem RingsR.nil (lo : Nat) (w : World) : RingsR lo w (.slice none 0 0) [] :=
  ⟨⟨rfl, .inl ⟨rfl, rfl⟩⟩, fun _ h => (by cases h), fun _ h => (by cases h), fun i j u u' _ h => (by simp at h), by simp⟩
theorem RingsR.shape {lo : Nat} {w : World} {v : Value} {vs : List Value} (h : RingsR lo w v vs) : ∃ a c, v = .slice a vs.length c ∧ vs.length ≤ c ∧ c ≤ maxLen := by
  rcases h.own.2 with ⟨hv, h0⟩ | ⟨q, cap, cur, hv, _, _, hf, hm, _⟩
  · exact ⟨none, 0, by rw [hv, h0], by omega, by simp [maxLen]⟩
  · exact ⟨_, cap, hv, hf, hm⟩
/-- The shape that is seen there. -/
theorem RingsR.sees {lo : Nat} {w : World} {a : Option Addr} {c : Nat} {vs : List Value} (h : RingsR lo w (.slice a vs.length c) vs) : ∃ rs : List (List (Int × Int)), rs.length = vs.length ∧ SeesS w a c rs ∧ (∀ i, i < rs.length → (rowA rs i).length ≤ 200) := by
  have pick : ∃ f : Value → List (Int × Int), ∀ u ∈ vs, RowPt lo w u (f u) ∧ (f u).length ≤ 200 := by
    refine ⟨fun u => Classical.choose (p := fun ps => u ∈ vs → RowPt lo w u ps ∧ ps.length ≤ 200) ?_, fun u hu => ?_⟩
    · by_cases hu : u ∈ vs
      · obtain ⟨ps, R, l⟩ := h.rows u hu
        exact ⟨ps, fun _ => ⟨R, l⟩⟩
      · exact ⟨[], fun q => absurd q hu⟩
    · exact Classical.choose_spec (p := fun ps => u ∈ vs → RowPt lo w u ps ∧ ps.length ≤ 200) _ hu
  obtain ⟨f, hf⟩ := pick
  have at' : ∀ i (hi : i < vs.length), rowA (vs.map f) i = f vs[i] := fun i hi => by
    unfold rowA
    rw [List.getElem?_map, List.getElem?_eq_getElem hi]
    rfl
  refine ⟨vs.map f, List.length_map .., ?_, fun i hi => ?_⟩
  · have sh := h.own.2
    rcases sh with ⟨hv, h0⟩ | ⟨q, cap, cur, hv, hb, hh, hfit, hmax, hs, ht⟩
    · injection hv with h1 h2 h3
      subst h1 h3
      have : vs = [] := List.eq_nil_of_length_eq_zero h0
      subst this
      exact ⟨by simp, by simp [maxLen], fun hn => absurd rfl hn⟩
    · injection hv with h1 h2 h3
      subst h1 h3
      refine ⟨by rw [List.length_map]; exact hfit, hmax, fun _ => ⟨q, 0, rfl, fun i hi => ?_⟩⟩
      rw [List.length_map] at hi
      rw [at' i hi]
      obtain ⟨R, l⟩ := hf vs[i] (List.getElem_mem hi)
      generalize f vs[i] = qs at *
      obtain ⟨a', c', e, _, _⟩ := R.shape
      refine ⟨a', c', ?_, ?_⟩
      · rw [Nat.zero_add, World.ownsRow.cellAt h.own i (by omega), List.getElem?_eq_getElem hi, e]
      · rw [e] at R
        exact R.seesP
  · rw [List.length_map] at hi
    rw [at' i hi]
    exact (hf vs[i] (List.getElem_mem hi)).2
end Go.Proofs.Ytcnmglghmianoaa
