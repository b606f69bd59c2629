/- A new cursor; what stays of a cursor and of variables beside it. -/
import Derived.Test.YtbdpnfdpnaoicaaCur
import Derived.Test.YtbdpnfdpnaoicaaBase
namespace Go.Proofs.Ytbdpnfdpnaoicaa
open Go.RowKit

theorem Byt.below {w w' : World} {a : Option Addr} {n : Nat} (h : Byt w a n) (hb : Below w.heap.size w w') : Byt w' a n := by
  intro j hj
  obtain ⟨b, off, e, y, y0, y1, hc⟩ := h j hj
  exact ⟨b, off, e, y, y0, y1, bat hb hc⟩
theorem Byt.apart {w : World} {a : Option Addr} {n : Nat} (h : Byt w a n) : ∀ b off, a = some ⟨b, off, none⟩ → 0 < n → b ≠ w.heap.size := by
  intro b off ea hn
  obtain ⟨b', off', ea', y, _, _, hc⟩ := h 0 hn
  have hl : b' < w.heap.size := World.block_lt_of_cell? _ _ hc
  rw [ea] at ea'
  simp only [Option.some.injEq, Addr.mk.injEq] at ea'
  omega
theorem Cur.lt {w : World} {p n cap : Nat} {a : Option Addr} (h : Cur w p a n cap) : p < w.heap.size := World.block_lt_of_cell? _ _ h.c0
theorem Cur.below {w w' : World} {p n cap : Nat} {a : Option Addr} (h : Cur w p a n cap) (hb : Below w.heap.size w w') : Cur w' p a n cap := by
  have hl : p < w.heap.size := h.lt
  obtain ⟨c0, ⟨i, hi, c1⟩, ⟨h0, c2⟩, fr, byt, ap, mo⟩ := h
  exact ⟨bat hb c0, ⟨i, hi, bat hb c1⟩, ⟨h0, bat hb c2⟩, fun o => (hb.frozen (p := ⟨p, o, none⟩) hl).trans (fr o), byt.below hb, ap, mo⟩
theorem grown_alloc {w w1 : World} {row : Option Nat} (h : w.grownBy w1 row) (o : Obj) : w.grownBy (w1.alloc o) row := grownBy_trans h (World.grownBy_alloc _ _ _)
theorem grown_new {w w1 : World} {row : Option Nat} (h : w.grownBy w1 row) {q : Nat} (hq : w.heap.size ≤ q) (o : Nat) (u : Value) : w.grownBy (w1.setCell ⟨q, o, none⟩ u) row :=
  ⟨h.os, h.tape, h.output, by simpa using h.size, fun i hi hr => (Below.heap_setCell _ _ _ _ (by show i ≠ q; omega)).trans (h.block i hi hr)⟩
theorem Box2.grown {lo p q : Nat} {w w' : World} {x0 x1 : Value} (h : Box2 lo w q x0 x1) (g : w.grownBy w' (some p)) (ne : q ≠ p) : Box2 lo w' q x0 x1 := by
  have hb := g.block q h.lt (fun e => ne (by simpa using e))
  exact ⟨(World.cell?_of_block hb).trans h.c0, (World.cell?_of_block hb).trans h.c1, fun o => (World.frozen?_of_block (a := ⟨q, o, none⟩) hb).trans (h.fr o), h.lo⟩
/-- A cell elsewhere is set. -/
theorem Cur.put {w : World} {p n cap q : Nat} {a : Option Addr} (h : Cur w p a n cap) (hq : q ≠ p) (hb : ∀ b off, a = some ⟨b, off, none⟩ → 0 < n → b ≠ q) (o : Nat) (u : Value) : Cur (w.setCell ⟨q, o, none⟩ u) p a n cap := by
  obtain ⟨c0, ⟨i, hi, c1⟩, ⟨h0, c2⟩, fr, byt, ap, mo⟩ := h
  have e : ∀ j, (w.setCell ⟨q, o, none⟩ u).cell? ⟨p, j, none⟩ = w.cell? ⟨p, j, none⟩ := fun j => cell_other (.inl hq) u
  refine ⟨(e 0).trans c0, ⟨i, hi, (e 1).trans c1⟩, ⟨h0, (e 2).trans c2⟩, fun j => (World.frozen?_setCell ..).trans (fr j), ?_, ap, mo⟩
  intro j hj
  obtain ⟨b, off, ea, y, y0, y1, hc⟩ := byt j hj
  exact ⟨b, off, ea, y, y0, y1, (cell_other (.inl (Ne.symm (hb b off ea (by omega)))) u).trans hc⟩

set_option maxRecDepth 20000 in
set_option maxHeartbeats 2000000 in
theorem l1New_any (a : Option Addr) (n cap : Nat) (w : World) (hb : Byt w a n) (hm : n ≤ 1048576) :
    Calls Try.prog 11 #[.slice a n cap] w fun e w' => e = .returned (.pointer (some ⟨w.heap.size, 0, none⟩)) ∧ Cur w' w.heap.size a n cap ∧ Below w.heap.size w w' := by
  have HM : Hid (n ≤ 1048576) := hm
  have HB : Hid (Byt w a n) := hb
  have hm' : (n : Int) ≤ 9223372036854770000 := by omega
  clear hm hb
  go_enter Try.func11, Try.ntmps11
  go_wp2
  go_loop [3, 4] (fun h i => ∃ (k : Nat) (z : Int), k ≤ n ∧ i = .int .i64 k ∧ h = .int .i64 z) (fun _ i => n - (intOf i).toNat)
  case atStart => exact ⟨0, _, Nat.zero_le _, rfl, rfl⟩
  case round =>
    obtain ⟨k, z, hk, rfl, rfl⟩ := hrel
    by_cases h1 : k < n
    · by_cases h2 : k < 4000
      · obtain ⟨b, off, rfl, y, y0, y1, hc⟩ := HB.out k h1
        go_wp2
        go_round
        case rel => exact ⟨k + 1, _, by omega, by go_num, rfl⟩
        case measure => simp [intOf]; omega
      · have h2' : (4000 : Int) ≤ k := by omega
        go_wp2
        go_ret
        have hbl := below1 w (.cells #[.slice a n cap, .int .i64 0, .int .i64 z] 47)
        exact ⟨rfl, ⟨cell_new _ _ _ 0 rfl, ⟨0, by omega, cell_new _ _ _ 1 rfl⟩, ⟨z, cell_new _ _ _ 2 rfl⟩, fun o => frozen_new _ _ _ o, HB.out.below hbl, HB.out.apart, HM.out⟩, hbl⟩
    · go_wp2
      go_ret
      have hbl := below1 w (.cells #[.slice a n cap, .int .i64 0, .int .i64 z] 47)
      exact ⟨rfl, ⟨cell_new _ _ _ 0 rfl, ⟨0, by omega, cell_new _ _ _ 1 rfl⟩, ⟨z, cell_new _ _ _ 2 rfl⟩, fun o => frozen_new _ _ _ o, HB.out.below hbl, HB.out.apart, HM.out⟩, hbl⟩
end Go.Proofs.Ytbdpnfdpnaoicaa
