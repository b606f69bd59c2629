/- Bytes that are drawn. -/
import Derived.Test.YtfdfcgjdigpofaaDoorDkC
namespace Go.Proofs.YtfdfcgjdigpofaaDoor
open Go.RowKit

theorem Cur.keptR {w w' : World} {p n cap : Nat} {a : Option Addr} {row : Option Nat} (h : Cur w p a n cap) (g : w.grownBy w' row) (hp : row ≠ some p) (hb : ∀ b off, a = some ⟨b, off, none⟩ → 0 < n → row ≠ some b) : Cur w' p a n cap := by
  have hl := h.lt
  obtain ⟨c0, ⟨i, hi, c1⟩, ⟨h0, c2⟩, fr, byt, ap, mo⟩ := h
  have hbk := g.block p hl (fun e => hp e.symm)
  have e : ∀ j, w'.cell? ⟨p, j, none⟩ = w.cell? ⟨p, j, none⟩ := fun j => World.cell?_of_block (a := ⟨p, j, none⟩) hbk
  refine ⟨(e 0).trans c0, ⟨i, hi, (e 1).trans c1⟩, ⟨h0, (e 2).trans c2⟩, fun j => (World.frozen?_of_block (a := ⟨p, j, none⟩) hbk).trans (fr j), ?_, ap, mo⟩
  intro j hj
  obtain ⟨b, off, ea, y, y0, y1, hc⟩ := byt j hj
  exact ⟨b, off, ea, y, y0, y1, (World.cell?_of_block (a := ⟨b, off + j, none⟩) (g.block b (World.block_lt_of_cell? _ _ hc) (fun e => hb b off ea (by omega) e.symm))).trans hc⟩
/-- The bytes of the input lie below. -/
theorem Cur.lows {w : World} {p n cap : Nat} {a : Option Addr} (h : Cur w p a n cap) : ∀ b off, a = some ⟨b, off, none⟩ → 0 < n → b < w.heap.size := fun b off e hn => by
  obtain ⟨b', off', e', y, _, _, hc⟩ := h.byt 0 hn
  rw [e] at e'
  have hlt : b' < w.heap.size := World.block_lt_of_cell? _ _ hc
  simp at e'
  omega
/-- What a cursor has written, and new blocks. -/
theorem grown_low {w w1 w2 : World} {p : Nat} {r : Option Nat} (g : w.grownBy w1 (some p)) (k : w1.grownBy w2 r) (hr : ∀ q, r = some q → w.heap.size ≤ q) : w.grownBy w2 (some p) :=
  ⟨k.os.trans g.os, k.tape.trans g.tape, k.output.trans g.output, Nat.le_trans g.size k.size, fun i hi hne => (k.block i (Nat.lt_of_lt_of_le hi g.size) (fun e => by have := hr i e.symm; omega)).trans (g.block i hi hne)⟩

set_option maxRecDepth 20000 in
set_option maxHeartbeats 2000000 in
theorem l1Bytes_any (p : Nat) (a : Option Addr) (n cap k : Nat) (w : World) (h : Cur w p a n cap) (hk : k ≤ 100000) :
    Calls Tryd.prog 14 #[.pointer (some ⟨p, 0, none⟩), .int .i64 (k : Int)] w fun e w' => ∃ g c bs, e = .returned (.slice (some ⟨g, 0, none⟩) k c) ∧ bs.length = k ∧ (∀ x ∈ bs, 0 ≤ x ∧ x < 256) ∧ RowB w.heap.size w' (.slice (some ⟨g, 0, none⟩) k c) bs ∧ Cur w' p a n cap ∧ w.grownBy w' (some p) := by
  obtain ⟨i8, hi8, hy0, hy1, hy2⟩ := info_parts infoB
  have hpl := h.lt
  have HLO : Hid (∀ b off, a = some ⟨b, off, none⟩ → 0 < n → b < w.heap.size) := h.lows
  have R0 := RowB.empty w (base := w.heap.size) (Nat.le_refl _)
  have bn := below1 w (.cells #[] 5)
  have C0 := h.below bn
  have G0 : w.grownBy (w.alloc (.cells #[] 5)) (some p) := ⟨bn.os, bn.tape, bn.output, bn.size, fun i hi _ => bn.block i hi⟩
  clear h bn
  go_enter Tryd.func14, Tryd.ntmps14
  go_wp2
  generalize w.alloc (.cells #[] 5) = W0 at *
  go_loopw [5, 6] (fun s5 s6 wr => ∃ (j g c : Nat) (bs : List Int), j ≤ k ∧ s6 = .int .i64 j ∧ s5 = .slice (some ⟨g, 0, none⟩) j c ∧ Hid (bs.length = j) ∧ Hid (∀ x ∈ bs, 0 ≤ x ∧ x < 256) ∧ Hid (RowB w.heap.size wr (.slice (some ⟨g, 0, none⟩) bs.length c) bs) ∧ Hid (Cur wr p a n cap) ∧ Hid (w.grownBy wr (some p))) (fun _ s6 _ => k - (intOf s6).toNat)
  case atStart => exact ⟨0, w.heap.size, 0, [], Nat.zero_le _, rfl, rfl, rfl, (fun x hx => by cases hx), R0, C0, G0⟩
  case round =>
    clear R0 C0 G0
    obtain ⟨j, g, c, bs, hj, rfl, rfl, hl, h8, RR, CC, GG⟩ := hrel
    rename World => wr
    by_cases hlt : j < k
    · go_wp2_with fail
      refine (l1Byte_any p a n cap _ CC.out).mono ?_
      rintro e w5 ⟨x, rfl, x0, x1, C2, g2⟩
      have R2 : RowB w.heap.size w5 (.slice (some ⟨g, 0, none⟩) bs.length c) bs := owns_kept' RR.out g2 (fun q hq e => by have := (World.ownsRow.lt RR.out q hq).1; injection e with e; omega)
      have G2 := grownBy_trans GG.out g2
      have hb := below1 w5 (.cells #[.int .u8 x] 5)
      have NW := one_new8 w5 5 x
      replace R2 := R2.below hb
      have C3 := C2.below hb
      have G3 := grown_alloc G2 (.cells #[.int .u8 x] 5)
      have z3 := G3.size
      have hwx : IntKind.u8.wrap x = x := by simp [IntKind.wrap, IntKind.signed, IntKind.bits]; omega
      have H8 : Hid (∀ y ∈ bs ++ [x], 0 ≤ y ∧ y < 256) := fun y hy => by
        rcases List.mem_append.1 hy with hy | hy
        · exact h8.out y hy
        · simp at hy; subst hy; exact ⟨x0, x1⟩
      clear RR CC GG g2 hb C2 G2 h8
      go_wp2_with (at_builtin; refine wpList_append_own_at _ rfl (.tmp 13) (.tmp 17) 22 rfl w.heap.size 5 i8 (.int .u8 0) 1 1 Tryd.underlying22 hi8 hy0 hy1 hy2 rfl (by decide) (.slice (some ⟨g, 0, none⟩) j c) bs.length (bs.map (Value.int .u8)) rfl (by rw [← hl.out]; exact R2) ⟨w5.heap.size, 0, none⟩ 1 _ ([x].map (Value.int .u8)) rfl rfl NW (ones8 _) (by unfold maxLen; have := hl.out; omega) (by have := hl.out; omega) z3 ?_; intro v7 w7 R7 G7 nil7 A7; clear nil7)
      have R8 : RowB w.heap.size w7 v7 (bs ++ [x]) := RowB.app R7
      have gl := (World.ownsRow.lt R2 g rfl).1
      obtain ⟨g7, hg7⟩ : ∃ g, v7.ownBlock = some g := A7.elim (fun e => ⟨_, e⟩) (fun e => ⟨_, e⟩)
      obtain ⟨c7, rfl⟩ := RowB.someOf R8 hg7
      have G7' : (w5.alloc (.cells #[.int .u8 x] 5)).grownBy w7 (some g) := G7
      have C8 := C3.keptR G7' (fun e => by injection e with e; omega) (fun b off e hn e2 => by have := HLO.out b off e hn; injection e2 with e2; omega)
      have G8 := grown_low G3 G7' (fun q e => by injection e with e; omega)
      have LL : Hid ((bs ++ [x]).length = j + 1) := by show _ = _; rw [List.length_append, List.length_singleton, hl.out]
      go_roundw
      case rel => exact ⟨j + 1, g7, c7, bs ++ [x], by omega, by go_num, by rw [LL.out], LL, H8, R8, C8, G8⟩
      case measure => simp [intOf]; omega
    · obtain rfl : j = k := by omega
      go_wp2
      go_ret
      exact ⟨g, c, bs, rfl, hl.out, h8.out, (by have := RR.out; rw [hl.out] at this; exact this), CC.out, GG.out⟩
end Go.Proofs.YtfdfcgjdigpofaaDoor
