/- Boxes of a code: spec.DrawCurveSort. -/
import Derived.Test.YtbnoddemohhpgaaCurX
import Derived.Test.YtbnoddemohhpgaaCurSz
import Derived.Test.YtbnoddemohhpgaaBxsL
import Derived.Test.YtbnoddemohhpgaaOwns
namespace Go.Proofs.Ytbnoddemohhpgaa
open Go.RowKit

def boxC (bs : List Bx) : List Value := bs.flatMap fun b => [.int .i64 b.1, .int .i64 b.2.1, .int .i64 b.2.2.1, .int .i64 b.2.2.2]
theorem boxC_append (ps qs : List Bx) : boxC (ps ++ qs) = boxC ps ++ boxC qs := by simp [boxC]
theorem boxC_at : ∀ (bs : List Bx) (j : Nat), j < bs.length → (boxC bs)[j * 4]? = some (.int .i64 (bxAt bs j).1) ∧ (boxC bs)[j * 4 + 1]? = some (.int .i64 (bxAt bs j).2.1) ∧ (boxC bs)[j * 4 + 2]? = some (.int .i64 (bxAt bs j).2.2.1) ∧ (boxC bs)[j * 4 + 3]? = some (.int .i64 (bxAt bs j).2.2.2)
  | [], j, h => absurd h (by simp)
  | p :: r, 0, _ => ⟨rfl, rfl, rfl, rfl⟩
  | p :: r, j + 1, h => by
    have ih := boxC_at r j (by simpa using h)
    have e : boxC (p :: r) = [.int .i64 p.1, .int .i64 p.2.1, .int .i64 p.2.2.1, .int .i64 p.2.2.2] ++ boxC r := rfl
    have eb : bxAt (p :: r) (j + 1) = bxAt r j := rfl
    rw [e, eb, show (j + 1) * 4 = 4 + j * 4 by omega, show 4 + j * 4 + 1 = 4 + (j * 4 + 1) by omega, show 4 + j * 4 + 2 = 4 + (j * 4 + 2) by omega, show 4 + j * 4 + 3 = 4 + (j * 4 + 3) by omega, List.getElem?_append_right (by simp), List.getElem?_append_right (by simp), List.getElem?_append_right (by simp), List.getElem?_append_right (by simp)]
    simpa using ih
theorem boxC_ones (bs : List Bx) : ∀ u ∈ boxC bs, u.oneCell' = true := by
  intro u hu
  simp only [boxC, List.mem_flatMap] at hu
  obtain ⟨p, _, h⟩ := hu
  simp only [List.mem_cons, List.not_mem_nil, or_false] at h
  rcases h with rfl | rfl | rfl | rfl <;> rfl
/-- Boxes in a row of their own. -/
def RowBx (base : Nat) (w : World) (v : Value) (bs : List Bx) : Prop := w.ownsRow base 33 4 v bs.length (boxC bs)
theorem RowBx.empty (w : World) {base : Nat} (h : base ≤ w.heap.size) : RowBx base (w.alloc (.cells #[] 33)) (.slice (some ⟨w.heap.size, 0, none⟩) 0 0) [] :=
  ⟨rfl, .inr ⟨w.heap.size, 0, #[], rfl, h, heap_alloc_new _ _, Nat.le_refl _, by simp [maxLen], rfl, rfl⟩⟩
theorem RowBx.snoc {base : Nat} {w : World} {v : Value} {bs : List Bx} {x : Bx} (h : w.ownsRow base 33 4 v (bs.length + 1) (boxC bs ++ boxC [x])) : RowBx base w v (bs ++ [x]) := by
  unfold RowBx
  rw [boxC_append, List.length_append]
  exact h
theorem RowBx.sees {base : Nat} {w : World} {v : Value} {bs : List Bx} (h : RowBx base w v bs) : ∃ a cap, v = .slice a bs.length cap ∧ SeesX w a cap bs := by
  rcases h.2 with ⟨hv, h0⟩ | ⟨q, cap', cur, hv, hb, hh, hf, hm, hs, ht⟩
  · exact ⟨none, 0, by rw [hv, h0], ⟨by omega, by simp [maxLen], fun hn => absurd (List.eq_nil_of_length_eq_zero h0) hn⟩⟩
  · refine ⟨_, cap', hv, hf, hm, fun _ => ⟨q, 0, rfl, fun i hi => ?_⟩⟩
    have c : ∀ k u, (boxC bs)[k]? = some u → w.cell? ⟨q, 0 + k, none⟩ = some u := by
      intro k u hk
      rw [← ht] at hk
      have hk2 : k < bs.length * 4 := by
        have := (List.getElem?_eq_some_iff.mp hk).1
        rw [List.length_take] at this
        omega
      rw [List.getElem?_take_of_lt hk2] at hk
      rw [Nat.zero_add]
      exact (cell_of_row w q k _ _ _ hh).trans (by simpa using hk)
    obtain ⟨c1, c2, c3, c4⟩ := boxC_at bs i hi
    exact ⟨c _ _ c1, by have := c _ _ c2; rwa [← Nat.add_assoc] at this, by have := c _ _ c3; rwa [← Nat.add_assoc] at this, by have := c _ _ c4; rwa [← Nat.add_assoc] at this⟩
theorem box_new (w : World) (e : TypeId) (x y u v : Int) : ∀ j z, (boxC [(x, y, u, v)])[j]? = some z → (w.alloc (.cells #[.int .i64 x, .int .i64 y, .int .i64 u, .int .i64 v] e)).cell? ((⟨w.heap.size, 0, none⟩ : Addr).add j) = some z := by
  intro j z hz
  rcases j with _ | _ | _ | _ | j
  · simp [boxC] at hz; subst hz; exact cell_new w #[.int .i64 x, .int .i64 y, .int .i64 u, .int .i64 v] e 0 rfl
  · simp [boxC] at hz; subst hz; exact cell_new w #[.int .i64 x, .int .i64 y, .int .i64 u, .int .i64 v] e 1 rfl
  · simp [boxC] at hz; subst hz; exact cell_new w #[.int .i64 x, .int .i64 y, .int .i64 u, .int .i64 v] e 2 rfl
  · simp [boxC] at hz; subst hz; exact cell_new w #[.int .i64 x, .int .i64 y, .int .i64 u, .int .i64 v] e 3 rfl
  · simp [boxC] at hz
theorem Cur.keptO {w w' : World} {p n cap : Nat} {a : Option Addr} {row : Option Nat} (h : Cur w p a n cap) (g : w.grownBy w' row) (hp : row ≠ some p) (hb : ∀ b off, a = some ⟨b, off, none⟩ → 0 < n → row ≠ some b) : Cur w' p a n cap := by
  have hl := h.lt
  obtain ⟨c0, ⟨i, hi, c1⟩, ⟨h0, c2⟩, fr, byt, ap, mo⟩ := h
  have hbk := g.block p hl (fun e => hp e.symm)
  have e : ∀ j, w'.cell? ⟨p, j, none⟩ = w.cell? ⟨p, j, none⟩ := fun j => World.cell?_of_block (a := ⟨p, j, none⟩) hbk
  refine ⟨(e 0).trans c0, ⟨i, hi, (e 1).trans c1⟩, ⟨h0, (e 2).trans c2⟩, fun j => (World.frozen?_of_block (a := ⟨p, j, none⟩) hbk).trans (fr j), ?_, ap, mo⟩
  intro j hj
  obtain ⟨b, off, ea, y, y0, y1, hc⟩ := byt j hj
  exact ⟨b, off, ea, y, y0, y1, (World.cell?_of_block (a := ⟨b, off + j, none⟩) (g.block b (World.block_lt_of_cell? _ _ hc) (fun e => hb b off ea (by omega) e.symm))).trans hc⟩
theorem RowBx.kept {base : Nat} {w w' : World} {v : Value} {bs : List Bx} {row : Option Nat} (h : RowBx base w v bs) (g : w.grownBy w' row) (ne : ∀ k, row = some k → k < base) : RowBx base w' v bs := by
  refine World.ownsRow.kept h g ?_
  cases q : v.ownBlock with
  | none => exact .inl rfl
  | some k => exact .inr (fun e => by have := ne k e.symm; have := (World.ownsRow.lt h k q).1; omega)

set_option maxRecDepth 20000 in
set_option maxHeartbeats 4000000 in
theorem drawCurveSort_any (a : Option Addr) (n cap : Nat) (w : World) (hB : Byt w a n) (hm : n ≤ 1048576) :
    Calls Try.prog 5 #[.slice a n cap] w fun e w' => ∃ v, e = .returned v ∧ ((∃ a' c' bs, v = .slice a' (List.length bs) c' ∧ bs.length ≤ 20 ∧ SeesX w' a' c' bs) ∨ (∃ a' c', v = .slice a' 501 c')) ∧ Below w.heap.size w w' := by
  have HM : Hid (n ≤ 1048576) := hm
  have HB : Hid (∀ b off, a = some ⟨b, off, none⟩ → 0 < n → b < w.heap.size) := fun b off e hn => by
    obtain ⟨b', off', e', y, _, _, hc⟩ := hB 0 hn
    rw [e] at e'
    have hlt : b' < w.heap.size := World.block_lt_of_cell? _ _ hc
    simp at e'
    omega
  obtain ⟨iX, hiX, hx0, hx1, hx2⟩ := info_parts infoX
  go_enter Try.func5, Try.ntmps5
  go_wp2_with fail
  refine (l1New_any a n cap _ hB hm).mono ?_
  rintro e w1 ⟨rfl, C, B⟩
  clear hB hm
  have p1 := C.lt
  have R0 := RowBx.empty w1 (base := w.heap.size + 1) p1
  have hb := below1 w1 (.cells #[] 33)
  replace C := C.below hb
  replace B := B.trans (hb.mono B.size)
  clear hb
  go_wp2_with fail
  generalize hz : w1.heap.size = z1 at *
  generalize w1.alloc (.cells #[] 33) = W1 at *
  refine (l1Size_any a n cap _ HM.out).mono ?_
  rintro e w2 ⟨s, rfl, s0, s1, rfl⟩
  go_wp2_with fail
  refine (l1Below_any w.heap.size a n cap s _ C).mono ?_
  rintro e w3 ⟨x, rfl, x0, x1, C3, g3⟩
  have x2 := x1 s0
  replace B := B.grown g3 B.size (fun k e => by injection e with e; omega)
  replace R0 := R0.kept g3 (fun k e => by injection e with e; omega)
  obtain ⟨k, hk⟩ : ∃ k : Nat, x = (k : Int) := ⟨x.toNat, by omega⟩
  subst hk
  have k20 : k ≤ 20 := by omega
  clear C g3 x1 s0 s1 x0 x2
  go_wp2
  go_loopw [4, 5] (fun s4 s5 wr => ∃ (j : Nat) (bs : List Bx), s5 = .int .i64 j ∧ j ≤ 20 ∧ Hid (bs.length + j ≤ 20) ∧ Hid (RowBx (w.heap.size + 1) wr s4 bs) ∧ Hid (Cur wr w.heap.size a n cap) ∧ Hid (Below w.heap.size w wr)) (fun _ s5 _ => (intOf s5).toNat)
  case atStart => exact ⟨k, [], rfl, k20, (by show _ ≤ _; simp; exact k20), R0, C3, B⟩
  case round =>
    clear R0 C3 B
    obtain ⟨j, bs, rfl, hj, hl, RR, CC, BB⟩ := hrel
    rename World => wr
    by_cases hj0 : 0 < j
    · go_wp2_with fail
      refine (l4Draw_any w.heap.size a n cap _ CC.out).mono ?_
      rintro e w5 ⟨y1, y2, y3, y4, rfl, C2, g2⟩
      have R2 := RR.out.kept g2 (fun k e => by injection e with e; omega)
      have B2 := BB.out.grown g2 BB.out.size (fun k e => by injection e with e; omega)
      have hb := below1 w5 (.cells #[.int .i64 y1, .int .i64 y2, .int .i64 y3, .int .i64 y4] 33)
      have NW := box_new w5 33 y1 y2 y3 y4
      replace R2 : RowBx (w.heap.size + 1) _ _ bs := owns_below R2 hb
      have C3 := C2.below hb
      have B3 := B2.trans (hb.mono B2.size)
      have hl' : bs.length + j ≤ 20 := hl.out
      have z3 := C3.lt
      clear RR CC BB g2 hb C2 B2
      go_wp2_with (at_builtin; refine wpList_append_own_at _ rfl (.tmp 17) (.tmp 20) 24 rfl (w.heap.size + 1) 33 iX (.agg #[.int .i64 0, .int .i64 0, .int .i64 0, .int .i64 0]) 4 32 Try.underlying24 hiX hx0 hx1 hx2 rfl (by decide) u4 bs.length (boxC bs) rfl R2 ⟨w5.heap.size, 0, none⟩ 1 _ (boxC [(y1, y2, y3, y4)]) rfl rfl NW (boxC_ones _) (by unfold maxLen; omega) (by omega) z3 ?_; intro v7 w7 R8 G7 nil7 _; replace R8 := RowBx.snoc R8; clear nil7)
      have C8 := C3.keptO G7 (fun e => by have := (World.ownsRow.lt R2 _ e).1; omega) (fun b off e hn e2 => by have := (World.ownsRow.lt R2 _ e2).1; have := HB.out b off e hn; omega)
      have B8 := B3.grown G7 B3.size (fun k e => by have := (World.ownsRow.lt R2 _ e).1; omega)
      go_roundw
      case rel => exact ⟨j - 1, _, by go_num, by omega, (by show _ ≤ _; rw [List.length_append, List.length_singleton]; omega), R8, C8, B8⟩
      case measure => simp [intOf]; omega
    · obtain rfl : j = 0 := by omega
      have hl' : bs.length ≤ 20 := hl.out
      go_wp2_with fail
      refine (l1Once_any w.heap.size a n cap 60 _ CC.out).mono ?_
      rintro e w5 ⟨o, rfl, C2, g2⟩
      have R2 := RR.out.kept g2 (fun k e => by injection e with e; omega)
      have B2 := BB.out.grown g2 BB.out.size (fun k e => by injection e with e; omega)
      clear RR CC BB g2 C2
      cases o
      · obtain ⟨a', c', rfl, SX⟩ := R2.sees
        go_wp2
        go_ret
        exact ⟨_, rfl, .inl ⟨a', c', bs, rfl, hl', SX⟩, B2⟩
      · go_wp2_with (at_make; refine wpList_make_full _ rfl _ _ 24 rfl w5.heap.size 33 iX (.agg #[.int .i64 0, .int .i64 0, .int .i64 0, .int .i64 0]) 4 Try.underlying24 hiX hx0 hx1 .i64 .i64 _ _ 501 rfl rfl rfl rfl ?b2 ?b3 (Nat.le_refl _) ?_)
        case b2 => rw [hx2]; omega
        case b3 => unfold maxLen; omega
        intro w6 hown0 hgrow0
        have B6 := B2.grown hgrow0 B2.size (fun k h => by cases h)
        clear hown0 hgrow0
        go_wp2
        go_ret
        exact ⟨_, rfl, .inr ⟨_, _, rfl⟩, B6⟩
end Go.Proofs.Ytbnoddemohhpgaa
