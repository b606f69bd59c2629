/- A number that is drawn: l1Draw. -/
import Derived.Test.YtccdihglpobnmaaDoorCur
import Derived.Test.YtccdihglpobnmaaDoorSNumR
import Derived.Test.YtccdihglpobnmaaDoorSText
import Derived.BigRegion
namespace Go.Proofs.YtccdihglpobnmaaDoor
open Go.RowKit

theorem owns_grown {w w' : World} {base e n p : Nat} {v : Value} {xs : List Value} (h : w.ownsRow base e 1 v n xs) (g : w.grownBy w' (some p)) (hp : p < base) : w'.ownsRow base e 1 v n xs := by
  refine h.kept g ?_
  cases q : v.ownBlock with
  | none => exact .inl rfl
  | some k =>
    have := (h.lt k q).1
    exact .inr (by intro z; injection z with z; omega)
theorem Own.grown {base p : Nat} {w w' : World} {a : Option Addr} {c : Nat} {xs : List Int} (h : Own base w a c xs) (g : w.grownBy w' (some p)) (hp : p < base) : Own base w' a c xs :=
  h.kept g (fun b off ha hn e => by have := (h.new b off ha hn).1; injection e with e; omega)
theorem grown_up {w w1 w2 : World} {p : Nat} (h : w.grownBy w1 (some p)) (g : w1.grownBy w2 (some p)) : w.grownBy w2 (some p) := grownBy_trans h g
/-- A row of the call's own was written. -/
theorem grown_own {w w1 w2 : World} {p : Nat} {row : Option Nat} (h : w.grownBy w1 (some p)) (g : w1.grownBy w2 row) (hr : ∀ k, row = some k → w.heap.size ≤ k) : w.grownBy w2 (some p) :=
  ⟨g.os.trans h.os, g.tape.trans h.tape, g.output.trans h.output, Nat.le_trans h.size g.size, fun i hi hn => (g.block i (Nat.lt_of_lt_of_le hi h.size) (fun e => by have := hr i e.symm; omega)).trans (h.block i hi hn)⟩
theorem grown_below {w w1 w2 : World} {p : Nat} (h : w.grownBy w1 (some p)) (b : Below w1.heap.size w1 w2) : w.grownBy w2 (some p) := grown_own h (grown_of_below b) (fun k hk => by cases hk)
theorem Cur.keptRow {w w' : World} {p n cap lo : Nat} {a : Option Addr} {row : Option Nat} (h : Cur w p a n cap) (g : w.grownBy w' row) (hr : ∀ k, row = some k → lo ≤ k) (hp : p < lo) (ha : ∀ q, lo ≤ q → ∀ b off, a = some ⟨b, off, none⟩ → 0 < n → b ≠ q) : Cur w' p a n cap := by
  have hl : p < w.heap.size := h.lt
  obtain ⟨c0, ⟨i, hi, c1⟩, ⟨h0, c2⟩, fr, byt, ap, mo⟩ := h
  have hb : w'.heap[p]? = w.heap[p]? := g.block p hl (fun e => by have := hr p e.symm; omega)
  have e : ∀ j, w'.cell? ⟨p, j, none⟩ = w.cell? ⟨p, j, none⟩ := fun j => World.cell?_of_block (a := ⟨p, j, none⟩) hb
  refine ⟨(e 0).trans c0, ⟨i, hi, (e 1).trans c1⟩, ⟨h0, (e 2).trans c2⟩, fun o => (World.frozen?_of_block (a := ⟨p, o, none⟩) hb).trans (fr o), ?_, ap, mo⟩
  intro j hj
  obtain ⟨b, off, ea, y, y0, y1, hc⟩ := byt j hj
  refine ⟨b, off, ea, y, y0, y1, (World.cell?_of_block (a := ⟨b, off + j, none⟩) (g.block b (World.block_lt_of_cell? _ _ hc) (fun q => ?_))).trans hc⟩
  exact ha b (hr b q.symm) b off ea (by omega) rfl
theorem Box2.keptRow {lo q : Nat} {w w' : World} {x0 x1 : Value} {row : Option Nat} (h : Box2 lo w q x0 x1) (g : w.grownBy w' row) (ne : row ≠ some q) : Box2 lo w' q x0 x1 := by
  have hb := g.block q h.lt (fun e => ne e.symm)
  exact ⟨(World.cell?_of_block hb).trans h.c0, (World.cell?_of_block hb).trans h.c1, fun o => (World.frozen?_of_block (a := ⟨q, o, none⟩) hb).trans (h.fr o), h.lo⟩

/-- What the draw of a number keeps through its steps: the cursor, the result's variable, a row. -/
structure DrAt (w wr : World) (p : Nat) (a : Option Addr) (n cap : Nat) : Prop where
  cur : Cur wr p a n cap
  res : Box2 w.heap.size wr w.heap.size (.bool false) (.slice none 0 0)
  gr : w.grownBy wr (some p)
theorem DrAt.step {w wr w' : World} {p n cap : Nat} {a : Option Addr} (h : DrAt w wr p a n cap) (hp : p < w.heap.size) (hc : Cur w' p a n cap) (g : wr.grownBy w' (some p)) : DrAt w w' p a n cap :=
  ⟨hc, h.res.grown g (by omega), grownBy_trans h.gr g⟩
theorem DrAt.alloc {w wr : World} {p n cap : Nat} {a : Option Addr} (h : DrAt w wr p a n cap) (o : Obj) : DrAt w (wr.alloc o) p a n cap :=
  ⟨h.cur.below (below1 _ _), h.res.below (below1 _ _), grown_alloc h.gr o⟩
theorem DrAt.below {w wr w' : World} {p n cap : Nat} {a : Option Addr} (h : DrAt w wr p a n cap) (b : Below wr.heap.size wr w') : DrAt w w' p a n cap :=
  ⟨h.cur.below b, h.res.below b, grown_below h.gr b⟩
theorem DrAt.row {w wr w' : World} {p n cap : Nat} {a : Option Addr} {row : Option Nat} (h : DrAt w wr p a n cap) (g : wr.grownBy w' row) (hr : ∀ k, row = some k → w.heap.size + 1 ≤ k) (hp : p < w.heap.size) (ha : ∀ q, w.heap.size ≤ q → ∀ b off, a = some ⟨b, off, none⟩ → 0 < n → b ≠ q) : DrAt w w' p a n cap :=
  ⟨h.cur.keptRow (lo := w.heap.size) g (fun k e => by have := hr k e; omega) hp ha, h.res.keptRow g (fun e => by have := hr _ e; omega), grown_own h.gr g (fun k e => by have := hr k e; omega)⟩
theorem Cur.farFrom {w : World} {p n cap : Nat} {a : Option Addr} (h : Cur w p a n cap) : ∀ q, w.heap.size ≤ q → ∀ b off, a = some ⟨b, off, none⟩ → 0 < n → b ≠ q := by
  intro q hq b off ea hn
  obtain ⟨b', off', ea', y, _, _, hc⟩ := h.byt 0 hn
  have hl : b' < w.heap.size := World.block_lt_of_cell? _ _ hc
  rw [ea] at ea'
  simp only [Option.some.injEq, Addr.mk.injEq] at ea'
  omega

theorem owns_base {w : World} {base base' e n : Nat} {v : Value} {xs : List Value} (h : w.ownsRow base e 1 v n xs) (hb : base' ≤ base) : w.ownsRow base' e 1 v n xs :=
  ⟨h.1, h.2.imp id (fun ⟨g, cap, cur, hv, hg, r⟩ => ⟨g, cap, cur, hv, Nat.le_trans hb hg, r⟩)⟩
/-- A number's variable, in block q. -/
def VarN (w : World) (q : Nat) (g : Bool) (v : Value) : Prop := w.heap[q]? = some (.cells #[.bool g, v] 26 (0, 0))
theorem VarN.new (w : World) (g : Bool) (v : Value) : VarN (w.alloc (.cells #[.bool g, v] 26)) w.heap.size g v := heap_alloc_new _ _
theorem VarN.c0 {w : World} {q : Nat} {g : Bool} {v : Value} (h : VarN w q g v) : w.cell? ⟨q, 0, none⟩ = some (.bool g) := cell_of_row w q 0 _ _ _ h
theorem VarN.c1 {w : World} {q : Nat} {g : Bool} {v : Value} (h : VarN w q g v) : w.cell? ⟨q, 1, none⟩ = some v := cell_of_row w q 1 _ _ _ h
theorem VarN.fr {w : World} {q : Nat} {g : Bool} {v : Value} (h : VarN w q g v) (o : Nat) : w.frozen? ⟨q, o, none⟩ = false := frozen_of_row w q o _ _ h
theorem VarN.lt {w : World} {q : Nat} {g : Bool} {v : Value} (h : VarN w q g v) : q < w.heap.size := World.block_lt_of_cell? _ _ h.c0
theorem VarN.keptRow {w w' : World} {q : Nat} {g : Bool} {v : Value} {row : Option Nat} (h : VarN w q g v) (hg : w.grownBy w' row) (ne : row ≠ some q) : VarN w' q g v := (hg.block q h.lt (fun e => ne e.symm)).trans h
theorem VarN.grown {w w' : World} {q p : Nat} {g : Bool} {v : Value} (h : VarN w q g v) (hg : w.grownBy w' (some p)) (ne : q ≠ p) : VarN w' q g v := h.keptRow hg (fun e => ne (by injection e with e; exact e.symm))
theorem VarN.alloc {w : World} {q : Nat} {g : Bool} {v : Value} (h : VarN w q g v) (o : Obj) : VarN (w.alloc o) q g v := h.keptRow (World.grownBy_alloc w o none) (by simp)
theorem VarN.put1 {w : World} {q : Nat} {g : Bool} {v : Value} (h : VarN w q g v) (u : Value) : VarN (w.setCell ⟨q, 1, none⟩ u) q g u := heap_setCell_same w q 1 _ _ u h
theorem VarN.apart {w : World} {q base n : Nat} {g : Bool} {v u : Value} {xs : List Value} (h : VarN w q g v) (o : w.ownsRow base 59 1 u n xs) : u.ownBlock ≠ some q := by
  intro e
  rcases o.2 with ⟨rfl, _⟩ | ⟨b, cap, cur, rfl, _, hh, _⟩
  · simp [Value.ownBlock] at e
  · simp only [Value.ownBlock, Option.some.injEq] at e
    subst e
    unfold VarN at h
    rw [h] at hh
    simp at hh
theorem DrAt.fin {w wr : World} {p n cap : Nat} {a : Option Addr} (h : DrAt w wr p a n cap) (hp : p < w.heap.size) (ha : ∀ q, w.heap.size ≤ q → ∀ b off, a = some ⟨b, off, none⟩ → 0 < n → b ≠ q) {a' : Option Addr} {c' : Nat} {xs : List Int} (o : Own (w.heap.size + 1) wr a' c' xs) (u0 u1 : Value) :
    Own w.heap.size ((wr.setCell ⟨w.heap.size, 0, none⟩ u0).setCell ⟨w.heap.size, 1, none⟩ u1) a' c' xs ∧ Cur ((wr.setCell ⟨w.heap.size, 0, none⟩ u0).setCell ⟨w.heap.size, 1, none⟩ u1) p a n cap ∧ w.grownBy ((wr.setCell ⟨w.heap.size, 0, none⟩ u0).setCell ⟨w.heap.size, 1, none⟩ u1) (some p) :=
  ⟨((o.setCell (p := ⟨w.heap.size, 0, none⟩) (by simp) u0).setCell (p := ⟨w.heap.size, 1, none⟩) (by simp) u1).base_le (by omega), (h.cur.put (by omega) (ha _ (Nat.le_refl _)) 0 u0).put (by omega) (ha _ (Nat.le_refl _)) 1 u1, grown_new (grown_new h.gr (Nat.le_refl _) 0 u0) (Nat.le_refl _) 1 u1⟩
/-- A number that was drawn by the cursor at p. -/
structure DrawnN (w : World) (p : Nat) (a : Option Addr) (n cap : Nat) (w' : World) (v : Value) : Prop where
  is' : ∃ g a' c' xs, v = .agg #[.bool g, .slice a' xs.length c'] ∧ Own w.heap.size w' a' c' xs ∧ xs.length ≤ 64
  cur : Cur w' p a n cap
  gr : w.grownBy w' (some p)
def lenL : List Int := [0, 1, 1, 2, 2, 3, 5, 8]
theorem len_bounds : ∀ z ∈ lenL, 0 ≤ z ∧ z ≤ 8 := by decide
theorem limb_bounds (x : Int) (h0 : 0 ≤ x) (h1 : x < 16777216) : ∀ z ∈ [0, 1, 4294967295, 2147483648, x * 251], 0 ≤ z ∧ z < 4294967296 := by
  intro z hz
  simp only [List.mem_cons, List.not_mem_nil, or_false] at hz
  omega

set_option maxRecDepth 20000 in
set_option maxHeartbeats 8000000 in
theorem l1Draw_any (p : Nat) (a : Option Addr) (n cap : Nat) (w : World) (h : Cur w p a n cap) :
    Calls Tryd.prog 58 #[.pointer (some ⟨p, 0, none⟩)] w fun e w' => ∃ v, e = .returned v ∧ DrawnN w p a n cap w' v := by
  have hp : p < w.heap.size := h.lt
  have HA : Hid (∀ q, w.heap.size ≤ q → ∀ b off, a = some ⟨b, off, none⟩ → 0 < n → b ≠ q) := h.farFrom
  obtain ⟨i0, hi, hz0, hz1, hz2⟩ := info_parts infoU
  have D0 : DrAt w (w.alloc (.cells #[.bool false, .slice none 0 0] 26)) p a n cap := ⟨h.below (below1 _ _), Box2.new w (Nat.le_refl _) _ _ _, grown_alloc (grownBy_refl _ _) _⟩
  have hz : (w.alloc (.cells #[.bool false, .slice none 0 0] 26)).heap.size = w.heap.size + 1 := by simp
  clear h
  go_enter Tryd.func58, Tryd.ntmps58
  go_wp2_with fail
  generalize w.alloc (.cells #[.bool false, .slice none 0 0] 26) = W at *
  have HL : ∀ j (hj : j < lenL.length), (W.alloc (.cells (lenL.map (Value.int .i64)).toArray 3)).cell? ⟨w.heap.size + 1, 0 + j, none⟩ = some (.int .i64 lenL[j]) := by rw [← hz]; exact fun j hj => ints_cell lenL W _ j hj
  have D1 := D0.alloc (.cells (lenL.map (Value.int .i64)).toArray 3)
  refine (l1Int_list p a n cap lenL (w.heap.size + 1) 8 _ D1.cur (by decide) (by decide) HL (by omega)).mono ?_
  rintro e w2 ⟨z, hzz, rfl, hc, g⟩
  obtain ⟨zb0, zb1⟩ := len_bounds z hzz
  have D2 := D1.step hp hc g
  have sz2 : w.heap.size + 2 ≤ w2.heap.size := by have := g.size; simp at this; omega
  clear D0 D1 HL hc g hzz hz
  obtain ⟨N, rfl⟩ : ∃ N : Nat, z = N := ⟨z.toNat, by omega⟩
  go_wp2
  have O2 : (w2.alloc (.cells #[] 59)).ownsRow (w.heap.size + 1) 59 1 (.slice (some ⟨w2.heap.size, 0, none⟩) 0 0) ([] : List Int).length (([] : List Int).map (Value.int .u32)) := ⟨rfl, .inr ⟨_, 0, #[], rfl, by omega, heap_alloc_new _ _, by simp, by simp [maxLen], rfl, rfl⟩⟩
  go_loopw [4, 5] (fun s4 s5 wr => ∃ (j : Nat) (ws : List Int) (v4 : Value), v4 = s4 ∧ j ≤ N ∧ s5 = .int .i64 j ∧ wr.ownsRow (w.heap.size + 1) 59 1 v4 ws.length (ws.map (Value.int .u32)) ∧ Hid (ws.length = j ∧ Lim ws) ∧ DrAt w wr p a n cap) (fun _ s5 _ => N - (intOf s5).toNat)
  case atStart => exact ⟨0, [], _, rfl, Nat.zero_le _, rfl, O2, ⟨rfl, Lim.nil⟩, D2.alloc _⟩
  case round =>
    obtain ⟨j, ws, v4, rfl, hj, rfl, hO, hw, hD⟩ := hrel
    clear D2 O2
    by_cases hlt : j < N
    · go_wp2_with fail
      refine (l1Below_any p a n cap 16777216 _ hD.cur).mono ?_
      rintro e w3 ⟨x, rfl, x0, x1, hc, g⟩
      have x2 := x1 (by omega)
      have D3 := hD.step hp hc g
      have O3 := owns_grown hO g (by omega)
      clear hD hO hc g x1
      go_wp2_with fail
      have HL3 : ∀ j (hj : j < [0, 1, 4294967295, 2147483648, x * 251].length), (w3.alloc (.cells ([0, 1, 4294967295, 2147483648, x * 251].map (Value.int .i64)).toArray 3)).cell? ⟨w3.heap.size, 0 + j, none⟩ = some (.int .i64 [0, 1, 4294967295, 2147483648, x * 251][j]) := fun j hj => ints_cell [0, 1, 4294967295, 2147483648, x * 251] w3 _ j hj
      have sz3 := D3.gr.size
      have D4 := D3.alloc (.cells ([0, 1, 4294967295, 2147483648, x * 251].map (Value.int .i64)).toArray 3)
      have O4 := O3.alloc (.cells ([0, 1, 4294967295, 2147483648, x * 251].map (Value.int .i64)).toArray 3)
      refine (l1Int_list p a n cap [0, 1, 4294967295, 2147483648, x * 251] w3.heap.size 5 _ D4.cur (by simp) (by simp) HL3 (by omega)).mono ?_
      rintro e w5 ⟨y, hy, rfl, hc, g⟩
      obtain ⟨y0, y1⟩ := limb_bounds x x0 x2 y hy
      have D5 := D4.step hp hc g
      have O5 := owns_grown O4 g (by omega)
      have sz5 : w.heap.size + 1 ≤ w5.heap.size := by have := g.size; simp at this; omega
      have wl : ws.length ≤ 8 := by rw [hw.out.1]; omega
      have HW : Hid ((ws ++ [y]).length = j + 1 ∧ Lim (ws ++ [y])) := ⟨by simp [hw.out.1], hw.out.2.snoc ⟨y0, y1⟩⟩
      clear D3 O3 D4 O4 HL3 hc g hy hw sz3
      go_wp2_with (at_builtin; refine wpList_append_own _ rfl (.tmp 16) (.tmp 24) 24 rfl (w.heap.size + 1) 59 i0 (.int .u32 0) 1 4 Tryd.underlying24 hi hz0 hz1 hz2 rfl (by decide) v4 ws.length (ws.map (Value.int .u32)) rfl (O5.alloc _) ⟨w5.heap.size, 0, none⟩ 1 _ ([y].map (Value.int .u32)) rfl rfl (one_new _ _ _) (ones _) (by unfold maxLen; omega) (by omega) (by simp <;> omega) ?_; intro v' w6 hown' hgrow' hiff; clear hiff; have D6 := (D5.alloc (.cells #[.int .u32 y] 59)).row hgrow' (fun k hk => (O5.lt k hk).1) hp HA.out; have O6 := ownsRow_snoc hown'; rw [show ws.length + 1 = (ws ++ [y]).length by simp] at O6; clear hown' hgrow' D5 O5)
      go_roundw
      case rel => exact ⟨j + 1, ws ++ [y], v', rfl, by omega, by go_num, O6, HW, D6⟩
      case measure => simp [intOf]; omega
    · obtain ⟨a2, c2, hv, ho2⟩ := Own.of_owns hO hw.out.2
      subst hv
      have wl : ws.length ≤ 8 := by rw [hw.out.1]; omega
      clear hO hw
      go_wp2_with fail
      refine (l1Once_any p a n cap 2 _ hD.cur).mono ?_
      rintro e w3 ⟨o, rfl, hc, g⟩
      have D3 := hD.step hp hc g
      have o3 := ho2.grown g (by omega)
      clear hD hc g ho2
      go_wp2_with fail
      refine (l1NumR o a2 c2 ws _ o3.toSees (by omega)).mono ?_
      rintro e w5 ⟨u, rfl, ⟨v, ys, rfl, O5, ly, ny, vy, sy⟩, hb⟩
      have D5 := D3.below hb
      have sz3 := D3.gr.size
      have O6 := owns_base O5 (show w.heap.size + 1 ≤ w3.heap.size + 1 by omega)
      clear D3 hb o3 O5 ny vy
      generalize (o && decide (0 < ys.length)) = g0 at *
      obtain ⟨a5, c5, rfl, o5⟩ := Own.of_owns O6 ly
      have V5 := VarN.new w5 g0 (.slice a5 ys.length c5)
      have D6 := D5.alloc (.cells #[.bool g0, .slice a5 ys.length c5] 26)
      have O7 := O6.alloc (.cells #[.bool g0, .slice a5 ys.length c5] 26)
      have sz5 : w.heap.size + 1 ≤ w5.heap.size := by have := D5.res.lt; omega
      clear D5 O6 o5
      go_wp2_with fail
      generalize w5.alloc (.cells #[.bool g0, .slice a5 ys.length c5] 26) = W5 at *
      generalize w5.heap.size = q at *
      refine (l1Below_any p a n cap 30 _ D6.cur).mono ?_
      rintro e w7 ⟨x, rfl, x0, x1, hc, g⟩
      have D7 := D6.step hp hc g
      have V7 := V5.grown g (by omega)
      have O8 := owns_grown O7 g (by omega)
      obtain ⟨a8, c8, e8, o8⟩ := Own.of_owns O8 ly
      simp only [Value.slice.injEq, true_and] at e8
      obtain ⟨rfl, rfl⟩ := e8
      have k0 := V7.c0
      have k1 := V7.c1
      have kf := V7.fr
      obtain ⟨r0, r1, rf, _⟩ := id D7.res
      have hqr : q ≠ w.heap.size := by omega
      clear D6 V5 O7 hc g x1
      by_cases h0 : x = 0
      · subst h0
        go_wp2_with (at_builtin; refine wpList_append_own _ rfl (.tmp 35) (.tmp 36) 24 rfl (w.heap.size + 1) 59 i0 (.int .u32 0) 1 4 Tryd.underlying24 hi hz0 hz1 hz2 rfl (by decide) _ ys.length (ys.map (Value.int .u32)) rfl (O8.alloc _) ⟨w7.heap.size, 0, none⟩ 1 _ ([0].map (Value.int .u32)) rfl rfl (one_new _ _ _) (ones _) (by unfold maxLen; omega) (by omega) (by have := D7.gr.size; have := D7.res.lt; simp <;> omega) ?_; intro v' w9 hown' hgrow' hiff; clear hiff; have D9 := (D7.alloc (.cells #[.int .u32 0] 59)).row hgrow' (fun k hk => (O8.lt k hk).1) hp HA.out; have V9 := (V7.alloc (.cells #[.int .u32 0] 59)).keptRow hgrow' (V7.apart O8); have O9 := ownsRow_snoc hown'; rw [show ys.length + 1 = (ys ++ [0]).length by simp] at O9; have l9 : Lim (ys ++ [0]) := ly.snoc (by decide); obtain ⟨a9, c9, hv, o9⟩ := Own.of_owns O9 l9; rw [hv] at O9 ⊢; clear hown' hgrow' D7 V7 O8 o8 hv k0 k1 kf r0 r1 rf; have k0 := V9.c0; have k1 := V9.c1; have kf := V9.fr; obtain ⟨r0, r1, rf, _⟩ := id D9.res)
        have D10 := D9.row (grownBy_setCell (grownBy_refl w9 (some q)) (p := ⟨q, 1, none⟩) rfl (.slice a9 (ys ++ [0]).length c9)) (fun k hk => by injection hk with hk; omega) hp HA.out
        have o10 : Own (w.heap.size + 1) (w9.setCell ⟨q, 1, none⟩ (.slice a9 (ys ++ [0]).length c9)) a9 c9 (ys ++ [0]) := o9.kept (grownBy_setCell (grownBy_refl w9 (some q)) (p := ⟨q, 1, none⟩) rfl _) (fun b off ha _ e => V9.apart O9 (by rw [ha]; exact e.symm))
        obtain ⟨f1, f2, f3⟩ := D10.fin hp HA.out o10 (.bool g0) (.slice a9 (ys ++ [0]).length c9)
        have es : (ys ++ [0]).length = ys.length + 1 := by simp
        rw [es] at f1 f2 f3
        exact bodyPost_ret (v := .agg #[.bool g0, .slice a9 (ys.length + 1) c9]) (by simp [results, Tryd.results58, go_sem, r0, r1]) rfl ⟨_, rfl, ⟨g0, a9, c9, ys ++ [0], by rw [es], f1, by omega⟩, f2, f3⟩
      · by_cases h1 : x = 1
        · subst h1
          go_wp2
          have D10 := (D7.row (grownBy_setCell (grownBy_refl w7 (some q)) (p := ⟨q, 0, none⟩) rfl (.bool true)) (fun k hk => by injection hk with hk; omega) hp HA.out).row (grownBy_setCell (grownBy_refl _ (some q)) (p := ⟨q, 1, none⟩) rfl (.slice none 0 0)) (fun k hk => by injection hk with hk; omega) hp HA.out
          obtain ⟨f1, f2, f3⟩ := D10.fin hp HA.out (Own.nil _ _) (.bool true) (.slice none 0 0)
          exact bodyPost_ret (v := .agg #[.bool true, .slice none 0 0]) (by simp [results, Tryd.results58, go_sem, r0, r1]) rfl ⟨_, rfl, ⟨true, none, 0, [], rfl, f1, by simp⟩, f2, f3⟩
        · by_cases h2 : x = 2
          · subst h2
            clear h0 h1 k0 k1 kf r0 r1 rf o8
            go_wp2
            go_loopg [] (64 - ys.length) (fun kk wr => ∃ (zs : List Int) (a9 : Option Addr) (c9 : Nat), wr.ownsRow (w.heap.size + 1) 59 1 (.slice a9 zs.length c9) zs.length (zs.map (Value.int .u32)) ∧ Hid (Lim zs ∧ kk = 64 - zs.length) ∧ zs.length ≤ 26 ∧ DrAt w wr p a n cap ∧ VarN wr q g0 (.slice a9 zs.length c9))
            case atStart => exact ⟨ys, a5, c5, O8, ⟨ly, rfl⟩, by omega, D7, V7⟩
            case round =>
              obtain ⟨zs, a9, c9, O9, hl, sl, D9, V9⟩ := hrel
              clear O8 D7 V7
              have k1 := V9.c1
              go_wp2_with fail
              go_region_held3 (fun w' => w'.cell? ⟨q, 1, none⟩ = some (.slice a9 zs.length c9)) (first | exact k1 | exact k2) ((go_at_call 30; refine (l1Below_any p a n cap 2 _ (D9.below (Below.refl _ _).drew).cur).mono ?_; rintro e wx ⟨y, rfl, y0, y1, hc, g⟩; have y2 := y1 (by omega); have DX := (D9.below (Below.refl _ _).drew).step hp hc g; have VX : VarN wx q g0 (.slice a9 zs.length c9) := (VarN.grown (w := wr.drew) V9 g (by omega)); have OX := owns_grown (World.ownsRow.drew O9) g (by omega); have k2 := VX.c1; clear hc g y1))
              all_goals
                clear k1 D9 V9 O9
                have k0 := VX.c0
                have kf := VX.fr
                have sX : w.heap.size + 1 ≤ wx.heap.size := by have := DX.res.lt; omega
                have hwr : IntKind.i64.wrap (24 + y) = 24 + y := by rw [IntKind.wrap_i64]; omega
                by_cases hlt : (zs.length : Int) < 24 + y
                · go_wp2_with (at_builtin; refine wpList_append_own _ rfl (.tmp 52) (.tmp 53) 24 rfl (w.heap.size + 1) 59 i0 (.int .u32 0) 1 4 Tryd.underlying24 hi hz0 hz1 hz2 rfl (by decide) _ zs.length (zs.map (Value.int .u32)) rfl (OX.alloc _) ⟨wx.heap.size, 0, none⟩ 1 _ ([7].map (Value.int .u32)) rfl rfl (one_new _ _ _) (ones _) (by unfold maxLen; omega) (by omega) (by simp <;> omega) ?_; intro v' w9 hown' hgrow' hiff; clear hiff; have D9 := (DX.alloc (.cells #[.int .u32 7] 59)).row hgrow' (fun k hk => (OX.lt k hk).1) hp HA.out; have V9 := (VX.alloc (.cells #[.int .u32 7] 59)).keptRow hgrow' (VX.apart OX); have O9 := ownsRow_snoc hown'; rw [show zs.length + 1 = (zs ++ [7]).length by simp] at O9; have l9 : Lim (zs ++ [7]) := hl.out.1.snoc (by decide); obtain ⟨a10, c10, hv, o9⟩ := Own.of_owns O9 l9; rw [hv] at O9 ⊢; clear hown' hgrow' DX VX OX o9 hv k0 k2 kf; have k0 := V9.c0; have k1 := V9.c1; have kf := V9.fr)
                  have es : (zs ++ [7]).length = zs.length + 1 := by simp
                  have D10 := D9.row (grownBy_setCell (grownBy_refl w9 (some q)) (p := ⟨q, 1, none⟩) rfl (.slice a10 (zs ++ [7]).length c10)) (fun k hk => by injection hk with hk; omega) hp HA.out
                  have V10 := V9.put1 (.slice a10 (zs ++ [7]).length c10)
                  have O10 : (w9.setCell ⟨q, 1, none⟩ (.slice a10 (zs ++ [7]).length c10)).ownsRow (w.heap.size + 1) 59 1 (.slice a10 (zs ++ [7]).length c10) (zs ++ [7]).length ((zs ++ [7]).map (Value.int .u32)) := ownsRow_setCell_other O9 (V9.apart O9) _
                  have L10 : Hid (Lim (zs ++ [7]) ∧ 64 - (zs ++ [7]).length = 64 - (zs ++ [7]).length) := ⟨l9, rfl⟩
                  rw [es] at D10 V10 O10
                  clear D9 V9 O9 k0 k1 kf
                  go_roundg (64 - (zs ++ [7]).length)
                  case measure => rw [hl.out.2, es]; omega
                  case rel => exact ⟨zs ++ [7], a10, c10, by rw [es]; exact O10, ⟨l9, rfl⟩, by rw [es]; omega, D10, by rw [es]; exact V10⟩
                · obtain ⟨r0, r1, rf, _⟩ := id DX.res
                  have o11 : Own (w.heap.size + 1) wx a9 c9 zs := by
                    obtain ⟨a11, c11, e11, o11⟩ := Own.of_owns OX hl.out.1
                    simp only [Value.slice.injEq, true_and] at e11
                    rw [e11.1, e11.2]
                    exact o11
                  go_wp2
                  obtain ⟨f1, f2, f3⟩ := DX.fin hp HA.out o11 (.bool g0) (.slice a9 zs.length c9)
                  exact bodyPost_ret (v := .agg #[.bool g0, .slice a9 zs.length c9]) (by simp [results, Tryd.results58, go_sem, r0, r1]) rfl ⟨_, rfl, ⟨g0, a9, c9, zs, rfl, f1, by omega⟩, f2, f3⟩
          · have e0 : (x == 0) = false := by rw [beq_eq_false_iff_ne]; exact h0
            have e1 : (x == 1) = false := by rw [beq_eq_false_iff_ne]; exact h1
            have e2 : (x == 2) = false := by rw [beq_eq_false_iff_ne]; exact h2
            go_wp2
            obtain ⟨f1, f2, f3⟩ := D7.fin hp HA.out o8 (.bool g0) (.slice a5 ys.length c5)
            exact bodyPost_ret (v := .agg #[.bool g0, .slice a5 ys.length c5]) (by simp [results, Tryd.results58, go_sem, r0, r1]) rfl ⟨_, rfl, ⟨g0, a5, c5, ys, rfl, f1, by omega⟩, f2, f3⟩
end Go.Proofs.YtccdihglpobnmaaDoor
