import Derived.Test.YtinlomcaagdbiaaGreatPtsL
/- Shapes: their copies, whether two are equal. -/
namespace Go.Proofs.YtinlomcaagdbiaaGreat
open Go.RowKit

set_option maxHeartbeats 1000000 in
theorem toPtsN (a : Option Addr) (cap : Nat) (ps : List (Int × Int)) (w : World) (h : SeesP w a cap ps) (hs : ps.length ≤ 1048576) :
  Calls Tryz.prog 73 #[.slice a ps.length cap] w fun e w' => e = .returned (.slice (some ⟨w.heap.size, 0, none⟩) ps.length ps.length) ∧ SeesP w' (some ⟨w.heap.size, 0, none⟩) ps.length ps ∧ w.heap.size < w'.heap.size ∧ (∀ o, w'.frozen? ⟨w.heap.size, o, none⟩ = false) ∧ Below w.heap.size w w' := by
 obtain ⟨i0, hi, hz0, hz1, hz2⟩ := info_parts infoP
 go_enter Tryz.func73, Tryz.ntmps73
 go_wp2_with (at_make; refine wpList_make_full _ rfl _ _ 78 rfl w.heap.size 25 i0 (.agg #[.int .i64 0, .int .i64 0]) 2 Tryz.underlying78 hi hz0 hz1 .i64 .i64 _ _ ps.length rfl rfl rfl rfl ?b2 ?b3 (Nat.le_refl _) ?_)
 case b2 => rw [hz2]; omega
 case b3 => unfold maxLen; omega
 intro w0 hown0 hgrow0
 have R := RowP.start ps hown0
 have hb0 : Below w.heap.size w w0 := (Below.refl _ _).grown hgrow0 (Nat.le_refl _) (fun k h => by cases h)
 have hm := h.max
 have hf := h.fits
 unfold maxLen at hm
 clear hown0 hgrow0 hi hz0 hz1 hz2
 go_wp2
 go_loopw [4] (fun i wr => ∃ j : Nat, j ≤ ps.length ∧ i = .int .i64 j ∧ RowP wr w.heap.size ps.length j ps ∧ Below w.heap.size w wr) (fun i _ => ps.length - (intOf i).toNat)
 case atStart => exact ⟨0, Nat.zero_le _, rfl, R, hb0⟩
 case round =>
  clear R hb0
  obtain ⟨j, hj, rfl, R, B⟩ := hrel
  by_cases hlt : j < ps.length
  ·obtain ⟨b1, o1, rfl, hc⟩ := (h.below B).cells (by intro e; simp [e] at hlt)
   obtain ⟨g1, g2⟩ := hc j hlt
   obtain ⟨x, ux⟩ : ∃ x, Hid ((ps[j]?.getD (0, 0)).1 = x) := ⟨_, rfl⟩
   obtain ⟨y, uy⟩ : ∃ y, Hid ((ps[j]?.getD (0, 0)).2 = y) := ⟨_, rfl⟩
   rw [ux.out] at g1
   rw [uy.out] at g2
   clear hc
   go_wp2_with fail
   refine (toPt_any _ _ _).mono ?_
   rintro e w3 ⟨rfl, hb⟩
   replace R := R.below hb
   replace B := B.trans (hb.mono B.size)
   clear hb g1 g2
   obtain ⟨⟨v0, c0⟩, ⟨v1, c1⟩⟩ := R.u j (Nat.le_refl _) hlt
   have cf := R.fr
   replace R := R.step hlt ux.out uy.out
   replace B := (B.setCell (p := ⟨w.heap.size, j * 2, none⟩) (Nat.le_refl _) (.int .i64 x)).setCell (p := ⟨w.heap.size, j * 2 + 1, none⟩) (Nat.le_refl _) (.int .i64 y)
   go_wp2_with fail
   go_roundw
   case rel => exact ⟨j + 1, by omega, by go_num, R, B⟩
   case measure => simp [intOf]; omega
  ·have hje : j = ps.length := by omega
   subst hje
   go_wp2
   go_ret
   refine ⟨rfl, ⟨Nat.le_refl _, by unfold maxLen; omega, fun _ => ⟨_, _, rfl, fun i hi => ?_⟩⟩, R.lt, R.fr, B⟩
   have := R.c i hi
   simpa only [Nat.zero_add] using this


theorem infoR : (Tryz.prog.info? 78).map (fun i => (i.zero, i.size, i.bytes)) = some (some (.slice none 0 0), 1, 24) := by kernel_rfl
theorem SeesP.put1 {w : World} {a : Option Addr} {cap g : Nat} {ps : List (Int × Int)} (h : SeesP w a cap ps) (ne : ∀ b off, a = some ⟨b, off, none⟩ → b ≠ g) (o : Nat) (u : Value) : SeesP (w.setCell ⟨g, o, none⟩ u) a cap ps :=
 ⟨h.fits, h.max, fun hn => by
  obtain ⟨b, off, ha, hc⟩ := h.cells hn
  exact ⟨b, off, ha, fun i hi => ⟨(cell_other (.inl (Ne.symm (ne b off ha))) u).trans (hc i hi).1, (cell_other (.inl (Ne.symm (ne b off ha))) u).trans (hc i hi).2⟩⟩⟩

structure RowS (w : World) (g n j : Nat) (rs : List (List (Int × Int))) : Prop where
 c : ∀ i, i < j → ∃ b c', w.cell? ⟨g, i, none⟩ = some (.slice (some ⟨b, 0, none⟩) (rowA rs i).length c') ∧ SeesP w (some ⟨b, 0, none⟩) c' (rowA rs i) ∧ g < b ∧ b < w.heap.size ∧ ∀ o, w.frozen? ⟨b, o, none⟩ = false
 u : ∀ i, j ≤ i → i < n → ∃ v, w.cell? ⟨g, i, none⟩ = some v
 fr : ∀ o, w.frozen? ⟨g, o, none⟩ = false
 lt : g < w.heap.size
theorem RowS.below {w w' : World} {g n j : Nat} {rs : List (List (Int × Int))} (h : RowS w g n j rs) (hb : Below w.heap.size w w') : RowS w' g n j rs := by
 obtain ⟨q, r⟩ := at_block hb h.lt
 exact ⟨fun i hi => by obtain ⟨b, c', h1, h2, h3⟩ := h.c i hi; exact ⟨b, c', (q _).trans h1, h2.below hb, h3.1, Nat.lt_of_lt_of_le h3.2.1 hb.size, fun o => (hb.frozen (p := ⟨b, o, none⟩) h3.2.1).trans (h3.2.2 o)⟩, fun i h1 h2 => by obtain ⟨v, hv⟩ := h.u i h1 h2; exact ⟨v, (q _).trans hv⟩, fun o => (r o).trans (h.fr o), Nat.lt_of_lt_of_le h.lt hb.size⟩
theorem RowS.start {w : World} {base e g n : Nat} {xs : List Value} (rs : List (List (Int × Int))) (h : w.ownsRow base e 1 (.slice (some ⟨g, 0, none⟩) n n) n xs) : RowS w g n 0 rs := by
 obtain ⟨h1, h2⟩ := h
 rcases h2 with ⟨h2, _⟩ | ⟨g', cap', cur, hv, hb, hh, hc, hm, hs, ht⟩
 ·cases h2
 simp only [Value.slice.injEq, Option.some.injEq, Addr.mk.injEq, and_true] at hv
 obtain ⟨rfl, _, rfl⟩ := hv
 refine ⟨fun i hi => absurd hi (by omega), fun k _ hk => ?_, fun o => by simp [World.frozen?, hh], ?_⟩
 ·rw [cell_of_row w g k cur e (0, 0) hh]
  exact ⟨cur[k]'(by omega), Array.getElem?_eq_getElem (by omega)⟩
 ·rcases Nat.lt_or_ge g w.heap.size with k | k
  ·exact k
  ·rw [Array.getElem?_eq_none k] at hh
   cases hh
theorem RowS.step {w : World} {g n j b c' : Nat} {rs : List (List (Int × Int))} (h : RowS w g n j rs) (hj : j < n) (hs : SeesP w (some ⟨b, 0, none⟩) c' (rowA rs j)) (hb : g < b) (hl : b < w.heap.size) (hr : ∀ o, w.frozen? ⟨b, o, none⟩ = false) :
  RowS (w.setCell ⟨g, j, none⟩ (.slice (some ⟨b, 0, none⟩) (rowA rs j).length c')) g n (j + 1) rs := by
 obtain ⟨v0, h0⟩ := h.u j (Nat.le_refl _) hj
 refine ⟨fun i hi => ?_, fun i h2 h3 => ?_, fun o => (World.frozen?_setCell ..).trans (h.fr o), by simpa using h.lt⟩
 ·by_cases e : i = j
  ·subst e
   exact ⟨b, c', cell_same h0 _, hs.put1 (fun b' off' e => by simp only [Option.some.injEq, Addr.mk.injEq] at e; omega) _ _, hb, by simpa using hl, fun o => (World.frozen?_setCell ..).trans (hr o)⟩
  ·obtain ⟨b2, c2, h4, h5, h6⟩ := h.c i (by omega)
   exact ⟨b2, c2, (cell_other (.inr (Ne.symm e)) _).trans h4, h5.put1 (fun b' off' e => by simp only [Option.some.injEq, Addr.mk.injEq] at e; omega) _ _, h6.1, by simpa using h6.2.1, fun o => (World.frozen?_setCell ..).trans (h6.2.2 o)⟩
 ·obtain ⟨v, hv⟩ := h.u i (by omega) h3
  exact ⟨v, (cell_other (.inr (by omega)) _).trans hv⟩

structure OwnS (lo : Nat) (w : World) (a : Option Addr) (cap : Nat) (rs : List (List (Int × Int))) : Prop where
 fits : rs.length ≤ cap
 max : cap ≤ maxLen
 cells : rs ≠ [] → ∃ b off, a = some ⟨b, off, none⟩ ∧ lo ≤ b ∧ ∀ i, i < rs.length → ∃ a' c', w.cell? ⟨b, off + i, none⟩ = some (.slice a' (rowA rs i).length c') ∧ SeesP w a' c' (rowA rs i) ∧ ∀ b' off', a' = some ⟨b', off', none⟩ → lo ≤ b' ∧ b < b' ∧ b' < w.heap.size ∧ ∀ o, w.frozen? ⟨b', o, none⟩ = false
theorem OwnS.sees {lo : Nat} {w : World} {a : Option Addr} {cap : Nat} {rs : List (List (Int × Int))} (h : OwnS lo w a cap rs) : SeesS w a cap rs :=
 ⟨h.fits, h.max, fun hn => by
  obtain ⟨b, off, ha, _, hc⟩ := h.cells hn
  exact ⟨b, off, ha, fun i hi => by obtain ⟨a', c', h1, h2, _⟩ := hc i hi; exact ⟨a', c', h1, h2⟩⟩⟩
theorem OwnS.below {lo : Nat} {w w' : World} {a : Option Addr} {cap : Nat} {rs : List (List (Int × Int))} (h : OwnS lo w a cap rs) (hb : Below w.heap.size w w') : OwnS lo w' a cap rs :=
 ⟨h.fits, h.max, fun hn => by
  obtain ⟨b, off, ha, hl, hc⟩ := h.cells hn
  exact ⟨b, off, ha, hl, fun i hi => by obtain ⟨a', c', h1, h2, h3⟩ := hc i hi; exact ⟨a', c', bat hb h1, h2.below hb, fun b' off' e => ⟨(h3 b' off' e).1, (h3 b' off' e).2.1, Nat.lt_of_lt_of_le (h3 b' off' e).2.2.1 hb.size, fun o => (hb.frozen (p := ⟨b', o, none⟩) (h3 b' off' e).2.2.1).trans ((h3 b' off' e).2.2.2 o)⟩⟩⟩⟩
theorem OwnS.put {lo g : Nat} {w : World} {a : Option Addr} {cap : Nat} {rs : List (List (Int × Int))} (h : OwnS lo w a cap rs) (hg : g < lo) (o : Nat) (u : Value) : OwnS lo (w.setCell ⟨g, o, none⟩ u) a cap rs :=
 ⟨h.fits, h.max, fun hn => by
  obtain ⟨b, off, ha, hl, hc⟩ := h.cells hn
  exact ⟨b, off, ha, hl, fun i hi => by obtain ⟨a', c', h1, h2, h3⟩ := hc i hi; exact ⟨a', c', (cell_other (.inl (by omega)) u).trans h1, h2.put1 (fun b' off' e => by have := (h3 b' off' e).1; omega) o u, fun b' off' e => ⟨(h3 b' off' e).1, (h3 b' off' e).2.1, by simpa using (h3 b' off' e).2.2.1, fun o => (World.frozen?_setCell ..).trans ((h3 b' off' e).2.2.2 o)⟩⟩⟩⟩

def Somes (w : World) (a : Option Addr) (n : Nat) : Prop := ∃ b off, a = some ⟨b, off, none⟩ ∧ ∀ i, i < n → ∃ ad l c, w.cell? ⟨b, off + i, none⟩ = some (.slice (some ad) l c)
theorem Somes.below {w w' : World} {a : Option Addr} {n : Nat} (h : Somes w a n) (hb : Below w.heap.size w w') : Somes w' a n := by
 obtain ⟨b, off, e, k⟩ := h
 exact ⟨b, off, e, fun i hi => by obtain ⟨ad, l, c, q⟩ := k i hi; exact ⟨ad, l, c, bat hb q⟩⟩
theorem Somes.put {g n b off : Nat} {w : World} (h : Somes w (some ⟨b, off, none⟩) n) (ne : b ≠ g) (o : Nat) (u : Value) : Somes (w.setCell ⟨g, o, none⟩ u) (some ⟨b, off, none⟩) n := by
 obtain ⟨b', off', e, k⟩ := h
 simp only [Option.some.injEq, Addr.mk.injEq] at e
 obtain ⟨rfl, rfl, _⟩ := e
 exact ⟨b, off, rfl, fun i hi => by obtain ⟨ad, l, c, q⟩ := k i hi; exact ⟨ad, l, c, (cell_other (.inl (Ne.symm ne)) u).trans q⟩⟩

set_option maxHeartbeats 1000000 in
theorem toRowsE (a : Option Addr) (cap : Nat) (rs : List (List (Int × Int))) (w : World) (h : SeesS w a cap rs) (hs : upto rs rs.length ≤ 1048576) :
  Calls Tryz.prog 59 #[.slice a rs.length cap] w fun e w' => e = .returned (.slice (some ⟨w.heap.size, 0, none⟩) rs.length rs.length) ∧ OwnS w.heap.size w' (some ⟨w.heap.size, 0, none⟩) rs.length rs ∧ Below w.heap.size w w' ∧ Somes w' (some ⟨w.heap.size, 0, none⟩) rs.length ∧ w.heap.size < w'.heap.size := by
 obtain ⟨i0, hi, hz0, hz1, hz2⟩ := info_parts infoR
 have hrl : rs.length ≤ 1048576 := by have := upto_le rs 0 rs.length; simp only [upto, Nat.zero_add] at this; omega
 have HS : Hid (upto rs rs.length ≤ 1048576) := hs
 clear hs
 go_enter Tryz.func59, Tryz.ntmps59
 go_wp2_with (at_make; refine wpList_make_full _ rfl _ _ 48 rfl w.heap.size 78 i0 (.slice none 0 0) 1 Tryz.underlying48 hi hz0 hz1 .i64 .i64 _ _ rs.length rfl rfl rfl rfl ?b2 ?b3 (Nat.le_refl _) ?_)
 case b2 => rw [hz2]; omega
 case b3 => unfold maxLen; omega
 intro w0 hown0 hgrow0
 have R := RowS.start rs hown0
 have hb0 : Below w.heap.size w w0 := (Below.refl _ _).grown hgrow0 (Nat.le_refl _) (fun k h => by cases h)
 have hm := h.max
 have hf := h.fits
 unfold maxLen at hm
 clear hown0 hgrow0 hi hz0 hz1 hz2
 go_wp2
 go_loopw [4] (fun i wr => ∃ j : Nat, j ≤ rs.length ∧ i = .int .i64 j ∧ RowS wr w.heap.size rs.length j rs ∧ Below w.heap.size w wr) (fun i _ => rs.length - (intOf i).toNat)
 case atStart => exact ⟨0, Nat.zero_le _, rfl, R, hb0⟩
 case round =>
  clear R hb0
  obtain ⟨j, hj, rfl, R, B⟩ := hrel
  rename World => wr
  by_cases hlt : j < rs.length
  ·obtain ⟨b1, o1, rfl, hc⟩ := (h.below B).cells (by intro e; simp [e] at hlt)
   obtain ⟨a', c', g1, sp⟩ := hc j hlt
   have hrow := row_le rs hlt
   have hrs : (rowA rs j).length ≤ 1048576 := by have := HS.out; omega
   have HR : Hid ((rowA rs j).length ≤ 1048576) := hrs
   clear hc hrow hrs
   go_wp2_with fail
   refine (toPtsN _ _ _ _ sp HR.out).mono ?_
   rintro e w3 ⟨rfl, s3, hl3, fz3, hb⟩
   have hgw : w.heap.size < wr.heap.size := R.lt
   replace R := R.below hb
   replace B := B.trans (hb.mono B.size)
   clear hb g1
   obtain ⟨v0, c0⟩ := R.u j (Nat.le_refl _) hlt
   have cf := R.fr
   replace R := R.step hlt s3 hgw hl3 fz3
   replace B := B.setCell (p := ⟨w.heap.size, j, none⟩) (Nat.le_refl _) (.slice (some ⟨wr.heap.size, 0, none⟩) (rowA rs j).length (rowA rs j).length)
   clear s3 sp HR fz3 hl3
   generalize (rowA rs j).length = m at *
   go_wp2_with fail
   go_roundw
   case rel => exact ⟨j + 1, by omega, by go_num, R, B⟩
   case measure => simp [intOf]; omega
  ·have hje : j = rs.length := by omega
   subst hje
   go_wp2
   go_ret
   refine ⟨rfl, ⟨Nat.le_refl _, by unfold maxLen; omega, fun _ => ⟨_, _, rfl, Nat.le_refl _, fun i hi => ?_⟩⟩, B, ⟨_, _, rfl, fun i hi => by obtain ⟨b, c', h1, _⟩ := R.c i hi; exact ⟨_, _, _, by rw [Nat.zero_add]; exact h1⟩⟩, R.lt⟩
   obtain ⟨b, c', h1, h2, h3⟩ := R.c i hi
   exact ⟨_, c', by rw [Nat.zero_add]; exact h1, h2, fun b' off' e => by
    simp only [Option.some.injEq, Addr.mk.injEq] at e
    obtain ⟨rfl, _, _⟩ := e
    exact ⟨Nat.le_of_lt h3.1, h3.1, h3.2.1, h3.2.2⟩⟩

set_option maxHeartbeats 1000000 in
theorem toShapeE (k : Int) (a : Option Addr) (cap : Nat) (rs : List (List (Int × Int))) (w : World) (h : SeesS w a cap rs) (hs : upto rs rs.length ≤ 1048576) :
  Calls Tryz.prog 40 #[.agg #[.int .i64 k, .slice a rs.length cap]] w fun e w' => e = .returned (.agg #[.int .i64 k, .slice (some ⟨w.heap.size + 3, 0, none⟩) rs.length rs.length]) ∧ OwnS (w.heap.size + 3) w' (some ⟨w.heap.size + 3, 0, none⟩) rs.length rs ∧ Below w.heap.size w w' ∧ Somes w' (some ⟨w.heap.size + 3, 0, none⟩) rs.length ∧ w.heap.size + 3 < w'.heap.size := by
 have B := below3 w (.cells #[.int .i64 k, .slice a rs.length cap] 44) (.cells #[.int .i64 0, .slice none 0 0] 50) (.cells #[.int .i64 k, .slice none 0 0] 50)
 have HS : Hid (upto rs rs.length ≤ 1048576) := hs
 clear hs
 go_enter Tryz.func40, Tryz.ntmps40
 go_wp2_with fail
 have R1 : Box2 0 (((w.alloc (.cells #[.int .i64 k, .slice a rs.length cap] 44)).alloc (.cells #[.int .i64 0, .slice none 0 0] 50)).alloc (.cells #[.int .i64 k, .slice none 0 0] 50)) (w.heap.size + 1) (.int .i64 0) (.slice none 0 0) := by
  have := (Box2.new (w.alloc (.cells #[.int .i64 k, .slice a rs.length cap] 44)) (lo := 0) (by omega) (.int .i64 0) (.slice none 0 0) 50).below (below1 _ (.cells #[.int .i64 k, .slice none 0 0] 50))
  simpa using this
 have R2 : Box2 0 (((w.alloc (.cells #[.int .i64 k, .slice a rs.length cap] 44)).alloc (.cells #[.int .i64 0, .slice none 0 0] 50)).alloc (.cells #[.int .i64 k, .slice none 0 0] 50)) (w.heap.size + 2) (.int .i64 k) (.slice none 0 0) := by
  have := Box2.new ((w.alloc (.cells #[.int .i64 k, .slice a rs.length cap] 44)).alloc (.cells #[.int .i64 0, .slice none 0 0] 50)) (lo := 0) (by omega) (.int .i64 k) (.slice none 0 0) 50
  simpa using this
 refine (toRowsE a cap rs _ (h.below B) HS.out).mono ?_
 rintro e w3 ⟨rfl, O3, hb, M3, L3⟩
 replace B := B.trans (hb.mono B.size)
 replace R1 := R1.below hb
 replace R2 := R2.below hb
 clear hb h
 rw [show (((w.alloc (.cells #[.int .i64 k, .slice a rs.length cap] 44)).alloc (.cells #[.int .i64 0, .slice none 0 0] 50)).alloc (.cells #[.int .i64 k, .slice none 0 0] 50)).heap.size = w.heap.size + 3 by simp] at O3 M3 L3 ⊢
 obtain ⟨r0, r1, rf, _⟩ := id R1
 obtain ⟨r2, r3, rg, _⟩ := id R2
 have O4 := (((O3.put (g := w.heap.size + 2) (by omega) 1 (.slice (some ⟨w.heap.size + 3, 0, none⟩) rs.length rs.length)).put (g := w.heap.size + 1) (by omega) 0 (.int .i64 k)).put (g := w.heap.size + 1) (by omega) 1 (.slice (some ⟨w.heap.size + 3, 0, none⟩) rs.length rs.length))
 have L4 : Hid (w.heap.size + 3 < w3.heap.size) := L3
 have M4 : Hid (Somes _ (some ⟨w.heap.size + 3, 0, none⟩) rs.length) := ((M3.put (g := w.heap.size + 2) (by omega) 1 (.slice (some ⟨w.heap.size + 3, 0, none⟩) rs.length rs.length)).put (g := w.heap.size + 1) (by omega) 0 (.int .i64 k)).put (g := w.heap.size + 1) (by omega) 1 (.slice (some ⟨w.heap.size + 3, 0, none⟩) rs.length rs.length)
 have B4 := ((B.setCell (p := ⟨w.heap.size + 2, 1, none⟩) (by dsimp only; omega) (.slice (some ⟨w.heap.size + 3, 0, none⟩) rs.length rs.length)).setCell (p := ⟨w.heap.size + 1, 0, none⟩) (by dsimp only; omega) (.int .i64 k)).setCell (p := ⟨w.heap.size + 1, 1, none⟩) (by dsimp only; omega) (.slice (some ⟨w.heap.size + 3, 0, none⟩) rs.length rs.length)
 clear O3 B R1 R2 M3 L3
 go_wp2
 exact bodyPost_ret (v := .agg #[.int .i64 k, .slice (some ⟨w.heap.size + 3, 0, none⟩) rs.length rs.length]) (by simp [results, Tryz.results40, go_sem, r0, r1]) rfl ⟨rfl, O4, B4, M4.out, by simpa using L4.out⟩

set_option maxHeartbeats 1000000 in
theorem eqRows (a b : Option Addr) (c d : Nat) (rs : List (List (Int × Int))) (w : World) (h : SeesS w a c rs) (k : SeesS w b d rs) :
  Calls Tryz.prog 65 #[.slice a rs.length c, .slice b rs.length d] w fun e w' => e = .returned (.bool true) ∧ Below w.heap.size w w' := by
 have hm := h.max
 have hf := h.fits
 unfold maxLen at hm
 have hne : ((rs.length : Int) != (rs.length : Int)) = false := by simp
 go_enter Tryz.func65, Tryz.ntmps65
 go_wp2
 go_loopw [5] (fun i wr => ∃ j : Nat, j ≤ rs.length ∧ i = .int .i64 j ∧ Below w.heap.size w wr) (fun i _ => rs.length - (intOf i).toNat)
 case atStart => exact ⟨0, Nat.zero_le _, rfl, Below.refl _ _⟩
 case round =>
  obtain ⟨j, hj, rfl, B⟩ := hrel
  rename World => wr
  by_cases hlt : j < rs.length
  ·obtain ⟨b1, o1, rfl, hc⟩ := (h.below B).cells (by intro e; simp [e] at hlt)
   obtain ⟨b2, o2, rfl, hd⟩ := (k.below B).cells (by intro e; simp [e] at hlt)
   obtain ⟨a3, c3, g1, p1⟩ := hc j hlt
   obtain ⟨a4, c4, g2, p2⟩ := hd j hlt
   generalize rowA rs j = ps at *
   clear hc hd
   go_wp2_with fail
   have k0 : wr.cell? ⟨b1, o1 + j, none⟩ = some (.slice a3 ps.length c3) ∧ wr.cell? ⟨b2, o2 + j, none⟩ = some (.slice a4 ps.length c4) := ⟨g1, g2⟩
   have B1 : Below wr.heap.size wr wr := Below.refl _ _
   go_region_held3 (fun w' => w'.cell? ⟨b1, o1 + j, none⟩ = some (.slice a3 ps.length c3) ∧ w'.cell? ⟨b2, o2 + j, none⟩ = some (.slice a4 ps.length c4))
    (first | exact k0 | exact ⟨bat B1 k0.1, bat B1 k0.2⟩)
    ((go_at_call 86; refine (eqPts a3 a4 c3 c4 ps _ (p1.below B1.drew) (p2.below B1.drew)).mono ?_; rintro e w5 ⟨rfl, hb⟩; replace B1 := B1.drew.trans (hb.mono B1.drew.size)))
   replace B := B.trans (B1.mono B.size)
   go_wp2_with fail
   go_roundw
   case rel => exact ⟨j + 1, by omega, by go_num, B⟩
   case measure => simp [intOf]; omega
  ·go_wp2
   go_ret
   exact ⟨rfl, B⟩

set_option maxHeartbeats 1000000 in
theorem eqShape_any (n : Int) (a b : Option Addr) (c d : Nat) (rs : List (List (Int × Int))) (w : World) (h : SeesS w a c rs) (k : SeesS w b d rs) :
  Calls Tryz.prog 49 #[.agg #[.int .i64 n, .slice a rs.length c], .agg #[.int .i64 n, .slice b rs.length d]] w fun e w' => e = .returned (.bool true) ∧ Below w.heap.size w w' := by
 have hne : (n != n) = false := by simp
 have B := below2 w (.cells #[.int .i64 n, .slice a rs.length c] 50) (.cells #[.int .i64 n, .slice b rs.length d] 50)
 go_enter Tryz.func49, Tryz.ntmps49
 go_wp2_with fail
 refine (eqRows a b c d rs _ (h.below B) (k.below B)).mono ?_
 rintro e w1 ⟨rfl, hb⟩
 replace B := B.trans (hb.mono B.size)
 go_wp2
 go_ret
 exact ⟨rfl, B⟩
end Go.Proofs.YtinlomcaagdbiaaGreat

/- Marks: stores into the rows of points of a call's own. -/
namespace Go.Proofs.YtinlomcaagdbiaaGreat
open Go.RowKit

def Puts (lo hi : Nat) (w w' : World) : Prop := ∀ P : World → Prop, (∀ W b o u, lo ≤ b → b < hi → P W → P (W.setCell ⟨b, o, none⟩ u)) → P w → P w'
theorem Puts.refl (lo hi : Nat) (w : World) : Puts lo hi w w := fun _ _ h => h
theorem Puts.put {lo hi b : Nat} {w w' : World} (h : Puts lo hi w w') (h1 : lo ≤ b) (h2 : b < hi) (o : Nat) (u : Value) : Puts lo hi w (w'.setCell ⟨b, o, none⟩ u) :=
 fun P c p => c _ b o u h1 h2 (h P c p)
theorem Puts.trans {lo hi : Nat} {a b c : World} (h : Puts lo hi a b) (k : Puts lo hi b c) : Puts lo hi a c := fun P q p => k P q (h P q p)
theorem Puts.wider {lo hi lo' hi' : Nat} {a b : World} (h : Puts lo hi a b) (h1 : lo' ≤ lo) (h2 : hi ≤ hi') : Puts lo' hi' a b := fun P q p => h P (fun W b o u x y z => q W b o u (by omega) (by omega) z) p
structure Has (w : World) (b off n : Nat) : Prop where
 c : ∀ o, o < n → ∃ v, w.cell? ⟨b, off + o, none⟩ = some v
 f : ∀ o, w.frozen? ⟨b, o, none⟩ = false
theorem Has.put {w : World} {b off n : Nat} (h : Has w b off n) (b' o : Nat) (u : Value) : Has (w.setCell ⟨b', o, none⟩ u) b off n :=
 ⟨fun i hi => by
  obtain ⟨v, hv⟩ := h.c i hi
  by_cases e : b' = b ∧ o = off + i
  ·obtain ⟨rfl, rfl⟩ := e
   exact ⟨u, cell_same hv u⟩
  ·refine ⟨v, (cell_other ?_ u).trans hv⟩
   by_cases e1 : b' = b
   ·exact .inr (fun q => e ⟨e1, q⟩)
   ·exact .inl e1, fun i => (World.frozen?_setCell ..).trans (h.f i)⟩

set_option maxRecDepth 20000 in
set_option maxHeartbeats 1000000 in
theorem markPts (b off c m : Nat) (k : Int) (w : World) (h : Has w b off (m * 2)) (hm : m ≤ 1048576) (hc : c ≤ maxLen) (hmc : m ≤ c) (k0 : 0 ≤ k) (k1 : k ≤ 1000000000000) :
  Calls Tryz.prog 50 #[.slice (some ⟨b, off, none⟩) m c, .int .i64 k] w fun e w' => e = .returned (.int .i64 (k + 2 * (m : Int))) ∧ Puts b (b + 1) w w' := by
 unfold maxLen at hc
 go_enter Tryz.func50, Tryz.ntmps50
 go_wp2
 go_loopw [1, 5] (fun s1 i wr => ∃ j : Nat, j ≤ m ∧ i = .int .i64 j ∧ s1 = .int .i64 (k + 2 * (j : Int)) ∧ Hid (Puts b (b + 1) w wr)) (fun _ i _ => m - (intOf i).toNat)
 case atStart => exact ⟨0, Nat.zero_le _, rfl, by simp, Puts.refl _ _ _⟩
 case round =>
  obtain ⟨j, hj, rfl, rfl, P⟩ := hrel
  rename World => wr
  by_cases hlt : j < m
  ·have H := P.out (fun W => Has W b off (m * 2)) (fun W b' o u _ _ q => q.put b' o u) h
   obtain ⟨v0, c0⟩ := H.c (j * 2) (by omega)
   have f0 := H.f
   have P1 := P.out.put (Nat.le_refl b) (Nat.lt_succ_self b) (off + j * 2) (.int .i64 (k + 2 * (j : Int)))
   have H1 := H.put b (off + j * 2) (.int .i64 (k + 2 * (j : Int)))
   obtain ⟨v1, c1⟩ := H1.c (j * 2 + 1) (by omega)
   have f1 := H1.f
   rw [← Nat.add_assoc] at c1
   have P2 : Hid (Puts b (b + 1) w _) := P1.put (Nat.le_refl b) (Nat.lt_succ_self b) (off + j * 2 + 1) (.int .i64 (k + 2 * (j : Int) + 1))
   clear P P1 H H1
   go_wp2
   go_roundw
   case rel => exact ⟨j + 1, by omega, by go_num, (by congr 1; push_cast; omega), P2⟩
   case measure => simp [intOf]; omega
  ·obtain rfl : j = m := by omega
   go_wp2
   go_ret
   exact ⟨rfl, P.out⟩

def MarkS (lo hi : Nat) (w : World) (b off : Nat) (rs : List (List (Int × Int))) : Prop :=
 ∀ i, i < rs.length → ∃ a' c', w.cell? ⟨b, off + i, none⟩ = some (.slice a' (rowA rs i).length c') ∧ (rowA rs i).length ≤ c' ∧ c' ≤ maxLen ∧ ((rowA rs i).length = 0 ∨ ∃ b' off', a' = some ⟨b', off', none⟩ ∧ lo ≤ b' ∧ b' < hi ∧ Has w b' off' ((rowA rs i).length * 2))
theorem MarkS.put {lo hi b off b' o : Nat} {w : World} {rs : List (List (Int × Int))} {u : Value} (h : MarkS lo hi w b off rs) (hb : b < lo) (h1 : lo ≤ b') : MarkS lo hi (w.setCell ⟨b', o, none⟩ u) b off rs := by
 intro i hi'
 obtain ⟨a', c', g, f1, f2, r⟩ := h i hi'
 refine ⟨a', c', (cell_other (.inl (by omega)) u).trans g, f1, f2, ?_⟩
 rcases r with r | ⟨b2, o2, e, l1, l2, H⟩
 ·exact .inl r
 ·exact .inr ⟨b2, o2, e, l1, l2, H.put b' o u⟩
theorem MarkS.below {lo hi b off : Nat} {w w' : World} {rs : List (List (Int × Int))} (h : MarkS lo hi w b off rs) (bn : Below w.heap.size w w') : MarkS lo hi w' b off rs := by
 intro i hi'
 obtain ⟨a', c', g, f1, f2, r⟩ := h i hi'
 refine ⟨a', c', bat bn g, f1, f2, ?_⟩
 rcases r with r | ⟨b2, o2, e, l1, l2, H⟩
 ·exact .inl r
 ·rcases Nat.eq_zero_or_pos (rowA rs i).length with z | z
  ·exact .inl z
  ·refine .inr ⟨b2, o2, e, l1, l2, fun o ho => ?_, fun o => ?_⟩
   ·obtain ⟨v, hv⟩ := H.c o ho
    exact ⟨v, bat bn hv⟩
   ·obtain ⟨v, hv⟩ := H.c 0 (by omega)
    have hlt : b2 < w.heap.size := World.block_lt_of_cell? w ⟨b2, o2 + 0, none⟩ hv
    exact (bn.frozen (p := ⟨b2, o, none⟩) hlt).trans (H.f o)
theorem SeesP.has {w : World} {b off c : Nat} {ps : List (Int × Int)} (h : SeesP w (some ⟨b, off, none⟩) c ps) (f : ∀ o, w.frozen? ⟨b, o, none⟩ = false) : Has w b off (ps.length * 2) :=
 ⟨fun o ho => by
  have hi : o / 2 < ps.length := by omega
  obtain ⟨b', off', e, hc⟩ := h.cells (by intro e; simp [e] at hi)
  simp only [Option.some.injEq, Addr.mk.injEq] at e
  obtain ⟨rfl, rfl, _⟩ := e
  obtain ⟨c0, c1⟩ := hc _ hi
  have hm : o % 2 = 0 ∨ o % 2 = 1 := by omega
  rcases hm with m | m
  ·exact ⟨_, by rw [show off + o = off + o / 2 * 2 by omega]; exact c0⟩
  ·exact ⟨_, by rw [show off + o = off + o / 2 * 2 + 1 by omega]; exact c1⟩, f⟩
theorem OwnS.mark {lo b off : Nat} {w : World} {c : Nat} {rs : List (List (Int × Int))} (h : OwnS lo w (some ⟨b, off, none⟩) c rs) : MarkS (b + 1) w.heap.size w b off rs := by
 intro i hi
 obtain ⟨b0, off0, e, _, hc⟩ := h.cells (by intro e; simp [e] at hi)
 simp only [Option.some.injEq, Addr.mk.injEq] at e
 obtain ⟨rfl, rfl, _⟩ := e
 obtain ⟨a', c', g, S, r⟩ := hc i hi
 refine ⟨a', c', g, S.fits, S.max, ?_⟩
 rcases Nat.eq_zero_or_pos (rowA rs i).length with z | z
 ·exact .inl z
 ·obtain ⟨b', off', rfl, _⟩ := S.cells (by intro e; simp [e] at z)
  obtain ⟨r1, r2, r3, r4⟩ := r b' off' rfl
  exact .inr ⟨b', off', rfl, r2, r3, S.has r4⟩

theorem markNone (a : Option Addr) (c : Nat) (k : Int) (w : World) :
  Calls Tryz.prog 50 #[.slice a 0 c, .int .i64 k] w fun e w' => e = .returned (.int .i64 k) ∧ w' = w := by
 go_enter Tryz.func50, Tryz.ntmps50
 go_wp2
 go_loopw [1, 5] (fun s1 i wr => i = .int .i64 0 ∧ s1 = .int .i64 k ∧ Hid (wr = w)) (fun _ _ _ => 0)
 case atStart => exact ⟨rfl, rfl, rfl⟩
 case round =>
  obtain ⟨rfl, rfl, hw⟩ := hrel
  go_wp2
  go_ret
  exact ⟨rfl, hw.out⟩

theorem belowPuts {b lo hi : Nat} {w0 w w' : World} (h : Below b w0 w) (P : Puts lo hi w w') (hb : b ≤ lo) : Below b w0 w' :=
 P (fun W => Below b w0 W) (fun _ b' o u h1 _ q => q.setCell (p := ⟨b', o, none⟩) (Nat.le_trans hb h1) u) h
end Go.Proofs.YtinlomcaagdbiaaGreat
