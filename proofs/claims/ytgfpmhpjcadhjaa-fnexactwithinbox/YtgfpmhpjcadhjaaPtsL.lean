import Derived.Test.YtgfpmhpjcadhjaaPtG
import Derived.Deep.RegionHeld3
/- The laws' helpers on lists of points: their sizes, their copies, whether two are equal. -/
namespace Go.Proofs.Ytgfpmhpjcadhjaa
open Go.RowKit

theorem infoP : (Try.prog.info? 27).map (fun i => (i.zero, i.size, i.bytes)) = some (some (.agg #[.int .i64 0, .int .i64 0]), 2, 16) := by kernel_rfl

theorem szPts (a : Option Addr) (c n : Nat) (left : Int) (w : World) (hl : 0 ≤ left ∧ left ≤ 1048576) (hn : n ≤ 9223372036854775807) :
    Calls Try.prog 26 #[.slice a n c, .int .i64 left] w fun e w' => e = .returned (.int .i64 (if left - n < 0 then -1 else left - n)) ∧ w' = w := by
  obtain ⟨h1, h2⟩ := hl
  by_cases hc : left - n < 0
  · rw [if_pos hc]
    go_enter Try.func26, Try.ntmps26
    go_wp2
    go_ret
    exact ⟨rfl, rfl⟩
  · rw [if_neg hc]
    go_enter Try.func26, Try.ntmps26
    go_wp2
    go_ret
    exact ⟨rfl, rfl⟩

/-- A row of points that is being filled. -/
structure RowP (w : World) (g n j : Nat) (ps : List (Int × Int)) : Prop where
  c : ∀ i, i < j → w.cell? ⟨g, i * 2, none⟩ = some (.int .i64 (ps[i]?.getD (0, 0)).1) ∧ w.cell? ⟨g, i * 2 + 1, none⟩ = some (.int .i64 (ps[i]?.getD (0, 0)).2)
  u : ∀ i, j ≤ i → i < n → (∃ v, w.cell? ⟨g, i * 2, none⟩ = some v) ∧ ∃ v, w.cell? ⟨g, i * 2 + 1, none⟩ = some v
  fr : ∀ o, w.frozen? ⟨g, o, none⟩ = false
  lt : g < w.heap.size
theorem RowP.below {w w' : World} {g n j : Nat} {ps : List (Int × Int)} (h : RowP w g n j ps) (hb : Below w.heap.size w w') : RowP w' g n j ps := by
  obtain ⟨q, r⟩ := at_block hb h.lt
  exact ⟨fun i hi => ⟨(q _).trans (h.c i hi).1, (q _).trans (h.c i hi).2⟩, fun i h1 h2 => ⟨by obtain ⟨v, hv⟩ := (h.u i h1 h2).1; exact ⟨v, (q _).trans hv⟩, by obtain ⟨v, hv⟩ := (h.u i h1 h2).2; exact ⟨v, (q _).trans hv⟩⟩, fun o => (r o).trans (h.fr o), Nat.lt_of_lt_of_le h.lt hb.size⟩
theorem RowP.start {w : World} {base e g n : Nat} {xs : List Value} (ps : List (Int × Int)) (h : w.ownsRow base e 2 (.slice (some ⟨g, 0, none⟩) n n) n xs) : RowP w g n 0 ps := by
  obtain ⟨h1, h2⟩ := h
  rcases h2 with ⟨h2, _⟩ | ⟨g', cap', cur, hv, hb, hh, hc, hm, hs, ht⟩
  · cases h2
  simp only [Value.slice.injEq, Option.some.injEq, Addr.mk.injEq, and_true] at hv
  obtain ⟨rfl, _, rfl⟩ := hv
  have get : ∀ k, k < n * 2 → ∃ v, w.cell? ⟨g, k, none⟩ = some v := fun k hk => by
    rw [cell_of_row w g k cur e (0, 0) hh]
    exact ⟨cur[k]'(by omega), Array.getElem?_eq_getElem (by omega)⟩
  refine ⟨fun i hi => absurd hi (by omega), fun i _ hi => ⟨get _ (by omega), get _ (by omega)⟩, fun o => by simp [World.frozen?, hh], ?_⟩
  rcases Nat.lt_or_ge g w.heap.size with k | k
  · exact k
  · rw [Array.getElem?_eq_none k] at hh
    cases hh
theorem RowP.step {w : World} {g n j : Nat} {ps : List (Int × Int)} (h : RowP w g n j ps) (hj : j < n) {x y : Int} (hx : (ps[j]?.getD (0, 0)).1 = x) (hy : (ps[j]?.getD (0, 0)).2 = y) :
    RowP ((w.setCell ⟨g, j * 2, none⟩ (.int .i64 x)).setCell ⟨g, j * 2 + 1, none⟩ (.int .i64 y)) g n (j + 1) ps := by
  obtain ⟨⟨v0, h0⟩, ⟨v1, h1⟩⟩ := h.u j (Nat.le_refl _) hj
  have other : ∀ o, o ≠ j * 2 → o ≠ j * 2 + 1 → ((w.setCell ⟨g, j * 2, none⟩ (.int .i64 x)).setCell ⟨g, j * 2 + 1, none⟩ (.int .i64 y)).cell? ⟨g, o, none⟩ = w.cell? ⟨g, o, none⟩ := fun o e1 e2 =>
    (cell_other (.inr (Ne.symm e2)) _).trans (cell_other (.inr (Ne.symm e1)) _)
  refine ⟨fun i hi => ?_, fun i h2 h3 => ?_, fun o => ((World.frozen?_setCell ..).trans (World.frozen?_setCell ..)).trans (h.fr o), by simpa using h.lt⟩
  · by_cases e : i = j
    · subst e
      rw [hx, hy]
      exact ⟨(cell_other (.inr (by omega)) _).trans (cell_same h0 _), cell_same ((cell_other (.inr (by omega)) _).trans h1) _⟩
    · rw [other _ (by omega) (by omega), other _ (by omega) (by omega)]
      exact h.c i (by omega)
  · rw [other _ (by omega) (by omega), other _ (by omega) (by omega)]
    exact h.u i (by omega) h3

set_option maxHeartbeats 1000000 in
theorem toPts (a : Option Addr) (cap : Nat) (ps : List (Int × Int)) (w : World) (h : SeesP w a cap ps) (hs : ps.length ≤ 1048576) :
    Calls Try.prog 31 #[.slice a ps.length cap] w fun e w' => ∃ a' c', e = .returned (.slice a' ps.length c') ∧ SeesP w' a' c' ps ∧ Below w.heap.size w w' := by
  obtain ⟨i0, hi, hz0, hz1, hz2⟩ := info_parts infoP
  go_enter Try.func31, Try.ntmps31
  go_wp2_with (at_make; refine wpList_make_full _ rfl _ _ 48 rfl w.heap.size 27 i0 (.agg #[.int .i64 0, .int .i64 0]) 2 Try.underlying48 hi hz0 hz1 .i64 .i64 _ _ ps.length rfl rfl rfl rfl ?b2 ?b3 (Nat.le_refl _) ?_)
  case b2 => rw [hz2]; omega
  case b3 => unfold maxLen; omega
  intro w0 hown0 hgrow0
  have R := RowP.start ps hown0
  have hb0 : Below w.heap.size w w0 := (Below.refl _ _).grown hgrow0 (Nat.le_refl _) (fun k h => by cases h)
  have hm := h.max
  have hf := h.fits
  unfold maxLen at hm
  clear hown0 hgrow0 hi hz0 hz1 hz2
  go_wp2
  go_loopw [4] (fun i wr => ∃ j : Nat, j ≤ ps.length ∧ i = .int .i64 j ∧ RowP wr w.heap.size ps.length j ps ∧ Below w.heap.size w wr) (fun i _ => ps.length - (intOf i).toNat)
  case atStart => exact ⟨0, Nat.zero_le _, rfl, R, hb0⟩
  case round =>
    clear R hb0
    obtain ⟨j, hj, rfl, R, B⟩ := hrel
    by_cases hlt : j < ps.length
    · obtain ⟨b1, o1, rfl, hc⟩ := (h.below B).cells (by intro e; simp [e] at hlt)
      obtain ⟨g1, g2⟩ := hc j hlt
      obtain ⟨x, ux⟩ : ∃ x, Hid ((ps[j]?.getD (0, 0)).1 = x) := ⟨_, rfl⟩
      obtain ⟨y, uy⟩ : ∃ y, Hid ((ps[j]?.getD (0, 0)).2 = y) := ⟨_, rfl⟩
      rw [ux.out] at g1
      rw [uy.out] at g2
      clear hc
      go_wp2_with fail
      refine (toPt_any _ _ _).mono ?_
      rintro e w3 ⟨rfl, hb⟩
      replace R := R.below hb
      replace B := B.trans (hb.mono B.size)
      clear hb g1 g2
      obtain ⟨⟨v0, c0⟩, ⟨v1, c1⟩⟩ := R.u j (Nat.le_refl _) hlt
      have cf := R.fr
      replace R := R.step hlt ux.out uy.out
      replace B := (B.setCell (p := ⟨w.heap.size, j * 2, none⟩) (Nat.le_refl _) (.int .i64 x)).setCell (p := ⟨w.heap.size, j * 2 + 1, none⟩) (Nat.le_refl _) (.int .i64 y)
      go_wp2_with fail
      go_roundw
      case rel => exact ⟨j + 1, by omega, by go_num, R, B⟩
      case measure => simp [intOf]; omega
    · have hje : j = ps.length := by omega
      subst hje
      go_wp2
      go_ret
      refine ⟨_, _, rfl, ⟨Nat.le_refl _, by unfold maxLen; omega, fun _ => ⟨_, _, rfl, fun i hi => ?_⟩⟩, B⟩
      have := R.c i hi
      simpa only [Nat.zero_add] using this

set_option maxHeartbeats 1000000 in
theorem eqPts (a b : Option Addr) (c d : Nat) (ps : List (Int × Int)) (w : World) (h : SeesP w a c ps) (k : SeesP w b d ps) :
    Calls Try.prog 35 #[.slice a ps.length c, .slice b ps.length d] w fun e w' => e = .returned (.bool true) ∧ Below w.heap.size w w' := by
  have hm := h.max
  have hf := h.fits
  unfold maxLen at hm
  have hne : ((ps.length : Int) != (ps.length : Int)) = false := by simp
  go_enter Try.func35, Try.ntmps35
  go_wp2
  go_loopw [5] (fun i wr => ∃ j : Nat, j ≤ ps.length ∧ i = .int .i64 j ∧ Below w.heap.size w wr) (fun i _ => ps.length - (intOf i).toNat)
  case atStart => exact ⟨0, Nat.zero_le _, rfl, Below.refl _ _⟩
  case round =>
    obtain ⟨j, hj, rfl, B⟩ := hrel
    rename World => wr
    by_cases hlt : j < ps.length
    · obtain ⟨b1, o1, rfl, hc⟩ := (h.below B).cells (by intro e; simp [e] at hlt)
      obtain ⟨b2, o2, rfl, hd⟩ := (k.below B).cells (by intro e; simp [e] at hlt)
      obtain ⟨g1, g2⟩ := hc j hlt
      obtain ⟨g3, g4⟩ := hd j hlt
      generalize (ps[j]?.getD (0, 0)).1 = x at *
      generalize (ps[j]?.getD (0, 0)).2 = y at *
      clear hc hd
      go_wp2_with fail
      have k0 : wr.cell? ⟨b1, o1 + j * 2, none⟩ = some (.int .i64 x) ∧ wr.cell? ⟨b1, o1 + j * 2 + 1, none⟩ = some (.int .i64 y) ∧ wr.cell? ⟨b2, o2 + j * 2, none⟩ = some (.int .i64 x) ∧ wr.cell? ⟨b2, o2 + j * 2 + 1, none⟩ = some (.int .i64 y) := ⟨g1, g2, g3, g4⟩
      have B1 : Below wr.heap.size wr wr := Below.refl _ _
      go_region_held3 (fun w' => w'.cell? ⟨b1, o1 + j * 2, none⟩ = some (.int .i64 x) ∧ w'.cell? ⟨b1, o1 + j * 2 + 1, none⟩ = some (.int .i64 y) ∧ w'.cell? ⟨b2, o2 + j * 2, none⟩ = some (.int .i64 x) ∧ w'.cell? ⟨b2, o2 + j * 2 + 1, none⟩ = some (.int .i64 y))
        (first | exact k0 | exact ⟨bat B1 k0.1, bat B1 k0.2.1, bat B1 k0.2.2.1, bat B1 k0.2.2.2⟩)
        ((go_at_call 21; refine (eqPt_any _ _ _ _ _).mono ?_; rintro e w5 ⟨rfl, hb⟩; rw [eqP_refl]; replace B1 := B1.drew.trans (hb.mono B1.drew.size)))
      replace B := B.trans (B1.mono B.size)
      go_wp2_with fail
      go_roundw
      case rel => exact ⟨j + 1, by omega, by go_num, B⟩
      case measure => simp [intOf]; omega
    · go_wp2
      go_ret
      exact ⟨rfl, B⟩
end Go.Proofs.Ytgfpmhpjcadhjaa

/- Shapes in memory; the laws' helpers on them: their sizes, their copies, whether two are equal. -/
namespace Go.Proofs.Ytgfpmhpjcadhjaa
open Go.RowKit

/-- A row of a shape. -/
def rowA (rs : List (List (Int × Int))) (i : Nat) : List (Int × Int) := rs[i]?.getD []
/-- Rows of points that lie in memory. -/
structure SeesS (w : World) (a : Option Addr) (cap : Nat) (rs : List (List (Int × Int))) : Prop where
  fits : rs.length ≤ cap
  max : cap ≤ maxLen
  cells : rs ≠ [] → ∃ b off, a = some ⟨b, off, none⟩ ∧ ∀ i, i < rs.length → ∃ a' c', w.cell? ⟨b, off + i, none⟩ = some (.slice a' (rowA rs i).length c') ∧ SeesP w a' c' (rowA rs i)
theorem SeesS.below {w w' : World} {a : Option Addr} {cap : Nat} {rs : List (List (Int × Int))} (h : SeesS w a cap rs) (hb : Below w.heap.size w w') : SeesS w' a cap rs :=
  ⟨h.fits, h.max, fun hn => by
    obtain ⟨b, off, ha, hc⟩ := h.cells hn
    exact ⟨b, off, ha, fun i hi => by obtain ⟨a', c', h1, h2⟩ := hc i hi; exact ⟨a', c', bat hb h1, h2.below hb⟩⟩⟩
/-- How many rows and points there are, up to a row. -/
def upto (rs : List (List (Int × Int))) : Nat → Nat
  | 0 => rs.length
  | j + 1 => upto rs j + (rowA rs j).length
theorem upto_le (rs : List (List (Int × Int))) (j d : Nat) : upto rs j ≤ upto rs (j + d) := by
  induction d with
  | zero => exact Nat.le_refl _
  | succ d ih => rw [← Nat.add_assoc]; simp only [upto]; omega
theorem row_le (rs : List (List (Int × Int))) {i n : Nat} (h : i < n) : (rowA rs i).length + rs.length ≤ upto rs n := by
  have h1 := upto_le rs (i + 1) (n - (i + 1))
  rw [show i + 1 + (n - (i + 1)) = n by omega] at h1
  have h2 := upto_le rs 0 i
  simp only [upto, Nat.zero_add] at h1 h2
  omega

set_option maxHeartbeats 1000000 in
theorem szRows (a : Option Addr) (c : Nat) (rs : List (List (Int × Int))) (left : Int) (w : World) (h : SeesS w a c rs) (hl : 0 ≤ left ∧ left ≤ 1048576) :
    Calls Try.prog 14 #[.slice a rs.length c, .int .i64 left] w fun e w' => ∃ z : Int, e = .returned (.int .i64 z) ∧ (z = -1 ∨ (0 ≤ z ∧ z + (upto rs rs.length : Nat) = left)) ∧ w' = w := by
  obtain ⟨h1, h2⟩ := hl
  have hm := h.max
  have hf := h.fits
  unfold maxLen at hm
  by_cases hc : left - rs.length < 0
  · go_enter Try.func14, Try.ntmps14
    go_wp2
    go_ret
    exact ⟨-1, rfl, .inl rfl, rfl⟩
  · have hc' : 0 ≤ left - rs.length := by omega
    go_enter Try.func14, Try.ntmps14
    go_wp2
    go_loop [1, 5] (fun s1 s5 => ∃ (j : Nat) (z : Int), j ≤ rs.length ∧ s5 = .int .i64 j ∧ s1 = .int .i64 z ∧ 0 ≤ z ∧ z ≤ 1048576 ∧ Hid (z + (upto rs j : Nat) = left)) (fun _ s5 => rs.length - (intOf s5).toNat)
    case atStart => exact ⟨0, _, Nat.zero_le _, rfl, rfl, hc', by omega, by show _ = _; simp only [upto]; omega⟩
    case round =>
      obtain ⟨j, z, hj, rfl, rfl, z0, z1, he⟩ := hrel
      by_cases hlt : j < rs.length
      · obtain ⟨b, off, rfl, hc⟩ := h.cells (by intro e; simp [e] at hlt)
        obtain ⟨a', c', g1, sp⟩ := hc j hlt
        have spm := sp.max
        have spf := sp.fits
        unfold maxLen at spm
        have HE : Hid (upto rs (j + 1) = upto rs j + (rowA rs j).length) := rfl
        clear hc sp
        generalize (rowA rs j).length = m at *
        by_cases hz : z - m < 0
        · go_wp2_with (go_at_call 26; refine (szPts _ _ _ _ _ ⟨z0, z1⟩ (by omega)).mono ?_; rintro e w' ⟨rfl, rfl⟩; rw [if_pos hz])
          go_ret
          exact ⟨-1, rfl, .inl rfl, rfl⟩
        · have hz' : 0 ≤ z - m := by omega
          go_wp2_with (go_at_call 26; refine (szPts _ _ _ _ _ ⟨z0, z1⟩ (by omega)).mono ?_; rintro e w' ⟨rfl, rfl⟩; rw [if_neg hz])
          go_round
          case rel => exact ⟨j + 1, z - m, by omega, by go_num, rfl, hz', by omega, by have := he.out; have := HE.out; show _ = _; omega⟩
          case measure => simp [intOf]; omega
      · obtain rfl : j = rs.length := by omega
        have HE := he
        clear he
        go_wp2
        go_ret
        exact ⟨z, rfl, .inr ⟨z0, HE.out⟩, rfl⟩

set_option maxHeartbeats 1000000 in
theorem szShape_any (k : Int) (a : Option Addr) (c : Nat) (rs : List (List (Int × Int))) (left : Int) (w : World) (h : SeesS w a c rs) (hl : 0 ≤ left ∧ left ≤ 1048576) :
    Calls Try.prog 5 #[.agg #[.int .i64 k, .slice a rs.length c], .int .i64 left] w fun e w' => ∃ z : Int, e = .returned (.int .i64 z) ∧ (z = -1 ∨ (0 ≤ z ∧ z + (upto rs rs.length : Nat) = left)) ∧ Below w.heap.size w w' := by
  have bn := below1 w (.cells #[.int .i64 k, .slice a rs.length c] 24)
  go_enter Try.func5, Try.ntmps5
  go_wp2_with fail
  refine (szRows a c rs left _ (h.below bn) hl).mono ?_
  rintro e w1 ⟨z, rfl, hz, rfl⟩
  have HZ : Hid (z = -1 ∨ (0 ≤ z ∧ z + (upto rs rs.length : Nat) = left)) := hz
  by_cases h0 : z < 0
  · clear hz
    go_wp2
    go_ret
    exact ⟨-1, rfl, .inl rfl, bn⟩
  · have h0' : 0 ≤ z := by omega
    clear hz
    go_wp2
    go_ret
    exact ⟨z, rfl, HZ.out, bn⟩
end Go.Proofs.Ytgfpmhpjcadhjaa
