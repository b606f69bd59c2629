import Derived.Test.YtecjeomcbcpfiaaGreatBase
import Derived.Deep.RegionHeld3
import Derived.Test.YtecjeomcbcpfiaaGreatRing
import Derived.Test.YtecjeomcbcpfiaaGreatPtM
import Derived.Test.YtecjeomcbcpfiaaGreatPtG
/- The laws' helpers on lists of points: their sizes, their copies, whether two are equal. -/
namespace Go.Proofs.YtecjeomcbcpfiaaGreat
open Go.RowKit

theorem infoP : (Tryz.prog.info? 32).map (fun i => (i.zero, i.size, i.bytes)) = some (some (.agg #[.int .i64 0, .int .i64 0]), 2, 16) := by kernel_rfl

theorem szPts (a : Option Addr) (c n : Nat) (left : Int) (w : World) (hl : 0 ≤ left ∧ left ≤ 1048576) (hn : n ≤ 9223372036854775807) :
    Calls Tryz.prog 46 #[.slice a n c, .int .i64 left] w fun e w' => e = .returned (.int .i64 (if left - n < 0 then -1 else left - n)) ∧ w' = w := by
  obtain ⟨h1, h2⟩ := hl
  by_cases hc : left - n < 0
  · rw [if_pos hc]
    go_enter Tryz.func46, Tryz.ntmps46
    go_wp2
    go_ret
    exact ⟨rfl, rfl⟩
  · rw [if_neg hc]
    go_enter Tryz.func46, Tryz.ntmps46
    go_wp2
    go_ret
    exact ⟨rfl, rfl⟩

/-- A row of points that is being filled. -/
structure RowP (w : World) (g n j : Nat) (ps : List (Int × Int)) : Prop where
  c : ∀ i, i < j → w.cell? ⟨g, i * 2, none⟩ = some (.int .i64 (ps[i]?.getD (0, 0)).1) ∧ w.cell? ⟨g, i * 2 + 1, none⟩ = some (.int .i64 (ps[i]?.getD (0, 0)).2)
  u : ∀ i, j ≤ i → i < n → (∃ v, w.cell? ⟨g, i * 2, none⟩ = some v) ∧ ∃ v, w.cell? ⟨g, i * 2 + 1, none⟩ = some v
  fr : ∀ o, w.frozen? ⟨g, o, none⟩ = false
  lt : g < w.heap.size
theorem RowP.below {w w' : World} {g n j : Nat} {ps : List (Int × Int)} (h : RowP w g n j ps) (hb : Below w.heap.size w w') : RowP w' g n j ps := by
  obtain ⟨q, r⟩ := at_block hb h.lt
  exact ⟨fun i hi => ⟨(q _).trans (h.c i hi).1, (q _).trans (h.c i hi).2⟩, fun i h1 h2 => ⟨by obtain ⟨v, hv⟩ := (h.u i h1 h2).1; exact ⟨v, (q _).trans hv⟩, by obtain ⟨v, hv⟩ := (h.u i h1 h2).2; exact ⟨v, (q _).trans hv⟩⟩, fun o => (r o).trans (h.fr o), Nat.lt_of_lt_of_le h.lt hb.size⟩
theorem RowP.start {w : World} {base e g n : Nat} {xs : List Value} (ps : List (Int × Int)) (h : w.ownsRow base e 2 (.slice (some ⟨g, 0, none⟩) n n) n xs) : RowP w g n 0 ps := by
  obtain ⟨h1, h2⟩ := h
  rcases h2 with ⟨h2, _⟩ | ⟨g', cap', cur, hv, hb, hh, hc, hm, hs, ht⟩
  · cases h2
  simp only [Value.slice.injEq, Option.some.injEq, Addr.mk.injEq, and_true] at hv
  obtain ⟨rfl, _, rfl⟩ := hv
  have get : ∀ k, k < n * 2 → ∃ v, w.cell? ⟨g, k, none⟩ = some v := fun k hk => by
    rw [cell_of_row w g k cur e (0, 0) hh]
    exact ⟨cur[k]'(by omega), Array.getElem?_eq_getElem (by omega)⟩
  refine ⟨fun i hi => absurd hi (by omega), fun i _ hi => ⟨get _ (by omega), get _ (by omega)⟩, fun o => by simp [World.frozen?, hh], ?_⟩
  rcases Nat.lt_or_ge g w.heap.size with k | k
  · exact k
  · rw [Array.getElem?_eq_none k] at hh
    cases hh
theorem RowP.step {w : World} {g n j : Nat} {ps : List (Int × Int)} (h : RowP w g n j ps) (hj : j < n) {x y : Int} (hx : (ps[j]?.getD (0, 0)).1 = x) (hy : (ps[j]?.getD (0, 0)).2 = y) :
    RowP ((w.setCell ⟨g, j * 2, none⟩ (.int .i64 x)).setCell ⟨g, j * 2 + 1, none⟩ (.int .i64 y)) g n (j + 1) ps := by
  obtain ⟨⟨v0, h0⟩, ⟨v1, h1⟩⟩ := h.u j (Nat.le_refl _) hj
  have other : ∀ o, o ≠ j * 2 → o ≠ j * 2 + 1 → ((w.setCell ⟨g, j * 2, none⟩ (.int .i64 x)).setCell ⟨g, j * 2 + 1, none⟩ (.int .i64 y)).cell? ⟨g, o, none⟩ = w.cell? ⟨g, o, none⟩ := fun o e1 e2 =>
    (cell_other (.inr (Ne.symm e2)) _).trans (cell_other (.inr (Ne.symm e1)) _)
  refine ⟨fun i hi => ?_, fun i h2 h3 => ?_, fun o => ((World.frozen?_setCell ..).trans (World.frozen?_setCell ..)).trans (h.fr o), by simpa using h.lt⟩
  · by_cases e : i = j
    · subst e
      rw [hx, hy]
      exact ⟨(cell_other (.inr (by omega)) _).trans (cell_same h0 _), cell_same ((cell_other (.inr (by omega)) _).trans h1) _⟩
    · rw [other _ (by omega) (by omega), other _ (by omega) (by omega)]
      exact h.c i (by omega)
  · rw [other _ (by omega) (by omega), other _ (by omega) (by omega)]
    exact h.u i (by omega) h3

set_option maxHeartbeats 1000000 in
theorem toPts (a : Option Addr) (cap : Nat) (ps : List (Int × Int)) (w : World) (h : SeesP w a cap ps) (hs : ps.length ≤ 1048576) :
    Calls Tryz.prog 52 #[.slice a ps.length cap] w fun e w' => ∃ a' c', e = .returned (.slice a' ps.length c') ∧ SeesP w' a' c' ps ∧ Below w.heap.size w w' := by
  obtain ⟨i0, hi, hz0, hz1, hz2⟩ := info_parts infoP
  go_enter Tryz.func52, Tryz.ntmps52
  go_wp2_with (at_make; refine wpList_make_full _ rfl _ _ 73 rfl w.heap.size 32 i0 (.agg #[.int .i64 0, .int .i64 0]) 2 Tryz.underlying73 hi hz0 hz1 .i64 .i64 _ _ ps.length rfl rfl rfl rfl ?b2 ?b3 (Nat.le_refl _) ?_)
  case b2 => rw [hz2]; omega
  case b3 => unfold maxLen; omega
  intro w0 hown0 hgrow0
  have R := RowP.start ps hown0
  have hb0 : Below w.heap.size w w0 := (Below.refl _ _).grown hgrow0 (Nat.le_refl _) (fun k h => by cases h)
  have hm := h.max
  have hf := h.fits
  unfold maxLen at hm
  clear hown0 hgrow0 hi hz0 hz1 hz2
  go_wp2
  go_loopw [4] (fun i wr => ∃ j : Nat, j ≤ ps.length ∧ i = .int .i64 j ∧ RowP wr w.heap.size ps.length j ps ∧ Below w.heap.size w wr) (fun i _ => ps.length - (intOf i).toNat)
  case atStart => exact ⟨0, Nat.zero_le _, rfl, R, hb0⟩
  case round =>
    clear R hb0
    obtain ⟨j, hj, rfl, R, B⟩ := hrel
    by_cases hlt : j < ps.length
    · obtain ⟨b1, o1, rfl, hc⟩ := (h.below B).cells (by intro e; simp [e] at hlt)
      obtain ⟨g1, g2⟩ := hc j hlt
      obtain ⟨x, ux⟩ : ∃ x, Hid ((ps[j]?.getD (0, 0)).1 = x) := ⟨_, rfl⟩
      obtain ⟨y, uy⟩ : ∃ y, Hid ((ps[j]?.getD (0, 0)).2 = y) := ⟨_, rfl⟩
      rw [ux.out] at g1
      rw [uy.out] at g2
      clear hc
      go_wp2_with fail
      refine (toPt_any _ _ _).mono ?_
      rintro e w3 ⟨rfl, hb⟩
      replace R := R.below hb
      replace B := B.trans (hb.mono B.size)
      clear hb g1 g2
      obtain ⟨⟨v0, c0⟩, ⟨v1, c1⟩⟩ := R.u j (Nat.le_refl _) hlt
      have cf := R.fr
      replace R := R.step hlt ux.out uy.out
      replace B := (B.setCell (p := ⟨w.heap.size, j * 2, none⟩) (Nat.le_refl _) (.int .i64 x)).setCell (p := ⟨w.heap.size, j * 2 + 1, none⟩) (Nat.le_refl _) (.int .i64 y)
      go_wp2_with fail
      go_roundw
      case rel => exact ⟨j + 1, by omega, by go_num, R, B⟩
      case measure => simp [intOf]; omega
    · have hje : j = ps.length := by omega
      subst hje
      go_wp2
      go_ret
      refine ⟨_, _, rfl, ⟨Nat.le_refl _, by unfold maxLen; omega, fun _ => ⟨_, _, rfl, fun i hi => ?_⟩⟩, B⟩
      have := R.c i hi
      simpa only [Nat.zero_add] using this

set_option maxHeartbeats 1000000 in
theorem eqPts (a b : Option Addr) (c d : Nat) (ps : List (Int × Int)) (w : World) (h : SeesP w a c ps) (k : SeesP w b d ps) :
    Calls Tryz.prog 57 #[.slice a ps.length c, .slice b ps.length d] w fun e w' => e = .returned (.bool true) ∧ Below w.heap.size w w' := by
  have hm := h.max
  have hf := h.fits
  unfold maxLen at hm
  have hne : ((ps.length : Int) != (ps.length : Int)) = false := by simp
  go_enter Tryz.func57, Tryz.ntmps57
  go_wp2
  go_loopw [5] (fun i wr => ∃ j : Nat, j ≤ ps.length ∧ i = .int .i64 j ∧ Below w.heap.size w wr) (fun i _ => ps.length - (intOf i).toNat)
  case atStart => exact ⟨0, Nat.zero_le _, rfl, Below.refl _ _⟩
  case round =>
    obtain ⟨j, hj, rfl, B⟩ := hrel
    rename World => wr
    by_cases hlt : j < ps.length
    · obtain ⟨b1, o1, rfl, hc⟩ := (h.below B).cells (by intro e; simp [e] at hlt)
      obtain ⟨b2, o2, rfl, hd⟩ := (k.below B).cells (by intro e; simp [e] at hlt)
      obtain ⟨g1, g2⟩ := hc j hlt
      obtain ⟨g3, g4⟩ := hd j hlt
      generalize (ps[j]?.getD (0, 0)).1 = x at *
      generalize (ps[j]?.getD (0, 0)).2 = y at *
      clear hc hd
      go_wp2_with fail
      have k0 : wr.cell? ⟨b1, o1 + j * 2, none⟩ = some (.int .i64 x) ∧ wr.cell? ⟨b1, o1 + j * 2 + 1, none⟩ = some (.int .i64 y) ∧ wr.cell? ⟨b2, o2 + j * 2, none⟩ = some (.int .i64 x) ∧ wr.cell? ⟨b2, o2 + j * 2 + 1, none⟩ = some (.int .i64 y) := ⟨g1, g2, g3, g4⟩
      have B1 : Below wr.heap.size wr wr := Below.refl _ _
      go_region_held3 (fun w' => w'.cell? ⟨b1, o1 + j * 2, none⟩ = some (.int .i64 x) ∧ w'.cell? ⟨b1, o1 + j * 2 + 1, none⟩ = some (.int .i64 y) ∧ w'.cell? ⟨b2, o2 + j * 2, none⟩ = some (.int .i64 x) ∧ w'.cell? ⟨b2, o2 + j * 2 + 1, none⟩ = some (.int .i64 y))
        (first | exact k0 | exact ⟨bat B1 k0.1, bat B1 k0.2.1, bat B1 k0.2.2.1, bat B1 k0.2.2.2⟩)
        ((go_at_call 76; refine (eqPt_any _ _ _ _ _).mono ?_; rintro e w5 ⟨rfl, hb⟩; rw [eqP_refl]; replace B1 := B1.drew.trans (hb.mono B1.drew.size)))
      replace B := B.trans (B1.mono B.size)
      go_wp2_with fail
      go_roundw
      case rel => exact ⟨j + 1, by omega, by go_num, B⟩
      case measure => simp [intOf]; omega
    · go_wp2
      go_ret
      exact ⟨rfl, B⟩
end Go.Proofs.YtecjeomcbcpfiaaGreat

/- Whether an edge of a ring meets one of another one: of the specification (l5Touch). -/
namespace Go.Proofs.YtecjeomcbcpfiaaGreat
open Go.RowKit

/-- The edge at i of the one meets the edge at k of the other. -/
def mtE (ps qs : List (Int × Int)) (i k : Nat) : Bool := metI (ptA ps i).1 (ptA ps i).2 (ptA ps (nx ps.length i)).1 (ptA ps (nx ps.length i)).2 (ptA qs k).1 (ptA qs k).2 (ptA qs (nx qs.length k)).1 (ptA qs (nx qs.length k)).2
/-- .. some edge of the other. -/
def mtR (ps qs : List (Int × Int)) (i : Nat) : Nat → Bool
  | 0 => false
  | k + 1 => mtR ps qs i k || mtE ps qs i k
/-- Some of the first edges meets one of the other ring's. -/
def tch (ps qs : List (Int × Int)) : Nat → Bool
  | 0 => false
  | i + 1 => tch ps qs i || mtR ps qs i qs.length
theorem mtR_mono {ps qs : List (Int × Int)} {i : Nat} : ∀ {k m : Nat}, k ≤ m → mtR ps qs i k = true → mtR ps qs i m = true
  | k, 0, h, e => by obtain rfl : k = 0 := by omega
                     exact e
  | k, m + 1, h, e => by
    rcases Nat.lt_or_ge m k with c | c
    · obtain rfl : k = m + 1 := by omega
      exact e
    · simp only [mtR]
      rw [mtR_mono c e]
      rfl
theorem tch_mono {ps qs : List (Int × Int)} : ∀ {k m : Nat}, k ≤ m → tch ps qs k = true → tch ps qs m = true
  | k, 0, h, e => by obtain rfl : k = 0 := by omega
                     exact e
  | k, m + 1, h, e => by
    rcases Nat.lt_or_ge m k with c | c
    · obtain rfl : k = m + 1 := by omega
      exact e
    · simp only [tch]
      rw [tch_mono c e]
      rfl

set_option maxRecDepth 20000 in
set_option maxHeartbeats 1500000 in
theorem l5Touch_any (a b : Option Addr) (c d : Nat) (ps qs : List (Int × Int)) (w : World) (h : SeesP w a c ps) (k : SeesP w b d qs) (ok : okL ps = true) (oq : okL qs = true) :
    Calls Tryz.prog 80 #[.slice a ps.length c, .slice b qs.length d] w fun e w' => ∃ z : Int, e = .returned (.int .i64 z) ∧ Hid (decide (0 ≤ z) = tch ps qs ps.length ∧ -1 ≤ z ∧ z < ps.length + 1) ∧ Below w.heap.size w w' := by
  have hm := h.max
  have hf := h.fits
  unfold maxLen at hm
  have km := k.max
  have kf := k.fits
  unfold maxLen at km
  go_enter Tryz.func80, Tryz.ntmps80
  go_wp2
  go_loopw [5, 6, 7, 8, 9, 10] (fun s5 _ _ _ _ _ wr => ∃ j : Nat, j ≤ ps.length ∧ s5 = .int .i64 j ∧ Hid (tch ps qs j = false) ∧ Below w.heap.size w wr) (fun s5 _ _ _ _ _ _ => ps.length - (intOf s5).toNat)
  case atStart => exact ⟨0, Nat.zero_le _, rfl, rfl, Below.refl _ _⟩
  case round =>
    obtain ⟨j, hj, rfl, T, B⟩ := hrel
    rename World => wr
    by_cases hlt : j < ps.length
    · obtain ⟨a1, a2⟩ := okL_at ok hlt
      obtain ⟨a3, a4⟩ := okL_at ok (nx_lt hlt)
      go_wp2_with fail
      refine (l5Edge_any a c ps j _ (h.below B) hlt).mono ?_
      rintro e w1 ⟨rfl, hb⟩
      replace B := B.trans (hb.mono B.size)
      clear hb
      obtain ⟨x, hx⟩ : ∃ z, Hid ((ptA ps j).1 = z) := ⟨_, rfl⟩
      obtain ⟨y, hy⟩ : ∃ z, Hid ((ptA ps j).2 = z) := ⟨_, rfl⟩
      obtain ⟨u, hu⟩ : ∃ z, Hid ((ptA ps (nx ps.length j)).1 = z) := ⟨_, rfl⟩
      obtain ⟨v, hv⟩ : ∃ z, Hid ((ptA ps (nx ps.length j)).2 = z) := ⟨_, rfl⟩
      rw [hx.out, hy.out, hu.out, hv.out]
      rw [hx.out] at a1
      rw [hy.out] at a2
      rw [hu.out] at a3
      rw [hv.out] at a4
      have V1 := (Box2.new w1 (lo := w.heap.size) B.size (.int .i64 x) (.int .i64 y) 32).below (below1 _ (.cells #[.int .i64 u, .int .i64 v] 32))
      have V2 := Box2.new (w1.alloc (.cells #[.int .i64 x, .int .i64 y] 32)) (lo := w.heap.size) (by have := B.size; simp; omega) (.int .i64 u) (.int .i64 v) 32
      rw [World.size_alloc] at V2
      have bn := below2 w1 (.cells #[.int .i64 x, .int .i64 y] 32) (.cells #[.int .i64 u, .int .i64 v] 32)
      replace B := B.trans (bn.mono B.size)
      clear bn
      go_wp2_with fail
      generalize (w1.alloc (.cells #[.int .i64 x, .int .i64 y] 32)).alloc (.cells #[.int .i64 u, .int .i64 v] 32) = W1 at *
      generalize w1.heap.size = q1 at *
      go_loopw [8, 9, 10] (fun s8 _ _ wi => ∃ i : Nat, i ≤ qs.length ∧ s8 = .int .i64 i ∧ Hid (mtR ps qs j i = false) ∧ Below W1.heap.size W1 wi) (fun s8 _ _ _ => qs.length - (intOf s8).toNat)
      case atStart => exact ⟨0, Nat.zero_le _, rfl, rfl, Below.refl _ _⟩
      case round =>
        obtain ⟨i, hi, rfl, M, Bi⟩ := hrel
        rename World => wi
        by_cases hli : i < qs.length
        · obtain ⟨c1, c2⟩ := okL_at oq hli
          obtain ⟨c3, c4⟩ := okL_at oq (nx_lt hli)
          go_wp2_with fail
          refine (l5Edge_any b d qs i _ ((k.below B).below Bi) hli).mono ?_
          rintro e w2 ⟨rfl, hb⟩
          replace Bi := Bi.trans (hb.mono Bi.size)
          clear hb
          have E : Hid (mtE ps qs j i = metI x y u v (ptA qs i).1 (ptA qs i).2 (ptA qs (nx qs.length i)).1 (ptA qs (nx qs.length i)).2) := by
            show _ = _
            unfold mtE
            rw [hx.out, hy.out, hu.out, hv.out]
          generalize (ptA qs i).1 = x2 at *
          generalize (ptA qs i).2 = y2 at *
          generalize (ptA qs (nx qs.length i)).1 = u2 at *
          generalize (ptA qs (nx qs.length i)).2 = v2 at *
          have V3 := (Box2.new w2 (lo := w.heap.size) (Nat.le_trans B.size Bi.size) (.int .i64 x2) (.int .i64 y2) 32).below (below1 _ (.cells #[.int .i64 u2, .int .i64 v2] 32))
          have V4 := Box2.new (w2.alloc (.cells #[.int .i64 x2, .int .i64 y2] 32)) (lo := w.heap.size) (by have := Nat.le_trans B.size Bi.size; simp; omega) (.int .i64 u2) (.int .i64 v2) 32
          rw [World.size_alloc] at V4
          have bn := below2 w2 (.cells #[.int .i64 x2, .int .i64 y2] 32) (.cells #[.int .i64 u2, .int .i64 v2] 32)
          replace Bi := Bi.trans (bn.mono Bi.size)
          clear bn
          obtain ⟨g0, g1, _, _⟩ := V1.below Bi
          obtain ⟨g2, g3, _, _⟩ := V2.below Bi
          obtain ⟨g4, g5, _, _⟩ := id V3
          obtain ⟨g6, g7, _, _⟩ := id V4
          go_wp2_with fail
          generalize (w2.alloc (.cells #[.int .i64 x2, .int .i64 y2] 32)).alloc (.cells #[.int .i64 u2, .int .i64 v2] 32) = W2 at *
          refine (l3Meet_any x y u v x2 y2 u2 v2 _ a1 a2 a3 a4 c1 c2 c3 c4).mono ?_
          rintro e w3 ⟨rfl, hb⟩
          rw [← met_same]
          replace Bi := Bi.trans (hb.mono Bi.size)
          clear hb g0 g1 g2 g3 g4 g5 g6 g7 V3 V4
          cases hq : metI x y u v x2 y2 u2 v2
          · rw [hq] at E
            go_wp2
            go_roundw
            case rel => exact ⟨i + 1, by omega, by go_num, (by show _ = _; simp only [mtR]; rw [M.out, E.out]; rfl), Bi⟩
            case measure => simp [intOf]; omega
          · rw [hq] at E
            have R1 : mtR ps qs j (i + 1) = true := by simp only [mtR]; rw [E.out]; simp
            have R2 := mtR_mono (show i + 1 ≤ qs.length by omega) R1
            have R3 : tch ps qs (j + 1) = true := by simp only [tch]; rw [R2]; simp
            have R4 : Hid (decide (0 ≤ (j : Int)) = tch ps qs ps.length ∧ -1 ≤ (j : Int) ∧ (j : Int) < ps.length + 1) := ⟨by rw [tch_mono (show j + 1 ≤ ps.length by omega) R3]; simp, by omega, by omega⟩
            clear R1 R2 R3
            go_wp2
            go_ret
            exact ⟨_, rfl, R4, B.trans (Bi.mono B.size)⟩
        · obtain rfl : i = qs.length := by omega
          go_wp2
          go_roundw
          case rel => exact ⟨j + 1, by omega, by go_num, (by show _ = _; simp only [tch]; rw [T.out, M.out]; rfl), B.trans (Bi.mono B.size)⟩
          case measure => simp [intOf]; omega
    · obtain rfl : j = ps.length := by omega
      go_wp2
      go_ret
      exact ⟨-1, rfl, ⟨by rw [T.out]; rfl, by omega, by omega⟩, B⟩
end Go.Proofs.YtecjeomcbcpfiaaGreat

/- Where a point lies by a ring: of the specification (l5In). -/
namespace Go.Proofs.YtecjeomcbcpfiaaGreat
open Go.RowKit

/-- The point is on the edge at i. -/
def onE (ps : List (Int × Int)) (px py : Int) (i : Nat) : Bool := onB (ptA ps i).1 (ptA ps i).2 (ptA ps (nx ps.length i)).1 (ptA ps (nx ps.length i)).2 px py
def onR (ps : List (Int × Int)) (px py : Int) : Nat → Bool
  | 0 => false
  | i + 1 => onR ps px py i || onE ps px py i
def hsE (ps : List (Int × Int)) (px py : Int) (i : Nat) : Bool := hitS (ptA ps i).1 (ptA ps i).2 (ptA ps (nx ps.length i)).1 (ptA ps (nx ps.length i)).2 px py
/-- 1: on an edge; 2: in the ring; 0: outside. -/
def inV (ps : List (Int × Int)) (px py : Int) : Int := if onR ps px py ps.length then 1 else if par (hsE ps px py) ps.length then 2 else 0
theorem onR_mono {ps : List (Int × Int)} {px py : Int} : ∀ {k m : Nat}, k ≤ m → onR ps px py k = true → onR ps px py m = true
  | k, 0, h, e => by obtain rfl : k = 0 := by omega
                     exact e
  | k, m + 1, h, e => by
    rcases Nat.lt_or_ge m k with c | c
    · obtain rfl : k = m + 1 := by omega
      exact e
    · simp only [onR]
      rw [onR_mono c e]
      rfl
theorem hitS_val {ax ay bx bz px py : Int} {b1 b2 b3 b4 b5 b6 : Bool} (h1 : decide (py < ay) = b1) (h2 : decide (py < bz) = b2) (h3 : decide (ay < bz) = b3) (h4 : decide (0 < ar ax ay bx bz px py) = b4) (h5 : decide (bz < ay) = b5) (h6 : decide (ar ax ay bx bz px py < 0) = b6) : hitS ax ay bx bz px py = ((b1 != b2) && ((b3 && b4) || (b5 && b6))) := by unfold hitS; rw [h1, h2, h3, h4, h5, h6]

set_option maxRecDepth 20000 in
set_option maxHeartbeats 4000000 in
theorem l5In_any (a : Option Addr) (c : Nat) (ps : List (Int × Int)) (px py : Int) (w : World) (h : SeesP w a c ps) (ok : okL ps = true) (cx : Crd px) (cy : Crd py) :
    Calls Tryz.prog 65 #[.slice a ps.length c, .agg #[.int .i64 px, .int .i64 py]] w fun e w' => e = .returned (.int .i64 (inV ps px py)) ∧ Below w.heap.size w w' := by
  have hm := h.max
  have hf := h.fits
  unfold maxLen at hm
  have V0 := Box2.new w (lo := w.heap.size) (Nat.le_refl _) (.int .i64 px) (.int .i64 py) 32
  have B0 := below1 w (.cells #[.int .i64 px, .int .i64 py] 32)
  go_enter Tryz.func65, Tryz.ntmps65
  go_wp2
  generalize w.alloc (.cells #[.int .i64 px, .int .i64 py] 32) = W at *
  go_loopw [5, 6, 7, 8, 9] (fun s5 s6 _ _ _ wr => ∃ j : Nat, j ≤ ps.length ∧ s6 = .int .i64 j ∧ s5 = .bool (par (hsE ps px py) j) ∧ Hid (onR ps px py j = false) ∧ Below W.heap.size W wr) (fun _ s6 _ _ _ _ => ps.length - (intOf s6).toNat)
  case atStart => exact ⟨0, Nat.zero_le _, rfl, rfl, rfl, Below.refl _ _⟩
  case round =>
    obtain ⟨j, hj, rfl, rfl, T, B⟩ := hrel
    rename World => wr
    by_cases hlt : j < ps.length
    · obtain ⟨a1, a2⟩ := okL_at ok hlt
      obtain ⟨a3, a4⟩ := okL_at ok (nx_lt hlt)
      obtain ⟨od, Hod⟩ : ∃ b, Hid (par (hsE ps px py) j = b) := ⟨_, rfl⟩
      rw [Hod.out]
      go_wp2_with fail
      refine (l5Edge_any a c ps j _ ((h.below B0).below B) hlt).mono ?_
      rintro e w1 ⟨rfl, hb⟩
      replace B := B.trans (hb.mono B.size)
      clear hb
      have E1 : Hid (onE ps px py j = onB (ptA ps j).1 (ptA ps j).2 (ptA ps (nx ps.length j)).1 (ptA ps (nx ps.length j)).2 px py) := (rfl : onE ps px py j = _)
      have E2 : Hid (hsE ps px py j = hitS (ptA ps j).1 (ptA ps j).2 (ptA ps (nx ps.length j)).1 (ptA ps (nx ps.length j)).2 px py) := (rfl : hsE ps px py j = _)
      generalize (ptA ps j).1 = x at *
      generalize (ptA ps j).2 = y at *
      generalize (ptA ps (nx ps.length j)).1 = u at *
      generalize (ptA ps (nx ps.length j)).2 = v at *
      have V1 := (Box2.new w1 (lo := w.heap.size) (Nat.le_trans B0.size B.size) (.int .i64 x) (.int .i64 y) 32).below (below1 _ (.cells #[.int .i64 u, .int .i64 v] 32))
      have V2 := Box2.new (w1.alloc (.cells #[.int .i64 x, .int .i64 y] 32)) (lo := w.heap.size) (by have := Nat.le_trans B0.size B.size; simp; omega) (.int .i64 u) (.int .i64 v) 32
      rw [World.size_alloc] at V2
      have bn := below2 w1 (.cells #[.int .i64 x, .int .i64 y] 32) (.cells #[.int .i64 u, .int .i64 v] 32)
      replace B := B.trans (bn.mono B.size)
      clear bn
      obtain ⟨g0, g1, _, _⟩ := id V1
      obtain ⟨g2, g3, _, _⟩ := id V2
      obtain ⟨g4, g5, _, _⟩ := V0.below B
      go_wp2_with fail
      clear g0 g1 g2 g3 g4 g5
      generalize (w1.alloc (.cells #[.int .i64 x, .int .i64 y] 32)).alloc (.cells #[.int .i64 u, .int .i64 v] 32) = W1 at *
      generalize w1.heap.size = q1 at *
      refine (l3On_any x y u v px py _ a1 a2 a3 a4 cx cy).mono ?_
      rintro e w2 ⟨rfl, hb⟩
      replace B := B.trans (hb.mono B.size)
      replace V1 := V1.below hb
      replace V2 := V2.below hb
      clear hb
      cases ho : onB x y u v px py
      · rw [ho] at E1
        have T2 : Hid (onR ps px py (j + 1) = false) := by show _ = _; simp only [onR]; rw [T.out, E1.out]; rfl
        clear T E1
        obtain ⟨g0, g1, _, _⟩ := id V1
        obtain ⟨g2, g3, _, _⟩ := id V2
        obtain ⟨g4, g5, _, _⟩ := V0.below B
        cases h1 : decide (py < y) <;> cases h2 : decide (py < v)
        · have P : Hid (par (hsE ps px py) (j + 1) = od) := by show _ = _; simp only [par]; rw [Hod.out, E2.out, hitS_val h1 h2 rfl rfl rfl rfl]; simp
          go_wp2
          go_roundw
          case rel => exact ⟨j + 1, by omega, by go_num, by rw [P.out], T2, B⟩
          case measure => simp [intOf]; omega
        · go_wp2_with fail
          clear g0 g1 g2 g3 g4 g5
          refine (l3Area_any x y u v px py _ a1 a2 a3 a4 cx cy).mono ?_
          rintro e w3 ⟨rfl, hb⟩
          replace B := B.trans (hb.mono B.size)
          replace V1 := V1.below hb
          replace V2 := V2.below hb
          clear hb
          have P0 : Hid (par (hsE ps px py) (j + 1) = (od ^^ hitS x y u v px py)) := by show _ = _; simp only [par]; rw [Hod.out, E2.out]
          cases h3 : decide (y < v) <;> cases h4 : decide (0 < ar x y u v px py) <;> cases h5 : decide (v < y) <;> cases h6 : decide (ar x y u v px py < 0)
          all_goals
            have P := P0
            rw [hitS_val h1 h2 h3 h4 h5 h6] at P
            clear P0 E2 Hod
            obtain ⟨g0, g1, _, _⟩ := id V1
            obtain ⟨g2, g3, _, _⟩ := id V2
            obtain ⟨g4, g5, _, _⟩ := V0.below B
            go_wp2
            go_roundw
            case rel => exact ⟨j + 1, by omega, by go_num, by rw [P.out]; cases od <;> rfl, T2, B⟩
            case measure => simp [intOf]; omega
        · go_wp2_with fail
          clear g0 g1 g2 g3 g4 g5
          refine (l3Area_any x y u v px py _ a1 a2 a3 a4 cx cy).mono ?_
          rintro e w3 ⟨rfl, hb⟩
          replace B := B.trans (hb.mono B.size)
          replace V1 := V1.below hb
          replace V2 := V2.below hb
          clear hb
          have P0 : Hid (par (hsE ps px py) (j + 1) = (od ^^ hitS x y u v px py)) := by show _ = _; simp only [par]; rw [Hod.out, E2.out]
          cases h3 : decide (y < v) <;> cases h4 : decide (0 < ar x y u v px py) <;> cases h5 : decide (v < y) <;> cases h6 : decide (ar x y u v px py < 0)
          all_goals
            have P := P0
            rw [hitS_val h1 h2 h3 h4 h5 h6] at P
            clear P0 E2 Hod
            obtain ⟨g0, g1, _, _⟩ := id V1
            obtain ⟨g2, g3, _, _⟩ := id V2
            obtain ⟨g4, g5, _, _⟩ := V0.below B
            go_wp2
            go_roundw
            case rel => exact ⟨j + 1, by omega, by go_num, by rw [P.out]; cases od <;> rfl, T2, B⟩
            case measure => simp [intOf]; omega
        · have P : Hid (par (hsE ps px py) (j + 1) = od) := by show _ = _; simp only [par]; rw [Hod.out, E2.out, hitS_val h1 h2 rfl rfl rfl rfl]; simp
          go_wp2
          go_roundw
          case rel => exact ⟨j + 1, by omega, by go_num, by rw [P.out], T2, B⟩
          case measure => simp [intOf]; omega
      · rw [ho] at E1
        have R : onR ps px py (j + 1) = true := by simp only [onR]; rw [E1.out]; simp
        have Z : Hid (inV ps px py = 1) := by show _ = _; unfold inV; rw [onR_mono (show j + 1 ≤ ps.length by omega) R]; rfl
        clear R
        go_wp2
        go_ret
        exact ⟨by rw [Z.out] <;> rfl, B0.trans (B.mono B0.size)⟩
    · obtain rfl : j = ps.length := by omega
      cases hp : par (hsE ps px py) ps.length
      · have Z : Hid (inV ps px py = 0) := by show _ = _; unfold inV; rw [T.out, hp]; rfl
        go_wp2
        go_ret
        exact ⟨by rw [Z.out] <;> rfl, B0.trans (B.mono B0.size)⟩
      · have Z : Hid (inV ps px py = 2) := by show _ = _; unfold inV; rw [T.out, hp]; rfl
        go_wp2
        go_ret
        exact ⟨by rw [Z.out] <;> rfl, B0.trans (B.mono B0.size)⟩
end Go.Proofs.YtecjeomcbcpfiaaGreat

/- Rings that do not touch: which one lies in the other. Mathematics. -/
namespace Go.Proofs.YtecjeomcbcpfiaaGreat

/-- An odd number of a ring's edges lies to the right of a point. -/
def parR (ps : List (Int × Int)) (p : Int × Int) : Bool := par (hsE ps p.1 p.2) ps.length
/-- No edge of the ring meets the segment. -/
def freeR (ps : List (Int × Int)) (u v : Int × Int) : Prop := ∀ i, i < ps.length → ¬ MT (ptA ps i).1 (ptA ps i).2 (ptA ps (nx ps.length i)).1 (ptA ps (nx ps.length i)).2 u.1 u.2 v.1 v.2
/-- The point is on the edge at i. -/
def onI (ps : List (Int × Int)) (i : Nat) (p : Int × Int) : Prop := ON (ptA ps i).1 (ptA ps i).2 (ptA ps (nx ps.length i)).1 (ptA ps (nx ps.length i)).2 p.1 p.2
/-- No edges of two rings meet. -/
def apartR (ps qs : List (Int × Int)) : Prop := ∀ i, i < ps.length → freeR qs (ptA ps i) (ptA ps (nx ps.length i))
theorem apartR.comm {ps qs : List (Int × Int)} (h : apartR ps qs) : apartR qs ps := fun k hk i hi m => h i hi k hk m.other
theorem parR_along {ps : List (Int × Int)} {u v : Int × Int} (h0 : 0 < ps.length) (h : freeR ps u v) : parR ps u = parR ps v := by
  unfold parR
  refine par_along (X := fun i => (ptA ps i).1) (Y := fun i => (ptA ps i).2) h0 (fun i hi => ?_)
  cases e : metI (ptA ps i).1 (ptA ps i).2 (ptA ps ((i + 1) % ps.length)).1 (ptA ps ((i + 1) % ps.length)).2 u.1 u.2 v.1 v.2
  · rfl
  · exact absurd (metI_iff.1 e) (h i hi)

/-- The coordinates of a point on a segment lie between its ends'. -/
theorem between_of {a b x : Int} (h : (a - x) * (b - x) ≤ 0) : min a b ≤ x ∧ x ≤ max a b := by
  have := btw_iff.1 (btw_mul.2 h)
  omega
/-- Two segments that have a point together meet. -/
theorem MT_common {ax ay bx bz cx cy dx dy rx ry : Int} (h : ON ax ay bx bz rx ry) (k : ON cx cy dx dy rx ry) : MT ax ay bx bz cx cy dx dy := by
  obtain ⟨h1, h2, h3⟩ := h
  obtain ⟨k1, k2, k3⟩ := k
  have g1 := between_of h2
  have g2 := between_of h3
  have g3 := between_of k2
  have g4 := between_of k3
  refine ⟨by unfold RG; omega, by unfold RG; omega, ?_, ?_⟩
  · have := onSides (ux := cx - rx) (uy := cy - ry) (vx := dx - rx) (vy := dy - ry) (wx := bx - ax) (wy := bz - ay) (by unfold ar at k1; grind) k2 k3
    have e1 : ar ax ay bx bz cx cy = (bx - ax) * (cy - ry) - (bz - ay) * (cx - rx) := by unfold ar at h1 ⊢; grind
    have e2 : ar ax ay bx bz dx dy = (bx - ax) * (dy - ry) - (bz - ay) * (dx - rx) := by unfold ar at h1 ⊢; grind
    rw [e1, e2]
    exact this
  · have := onSides (ux := ax - rx) (uy := ay - ry) (vx := bx - rx) (vy := bz - ry) (wx := dx - cx) (wy := dy - cy) (by unfold ar at h1; grind) h2 h3
    have e1 : ar cx cy dx dy ax ay = (dx - cx) * (ay - ry) - (dy - cy) * (ax - rx) := by unfold ar at k1 ⊢; grind
    have e2 : ar cx cy dx dy bx bz = (dx - cx) * (bz - ry) - (dy - cy) * (bx - rx) := by unfold ar at k1 ⊢; grind
    rw [e1, e2]
    exact this

/-- What meets a part of a segment meets the segment. -/
theorem MT_part {ax ay bx bz cx cy dx dy rx ry : Int} (hr : ON cx cy dx dy rx ry) (h : MT ax ay bx bz cx cy rx ry) : MT ax ay bx bz cx cy dx dy := by
  by_cases hc : rx = cx ∧ ry = cy
  · obtain ⟨rfl, rfl⟩ := hc
    have := metI_iff.2 h
    rw [met_point] at this
    exact MT_of_on dx dy (onB_iff.1 this)
  · obtain ⟨h1, h2, h3, h4⟩ := h
    obtain ⟨k1, k2, k3⟩ := hr
    have g3 := between_of k2
    have g4 := between_of k3
    unfold RG at h1 h2
    -- by the coordinate in which the segment is not one point
    have key : ∃ s L : Int, 0 < s ∧ s ≤ L ∧ (∀ zx zy : Int, L * ar cx cy rx ry zx zy = s * ar cx cy dx dy zx zy) ∧ L * ar ax ay bx bz rx ry = (L - s) * ar ax ay bx bz cx cy + s * ar ax ay bx bz dx dy := by
      by_cases hx : rx = cx
      · have hy : ry ≠ cy := fun e => hc ⟨hx, e⟩
        rcases Int.lt_or_le cy ry with c | c
        · refine ⟨ry - cy, dy - cy, by omega, by omega, fun zx zy => ?_, ?_⟩ <;> unfold ar at k1 ⊢ <;> grind
        · refine ⟨cy - ry, cy - dy, by omega, by omega, fun zx zy => ?_, ?_⟩ <;> unfold ar at k1 ⊢ <;> grind
      · rcases Int.lt_or_le cx rx with c | c
        · refine ⟨rx - cx, dx - cx, by omega, by omega, fun zx zy => ?_, ?_⟩ <;> unfold ar at k1 ⊢ <;> grind
        · refine ⟨cx - rx, cx - dx, by omega, by omega, fun zx zy => ?_, ?_⟩ <;> unfold ar at k1 ⊢ <;> grind
    obtain ⟨s, L, s0, sL, e1, e2⟩ := key
    have L0 : 0 < L := by omega
    refine ⟨by unfold RG; omega, by unfold RG; omega, ?_, ?_⟩
    · generalize ar ax ay bx bz cx cy = A at *
      generalize ar ax ay bx bz dx dy = B at *
      generalize ar ax ay bx bz rx ry = C at *
      rcases Int.lt_or_le 0 (A * B) with c | c
      · exfalso
        rcases Int.lt_trichotomy A 0 with a | a | a
        · have b : B < 0 := by
            rcases Int.lt_or_le B 0 with z | z
            · exact z
            · have := Int.mul_nonneg (show 0 ≤ -A by omega) z
              rw [Int.neg_mul] at this
              omega
          have q1 := Int.mul_nonneg (show 0 ≤ L - s by omega) (show 0 ≤ -A by omega)
          have q2 := Int.mul_pos s0 (show 0 < -B by omega)
          rw [Int.mul_neg] at q1 q2
          have c0 : C < 0 := (neg_mul_iff L0).1 (by omega)
          have := Int.mul_pos (show 0 < -A by omega) (show 0 < -C by omega)
          rw [Int.neg_mul_neg] at this
          omega
        · rw [a, Int.zero_mul] at c
          omega
        · have b : 0 < B := (pos_mul_iff a).1 c
          have q1 := Int.mul_nonneg (show 0 ≤ L - s by omega) (show 0 ≤ A by omega)
          have q2 := Int.mul_pos s0 b
          have c0 : 0 < C := (pos_mul_iff L0).1 (by omega)
          have := Int.mul_pos a c0
          omega
      · exact c
    · have f1 := e1 ax ay
      have f2 := e1 bx bz
      generalize ar cx cy dx dy ax ay = A at *
      generalize ar cx cy dx dy bx bz = B at *
      generalize ar cx cy rx ry ax ay = A' at *
      generalize ar cx cy rx ry bx bz = B' at *
      have e3 : (L * L) * (A' * B') = (s * s) * (A * B) := by
        have : (L * A') * (L * B') = (s * A) * (s * B) := by rw [f1, f2]
        grind
      rcases Int.lt_or_le 0 (A * B) with c | c
      · exfalso
        have q1 := Int.mul_pos (Int.mul_pos s0 s0) c
        have q2 := Int.mul_nonneg (Int.le_of_lt (Int.mul_pos L0 L0)) (show 0 ≤ -(A' * B') by omega)
        rw [Int.mul_neg] at q2
        omega
      · exact c
theorem freeR_part {ps : List (Int × Int)} {c d r : Int × Int} (h : freeR ps c d) (hr : ON c.1 c.2 d.1 d.2 r.1 r.2) : freeR ps c r := fun i hi m => h i hi (MT_part hr m)

/-- Along a ring that another one does not touch, the other one counts the same at each corner. -/
theorem parR_corner {ps qs : List (Int × Int)} (hq : 0 < qs.length) (h : apartR ps qs) : ∀ i, i < ps.length → parR qs (ptA ps i) = parR qs (ptA ps 0)
  | 0, _ => rfl
  | i + 1, hi => by
    have e := parR_along hq (h i (by omega))
    rw [show nx ps.length i = i + 1 by unfold nx; exact Nat.mod_eq_of_lt hi] at e
    rw [← e]
    exact parR_corner hq h i (by omega)
/-- .. and at each point of its edges. -/
theorem parR_edge {ps qs : List (Int × Int)} (hq : 0 < qs.length) (h : apartR ps qs) {i : Nat} (hi : i < ps.length) {r : Int × Int} (hr : onI ps i r) : parR qs r = parR qs (ptA ps 0) := by
  rw [← parR_corner hq h i hi]
  exact (parR_along hq (freeR_part (h i hi) hr)).symm

/-- To the right of all corners nothing is counted. -/
theorem parR_far {ps : List (Int × Int)} {p : Int × Int} (h : ∀ i, i < ps.length → (ptA ps i).1 ≤ p.1) : parR ps p = false := by
  have hz : ∀ i, i < ps.length → hsE ps p.1 p.2 i = false := by
    intro i hi
    have h1 := h i hi
    have h2 := h (nx ps.length i) (nx_lt hi)
    unfold hsE
    generalize (ptA ps i).1 = ax at *
    generalize (ptA ps i).2 = ay at *
    generalize (ptA ps (nx ps.length i)).1 = bx at *
    generalize (ptA ps (nx ps.length i)).2 = bz at *
    cases e : hitS ax ay bx bz p.1 p.2
    · rfl
    · exfalso
      have e1 : ar ax ay bx bz p.1 p.2 = (bx - p.1) * (p.2 - ay) + (p.1 - ax) * (p.2 - bz) := by unfold ar; grind
      unfold hitS at e
      simp only [Bool.and_eq_true, Bool.or_eq_true, decide_eq_true_eq, bne_iff_ne, ne_eq, decide_eq_decide] at e
      rcases e.2 with ⟨q1, q2⟩ | ⟨q1, q2⟩
      · have r1 : ay ≤ p.2 ∧ p.2 < bz := by omega
        have m1 := Int.mul_nonneg (show 0 ≤ p.1 - bx by omega) (show 0 ≤ p.2 - ay by omega)
        have m2 := Int.mul_nonneg (show 0 ≤ p.1 - ax by omega) (show 0 ≤ bz - p.2 by omega)
        have e2 : (bx - p.1) * (p.2 - ay) = -((p.1 - bx) * (p.2 - ay)) := by grind
        have e3 : (p.1 - ax) * (p.2 - bz) = -((p.1 - ax) * (bz - p.2)) := by grind
        omega
      · have r1 : bz ≤ p.2 ∧ p.2 < ay := by omega
        have m1 := Int.mul_nonneg (show 0 ≤ p.1 - bx by omega) (show 0 ≤ ay - p.2 by omega)
        have m2 := Int.mul_nonneg (show 0 ≤ p.1 - ax by omega) (show 0 ≤ p.2 - bz by omega)
        have e2 : (bx - p.1) * (p.2 - ay) = (p.1 - bx) * (ay - p.2) := by grind
        omega
  unfold parR
  rw [par_congr (g := fun _ => false) ps.length hz]
  have : ∀ k, par (fun _ => false) k = false := by
    intro k
    induction k with
    | zero => rfl
    | succ k ih => simp only [par]; rw [ih]; rfl
  exact this _
/-- A corner that is farthest to the right. -/
theorem far_corner : ∀ (ps : List (Int × Int)) (n : Nat), 0 < n → ∃ m, m < n ∧ ∀ i, i < n → (ptA ps i).1 ≤ (ptA ps m).1
  | ps, 1, _ => ⟨0, by omega, fun i hi => by obtain rfl : i = 0 := by omega
                                             exact Int.le_refl _⟩
  | ps, n + 2, _ => by
    obtain ⟨m, hm, h⟩ := far_corner ps (n + 1) (by omega)
    rcases Int.le_total (ptA ps (n + 1)).1 (ptA ps m).1 with c | c
    · exact ⟨m, by omega, fun i hi => by
        rcases Nat.lt_or_ge i (n + 1) with q | q
        · exact h i q
        · obtain rfl : i = n + 1 := by omega
          exact c⟩
    · exact ⟨n + 1, by omega, fun i hi => by
        rcases Nat.lt_or_ge i (n + 1) with q | q
        · exact Int.le_trans (h i q) c
        · obtain rfl : i = n + 1 := by omega
          exact Int.le_refl _⟩
/-- A ring in another one has none of the other one's corners in it. -/
theorem outer_out {o h : List (Int × Int)} (ho : 0 < o.length) (hh : 0 < h.length) (a : apartR h o) (hin : parR o (ptA h 0) = true) : parR h (ptA o 0) = false := by
  obtain ⟨m, hm, far⟩ := far_corner o o.length ho
  have e : parR h (ptA o m) = false := by
    refine parR_far (fun i hi => ?_)
    rcases Int.lt_or_le (ptA o m).1 (ptA h i).1 with c | c
    · exfalso
      have q : parR o (ptA h i) = false := parR_far (fun k hk => Int.le_trans (far k hk) (by omega))
      rw [parR_corner ho a i hi, hin] at q
      cases q
    · exact c
  rw [← parR_corner hh a.comm m hm]
  exact e
end Go.Proofs.YtecjeomcbcpfiaaGreat

/- A point in a hole is in the first ring, and in no other hole. Mathematics. -/
namespace Go.Proofs.YtecjeomcbcpfiaaGreat

/-- A ring whose coordinates are multiplied. -/
def sc (D : Int) (ps : List (Int × Int)) : List (Int × Int) := ps.map fun p => (D * p.1, D * p.2)
theorem sc_len (D : Int) (ps : List (Int × Int)) : (sc D ps).length = ps.length := by simp [sc]
theorem sc_at (D : Int) (ps : List (Int × Int)) (i : Nat) : ptA (sc D ps) i = (D * (ptA ps i).1, D * (ptA ps i).2) := by
  unfold ptA sc
  rw [List.getElem?_map]
  cases ps[i]? with
  | none => simp
  | some p => rfl
theorem ar_sc (D ax ay bx bz px py : Int) : ar (D * ax) (D * ay) (D * bx) (D * bz) (D * px) (D * py) = (D * D) * ar ax ay bx bz px py := by unfold ar; grind
theorem lt_sc {D a b : Int} (h : 0 < D) : D * a < D * b ↔ a < b := by
  have := pos_mul_iff (a := D) (b := b - a) h
  rw [Int.mul_sub] at this
  omega
theorem le_sc {D a b : Int} (h : 0 < D) : D * a ≤ D * b ↔ a ≤ b := by
  have := lt_sc (a := b) (b := a) h
  omega
theorem hitS_sc {D : Int} (h : 0 < D) (ax ay bx bz px py : Int) : hitS (D * ax) (D * ay) (D * bx) (D * bz) (D * px) (D * py) = hitS ax ay bx bz px py := by
  unfold hitS
  have hd := Int.mul_pos h h
  have e : D * D * ar ax ay bx bz px py < 0 ↔ ar ax ay bx bz px py < 0 := neg_mul_iff hd
  have e' : 0 < D * D * ar ax ay bx bz px py ↔ 0 < ar ax ay bx bz px py := pos_mul_iff hd
  rw [ar_sc]
  simp only [lt_sc h, e, e']
theorem parR_sc {D : Int} (h : 0 < D) (ps : List (Int × Int)) (p : Int × Int) : parR (sc D ps) (D * p.1, D * p.2) = parR ps p := by
  unfold parR
  rw [sc_len]
  apply par_congr
  intro i _
  unfold hsE
  rw [sc_len, sc_at, sc_at]
  exact hitS_sc h _ _ _ _ _ _
theorem min_sc {D a b : Int} (h : 0 < D) : min (D * a) (D * b) = D * min a b := by
  rcases Int.le_total a b with c | c
  · rw [Int.min_eq_left c, Int.min_eq_left ((le_sc h).2 c)]
  · rw [Int.min_eq_right c, Int.min_eq_right ((le_sc h).2 c)]
theorem max_sc {D a b : Int} (h : 0 < D) : max (D * a) (D * b) = D * max a b := by
  rcases Int.le_total a b with c | c
  · rw [Int.max_eq_right c, Int.max_eq_right ((le_sc h).2 c)]
  · rw [Int.max_eq_left c, Int.max_eq_left ((le_sc h).2 c)]
theorem mul_le_sc {D A B : Int} (h : 0 < D) : (D * D * A) * (D * D * B) ≤ 0 ↔ A * B ≤ 0 := by
  have hd := Int.mul_pos (Int.mul_pos h h) (Int.mul_pos h h)
  have e : (D * D * A) * (D * D * B) = (D * D) * (D * D) * (A * B) := by grind
  have := pos_mul_iff (a := (D * D) * (D * D)) (b := A * B) hd
  rw [e]
  omega
theorem MT_sc {D : Int} (h : 0 < D) {ax ay bx bz cx cy dx dy : Int} (m : MT (D * ax) (D * ay) (D * bx) (D * bz) (D * cx) (D * cy) (D * dx) (D * dy)) : MT ax ay bx bz cx cy dx dy := by
  obtain ⟨h1, h2, h3, h4⟩ := m
  unfold RG at h1 h2
  rw [min_sc h, min_sc h, max_sc h, max_sc h, le_sc h, le_sc h] at h1 h2
  rw [ar_sc, ar_sc, mul_le_sc h] at h3 h4
  exact ⟨h1, h2, h3, h4⟩
theorem ON_sc {D : Int} (h : 0 < D) {ax ay bx bz px py : Int} (m : ON (D * ax) (D * ay) (D * bx) (D * bz) (D * px) (D * py)) : ON ax ay bx bz px py := by
  have := MT_sc h (MT_of_on (D * px) (D * py) m)
  have e := metI_iff.2 this
  rw [met_point] at e
  exact onB_iff.1 e
theorem apartR_sc {D : Int} (h : 0 < D) {ps qs : List (Int × Int)} (a : apartR ps qs) : apartR (sc D ps) (sc D qs) := by
  intro i hi k hk m
  rw [sc_len] at hi hk
  rw [sc_len, sc_len, sc_at, sc_at, sc_at, sc_at] at m
  exact a i hi k hk (MT_sc h m)
theorem onI_sc {D : Int} (h : 0 < D) {ps : List (Int × Int)} {i : Nat} {p : Int × Int} (m : onI (sc D ps) i (D * p.1, D * p.2)) : onI ps i p := by
  unfold onI at m
  rw [sc_len, sc_at, sc_at] at m
  exact ON_sc h m

/-- Where an edge meets a height, there is a point of whole numbers. -/
def Fine (y : Int) (ps : List (Int × Int)) : Prop := ∀ i, i < ps.length → (ptA ps (nx ps.length i)).2 ≠ (ptA ps i).2 → ((ptA ps (nx ps.length i)).2 - (ptA ps i).2) ∣ ((ptA ps (nx ps.length i)).1 - (ptA ps i).1) * (y - (ptA ps i).2)
/-- How far an edge goes up or down; 1 where it does not. -/
def hgt (ps : List (Int × Int)) (i : Nat) : Int := if (ptA ps (nx ps.length i)).2 = (ptA ps i).2 then 1 else (((ptA ps (nx ps.length i)).2 - (ptA ps i).2).natAbs : Int)
def hgts (ps : List (Int × Int)) : Nat → Int
  | 0 => 1
  | i + 1 => hgts ps i * hgt ps i
theorem hgts_pos (ps : List (Int × Int)) : ∀ i, 0 < hgts ps i
  | 0 => by simp [hgts]
  | i + 1 => by
    have h1 := hgts_pos ps i
    have h2 : 0 < hgt ps i := by
      unfold hgt
      split
      · omega
      · omega
    exact Int.mul_pos h1 h2
theorem hgts_dvd (ps : List (Int × Int)) : ∀ {k i : Nat}, i < k → hgt ps i ∣ hgts ps k
  | 0, i, h => absurd h (by omega)
  | k + 1, i, h => by
    simp only [hgts]
    rcases Nat.lt_or_ge i k with c | c
    · exact Int.dvd_trans (hgts_dvd ps c) (Int.dvd_mul_right _ _)
    · obtain rfl : i = k := by omega
      exact Int.dvd_mul_left _ _
theorem fine_sc {D y : Int} {ps : List (Int × Int)} (h : ∀ i, i < ps.length → hgt ps i ∣ D) : Fine (D * y) (sc D ps) := by
  intro i hi hne
  rw [sc_len] at hi
  rw [sc_len, sc_at, sc_at] at hne ⊢
  dsimp only at hne ⊢
  have hg := h i hi
  have hne' : (ptA ps (nx ps.length i)).2 ≠ (ptA ps i).2 := fun e => hne (by rw [e])
  unfold hgt at hg
  rw [if_neg hne'] at hg
  have hg2 : ((ptA ps (nx ps.length i)).2 - (ptA ps i).2) ∣ D := Int.natAbs_dvd.1 hg
  obtain ⟨k, hk⟩ := hg2
  generalize (ptA ps (nx ps.length i)).2 = bz at *
  generalize (ptA ps i).2 = ay at *
  generalize (ptA ps (nx ps.length i)).1 = bx at *
  generalize (ptA ps i).1 = ax at *
  refine ⟨(bx - ax) * k * (y - ay), ?_⟩
  have e1 : D * bz - D * ay = D * (bz - ay) := by grind
  have e2 : (D * bx - D * ax) * (D * y - D * ay) = D * (bx - ax) * (D * (y - ay)) := by grind
  rw [e1, e2]
  have e3 : D * (y - ay) = (bz - ay) * k * (y - ay) := by rw [← hk]
  rw [e3]
  grind
/-- An edge that meets a level segment has a point of whole numbers on it. -/
theorem level_point {ax ay bx bz y ux vx : Int} (f : bz ≠ ay → (bz - ay) ∣ (bx - ax) * (y - ay)) (huv : ux ≤ vx) (m : MT ax ay bx bz ux y vx y) : ∃ x, ux ≤ x ∧ x ≤ vx ∧ ON ax ay bx bz x y := by
  obtain ⟨h1, h2, h3, h4⟩ := m
  unfold RG at h1 h2
  by_cases hb : bz = ay
  · subst hb
    have hy : bz = y := by omega
    subst hy
    have hmm : min ax bx ≤ max ax bx := by omega
    refine ⟨max (min ax bx) ux, by omega, by omega, ?_, ?_, ?_⟩
    · unfold ar
      simp
    · exact btw_mul.1 (btw_iff.2 (by omega))
    · simp
  · obtain ⟨k, hk⟩ := f hb
    have e : ∀ z, ar ax ay bx bz z y = (bz - ay) * (ax + k - z) := by
      intro z
      unfold ar
      rw [hk]
      grind
    have on0 : ar ax ay bx bz (ax + k) y = 0 := by rw [e]; simp
    have hon : ON ax ay bx bz (ax + k) y := by
      rcases Int.lt_or_le ay bz with c | c
      · exact on_line on0 (by omega) (by omega) c
      · have on1 : ar bx bz ax ay (ax + k) y = 0 := by rw [ar_swap, on0]; rfl
        obtain ⟨g1, g2, g3⟩ := on_line on1 (by omega) (by omega) (show bz < ay by omega)
        exact ⟨on0, by rw [Int.mul_comm]; exact g2, by rw [Int.mul_comm]; exact g3⟩
    rw [e, e] at h3
    have hp : 0 < (bz - ay) * (bz - ay) := sq_pos (by omega)
    have e5 : (bz - ay) * (ax + k - ux) * ((bz - ay) * (ax + k - vx)) = (bz - ay) * (bz - ay) * ((ax + k - ux) * (ax + k - vx)) := by grind
    have h5 : (ax + k - ux) * (ax + k - vx) ≤ 0 := by
      have := pos_mul_iff (a := (bz - ay) * (bz - ay)) (b := (ax + k - ux) * (ax + k - vx)) hp
      omega
    have h6 : (ux - (ax + k)) * (vx - (ax + k)) ≤ 0 := by
      have e6 : (ux - (ax + k)) * (vx - (ax + k)) = (ax + k - ux) * (ax + k - vx) := by grind
      omega
    have h7 := between_of h6
    exact ⟨ax + k, by omega, by omega, hon⟩
theorem first_of {S : Nat → Prop} (h : ∃ d, S d) : ∃ d, S d ∧ ∀ d', d' < d → ¬ S d' := by
  obtain ⟨d, hd⟩ := h
  induction d using Nat.strongRecOn with
  | ind d ih =>
    rcases Classical.em (∃ d', d' < d ∧ S d') with ⟨d', h1, h2⟩ | c
    · exact ih d' h1 h2
    · exact ⟨d, hd, fun d' h1 h2 => c ⟨d', h1, h2⟩⟩
/-- The first point to the right that is on an edge of one of two rings that do not touch. -/
theorem nearest {ps qs : List (Int × Int)} {p : Int × Int} (h0 : 0 < ps.length) (fp : Fine p.2 ps) (fq : Fine p.2 qs) (a : apartR ps qs) (hp : parR ps p = true) :
    (∃ i r, i < ps.length ∧ onI ps i r ∧ freeR qs p r) ∨ (∃ k r, k < qs.length ∧ onI qs k r ∧ freeR ps p r) := by
  -- something of the first ring is there
  have hex : ∃ d : Nat, (∃ i, i < ps.length ∧ onI ps i (p.1 + d, p.2)) ∨ (∃ k, k < qs.length ∧ onI qs k (p.1 + d, p.2)) := by
    obtain ⟨m, hm, far⟩ := far_corner ps ps.length h0
    have hM : ∃ M, p.1 ≤ M ∧ (ptA ps m).1 ≤ M := ⟨max p.1 (ptA ps m).1, by omega, by omega⟩
    obtain ⟨M, M1, M2⟩ := hM
    have hf : parR ps (M, p.2) = false := parR_far (fun i hi => Int.le_trans (far i hi) M2)
    have hn : ¬ freeR ps p (M, p.2) := fun q => by
      rw [parR_along h0 q, hf] at hp
      cases hp
    have hs : ∃ i, i < ps.length ∧ MT (ptA ps i).1 (ptA ps i).2 (ptA ps (nx ps.length i)).1 (ptA ps (nx ps.length i)).2 p.1 p.2 M p.2 := by
      rcases Classical.em (∃ i, i < ps.length ∧ MT (ptA ps i).1 (ptA ps i).2 (ptA ps (nx ps.length i)).1 (ptA ps (nx ps.length i)).2 p.1 p.2 M p.2) with c | c
      · exact c
      · exact absurd (fun i hi m => c ⟨i, hi, m⟩) hn
    obtain ⟨i, hi, mt⟩ := hs
    obtain ⟨x, x1, x2, on⟩ := level_point (fp i hi) M1 mt
    refine ⟨(x - p.1).toNat, .inl ⟨i, hi, ?_⟩⟩
    rw [show p.1 + ((x - p.1).toNat : Int) = x by omega]
    exact on
  obtain ⟨d, hd, first⟩ := first_of hex
  have hle : p.1 ≤ p.1 + (d : Int) := by omega
  rcases hd with ⟨i, hi, on⟩ | ⟨k, hk, on⟩
  · refine .inl ⟨i, (p.1 + d, p.2), hi, on, fun k hk mt => ?_⟩
    obtain ⟨x, x1, x2, on2⟩ := level_point (fq k hk) hle mt
    have hd' : ¬ (x - p.1).toNat < d := fun q => first _ q (.inr ⟨k, hk, by rw [show p.1 + ((x - p.1).toNat : Int) = x by omega]; exact on2⟩)
    have hx : x = p.1 + d := by omega
    subst hx
    exact a i hi k hk (MT_common on2 on)
  · refine .inr ⟨k, (p.1 + d, p.2), hk, on, fun i hi mt => ?_⟩
    obtain ⟨x, x1, x2, on2⟩ := level_point (fp i hi) hle mt
    have hd' : ¬ (x - p.1).toNat < d := fun q => first _ q (.inl ⟨i, hi, by rw [show p.1 + ((x - p.1).toNat : Int) = x by omega]; exact on2⟩)
    have hx : x = p.1 + d := by omega
    subst hx
    exact a i hi k hk (MT_common on on2)
/-- .. of rings as they are: what both count at a point of the edges. -/
theorem nearest_tells {ps qs : List (Int × Int)} {p : Int × Int} (h0 : 0 < ps.length) (hq : 0 < qs.length) (a : apartR ps qs) (hp : parR ps p = true) : parR qs p = parR qs (ptA ps 0) ∨ parR ps (ptA qs 0) = true := by
  have D1 := hgts_pos ps ps.length
  have D2 := hgts_pos qs qs.length
  obtain ⟨D, hD⟩ : ∃ D, D = hgts ps ps.length * hgts qs qs.length := ⟨_, rfl⟩
  have D0 : 0 < D := by rw [hD]; exact Int.mul_pos D1 D2
  have f1 : Fine (D * p.2) (sc D ps) := fine_sc (fun i hi => by rw [hD]; exact Int.dvd_trans (hgts_dvd ps hi) (Int.dvd_mul_right _ _))
  have f2 : Fine (D * p.2) (sc D qs) := fine_sc (fun i hi => by rw [hD]; exact Int.dvd_trans (hgts_dvd qs hi) (Int.dvd_mul_left _ _))
  have a' := apartR_sc D0 a
  have l1 : 0 < (sc D ps).length := by rw [sc_len]; exact h0
  have l2 : 0 < (sc D qs).length := by rw [sc_len]; exact hq
  have hp' : parR (sc D ps) (D * p.1, D * p.2) = true := by rw [parR_sc D0]; exact hp
  rcases nearest (p := (D * p.1, D * p.2)) l1 f1 f2 a' hp' with ⟨i, r, hi, on, fr⟩ | ⟨k, r, hk, on, fr⟩
  · left
    have e1 := parR_along l2 fr
    have e2 := parR_edge l2 a' hi on
    rw [sc_at, parR_sc D0] at e2
    rw [parR_sc D0] at e1
    rw [e1, e2]
  · right
    have e1 := parR_along l1 fr
    have e2 := parR_edge l1 a'.comm hk on
    rw [sc_at, parR_sc D0] at e2
    rw [hp'] at e1
    rw [← e2, ← e1]
/-- A point in a ring that lies in another one is in the other one. -/
theorem hole_in {o h : List (Int × Int)} {p : Int × Int} (ho : 0 < o.length) (hh : 0 < h.length) (a : apartR h o) (hin : parR o (ptA h 0) = true) (hp : parR h p = true) : parR o p = true := by
  rcases nearest_tells hh ho a hp with e | e
  · rw [e]; exact hin
  · rw [outer_out ho hh a hin] at e
    cases e
/-- A point in one of two rings of which neither has the other one's first corner in it is not in the other one. -/
theorem holes_out {g h : List (Int × Int)} {p : Int × Int} (hg : 0 < g.length) (hh : 0 < h.length) (a : apartR g h) (h1 : parR h (ptA g 0) = false) (h2 : parR g (ptA h 0) = false) (hp : parR g p = true) : parR h p = false := by
  rcases nearest_tells hg hh a hp with e | e
  · rw [e]; exact h1
  · rw [h2] at e
    cases e
end Go.Proofs.YtecjeomcbcpfiaaGreat
