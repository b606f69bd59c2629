import Derived.Test.YtinlomcaagdbiaaGreatPtB
import Derived.Deep.RegionHeld3
import Derived.Deep.Strs
/- The laws' helpers on lists of points: their sizes, their copies, whether two are equal. -/
namespace Go.Proofs.YtinlomcaagdbiaaGreat
open Go.RowKit

theorem infoP : (Tryz.prog.info? 25).map (fun i => (i.zero, i.size, i.bytes)) = some (some (.agg #[.int .i64 0, .int .i64 0]), 2, 16) := by kernel_rfl

theorem szPts (a : Option Addr) (c n : Nat) (left : Int) (w : World) (hl : 0 ≤ left ∧ left ≤ 1048576) (hn : n ≤ 9223372036854775807) :
  Calls Tryz.prog 66 #[.slice a n c, .int .i64 left] w fun e w' => e = .returned (.int .i64 (if left - n < 0 then -1 else left - n)) ∧ w' = w := by
 obtain ⟨h1, h2⟩ := hl
 by_cases hc : left - n < 0
 ·rw [if_pos hc]
  go_enter Tryz.func66, Tryz.ntmps66
  go_wp2
  go_ret
  exact ⟨rfl, rfl⟩
 ·rw [if_neg hc]
  go_enter Tryz.func66, Tryz.ntmps66
  go_wp2
  go_ret
  exact ⟨rfl, rfl⟩

structure RowP (w : World) (g n j : Nat) (ps : List (Int × Int)) : Prop where
 c : ∀ i, i < j → w.cell? ⟨g, i * 2, none⟩ = some (.int .i64 (ps[i]?.getD (0, 0)).1) ∧ w.cell? ⟨g, i * 2 + 1, none⟩ = some (.int .i64 (ps[i]?.getD (0, 0)).2)
 u : ∀ i, j ≤ i → i < n → (∃ v, w.cell? ⟨g, i * 2, none⟩ = some v) ∧ ∃ v, w.cell? ⟨g, i * 2 + 1, none⟩ = some v
 fr : ∀ o, w.frozen? ⟨g, o, none⟩ = false
 lt : g < w.heap.size
theorem RowP.below {w w' : World} {g n j : Nat} {ps : List (Int × Int)} (h : RowP w g n j ps) (hb : Below w.heap.size w w') : RowP w' g n j ps := by
 obtain ⟨q, r⟩ := at_block hb h.lt
 exact ⟨fun i hi => ⟨(q _).trans (h.c i hi).1, (q _).trans (h.c i hi).2⟩, fun i h1 h2 => ⟨by obtain ⟨v, hv⟩ := (h.u i h1 h2).1; exact ⟨v, (q _).trans hv⟩, by obtain ⟨v, hv⟩ := (h.u i h1 h2).2; exact ⟨v, (q _).trans hv⟩⟩, fun o => (r o).trans (h.fr o), Nat.lt_of_lt_of_le h.lt hb.size⟩
theorem RowP.start {w : World} {base e g n : Nat} {xs : List Value} (ps : List (Int × Int)) (h : w.ownsRow base e 2 (.slice (some ⟨g, 0, none⟩) n n) n xs) : RowP w g n 0 ps := by
 obtain ⟨h1, h2⟩ := h
 rcases h2 with ⟨h2, _⟩ | ⟨g', cap', cur, hv, hb, hh, hc, hm, hs, ht⟩
 ·cases h2
 simp only [Value.slice.injEq, Option.some.injEq, Addr.mk.injEq, and_true] at hv
 obtain ⟨rfl, _, rfl⟩ := hv
 have get : ∀ k, k < n * 2 → ∃ v, w.cell? ⟨g, k, none⟩ = some v := fun k hk => by
  rw [cell_of_row w g k cur e (0, 0) hh]
  exact ⟨cur[k]'(by omega), Array.getElem?_eq_getElem (by omega)⟩
 refine ⟨fun i hi => absurd hi (by omega), fun i _ hi => ⟨get _ (by omega), get _ (by omega)⟩, fun o => by simp [World.frozen?, hh], ?_⟩
 rcases Nat.lt_or_ge g w.heap.size with k | k
 ·exact k
 ·rw [Array.getElem?_eq_none k] at hh
  cases hh
theorem RowP.step {w : World} {g n j : Nat} {ps : List (Int × Int)} (h : RowP w g n j ps) (hj : j < n) {x y : Int} (hx : (ps[j]?.getD (0, 0)).1 = x) (hy : (ps[j]?.getD (0, 0)).2 = y) :
  RowP ((w.setCell ⟨g, j * 2, none⟩ (.int .i64 x)).setCell ⟨g, j * 2 + 1, none⟩ (.int .i64 y)) g n (j + 1) ps := by
 obtain ⟨⟨v0, h0⟩, ⟨v1, h1⟩⟩ := h.u j (Nat.le_refl _) hj
 have other : ∀ o, o ≠ j * 2 → o ≠ j * 2 + 1 → ((w.setCell ⟨g, j * 2, none⟩ (.int .i64 x)).setCell ⟨g, j * 2 + 1, none⟩ (.int .i64 y)).cell? ⟨g, o, none⟩ = w.cell? ⟨g, o, none⟩ := fun o e1 e2 =>
  (cell_other (.inr (Ne.symm e2)) _).trans (cell_other (.inr (Ne.symm e1)) _)
 refine ⟨fun i hi => ?_, fun i h2 h3 => ?_, fun o => ((World.frozen?_setCell ..).trans (World.frozen?_setCell ..)).trans (h.fr o), by simpa using h.lt⟩
 ·by_cases e : i = j
  ·subst e
   rw [hx, hy]
   exact ⟨(cell_other (.inr (by omega)) _).trans (cell_same h0 _), cell_same ((cell_other (.inr (by omega)) _).trans h1) _⟩
  ·rw [other _ (by omega) (by omega), other _ (by omega) (by omega)]
   exact h.c i (by omega)
 ·rw [other _ (by omega) (by omega), other _ (by omega) (by omega)]
  exact h.u i (by omega) h3

set_option maxHeartbeats 1000000 in
theorem eqPts (a b : Option Addr) (c d : Nat) (ps : List (Int × Int)) (w : World) (h : SeesP w a c ps) (k : SeesP w b d ps) :
  Calls Tryz.prog 86 #[.slice a ps.length c, .slice b ps.length d] w fun e w' => e = .returned (.bool true) ∧ Below w.heap.size w w' := by
 have hm := h.max
 have hf := h.fits
 unfold maxLen at hm
 have hne : ((ps.length : Int) != (ps.length : Int)) = false := by simp
 go_enter Tryz.func86, Tryz.ntmps86
 go_wp2
 go_loopw [5] (fun i wr => ∃ j : Nat, j ≤ ps.length ∧ i = .int .i64 j ∧ Below w.heap.size w wr) (fun i _ => ps.length - (intOf i).toNat)
 case atStart => exact ⟨0, Nat.zero_le _, rfl, Below.refl _ _⟩
 case round =>
  obtain ⟨j, hj, rfl, B⟩ := hrel
  rename World => wr
  by_cases hlt : j < ps.length
  ·obtain ⟨b1, o1, rfl, hc⟩ := (h.below B).cells (by intro e; simp [e] at hlt)
   obtain ⟨b2, o2, rfl, hd⟩ := (k.below B).cells (by intro e; simp [e] at hlt)
   obtain ⟨g1, g2⟩ := hc j hlt
   obtain ⟨g3, g4⟩ := hd j hlt
   generalize (ps[j]?.getD (0, 0)).1 = x at *
   generalize (ps[j]?.getD (0, 0)).2 = y at *
   clear hc hd
   go_wp2_with fail
   have k0 : wr.cell? ⟨b1, o1 + j * 2, none⟩ = some (.int .i64 x) ∧ wr.cell? ⟨b1, o1 + j * 2 + 1, none⟩ = some (.int .i64 y) ∧ wr.cell? ⟨b2, o2 + j * 2, none⟩ = some (.int .i64 x) ∧ wr.cell? ⟨b2, o2 + j * 2 + 1, none⟩ = some (.int .i64 y) := ⟨g1, g2, g3, g4⟩
   have B1 : Below wr.heap.size wr wr := Below.refl _ _
   go_region_held3 (fun w' => w'.cell? ⟨b1, o1 + j * 2, none⟩ = some (.int .i64 x) ∧ w'.cell? ⟨b1, o1 + j * 2 + 1, none⟩ = some (.int .i64 y) ∧ w'.cell? ⟨b2, o2 + j * 2, none⟩ = some (.int .i64 x) ∧ w'.cell? ⟨b2, o2 + j * 2 + 1, none⟩ = some (.int .i64 y))
    (first | exact k0 | exact ⟨bat B1 k0.1, bat B1 k0.2.1, bat B1 k0.2.2.1, bat B1 k0.2.2.2⟩)
    ((go_at_call 48; refine (eqPt_any _ _ _ _ _).mono ?_; rintro e w5 ⟨rfl, hb⟩; rw [eqP_refl]; replace B1 := B1.drew.trans (hb.mono B1.drew.size)))
   replace B := B.trans (B1.mono B.size)
   go_wp2_with fail
   go_roundw
   case rel => exact ⟨j + 1, by omega, by go_num, B⟩
   case measure => simp [intOf]; omega
  ·go_wp2
   go_ret
   exact ⟨rfl, B⟩
end Go.Proofs.YtinlomcaagdbiaaGreat

/- Shapes in memory; the laws' helpers on them: their sizes, their copies, whether two are equal. -/
namespace Go.Proofs.YtinlomcaagdbiaaGreat
open Go.RowKit

def rowA (rs : List (List (Int × Int))) (i : Nat) : List (Int × Int) := rs[i]?.getD []
structure SeesS (w : World) (a : Option Addr) (cap : Nat) (rs : List (List (Int × Int))) : Prop where
 fits : rs.length ≤ cap
 max : cap ≤ maxLen
 cells : rs ≠ [] → ∃ b off, a = some ⟨b, off, none⟩ ∧ ∀ i, i < rs.length → ∃ a' c', w.cell? ⟨b, off + i, none⟩ = some (.slice a' (rowA rs i).length c') ∧ SeesP w a' c' (rowA rs i)
theorem SeesS.below {w w' : World} {a : Option Addr} {cap : Nat} {rs : List (List (Int × Int))} (h : SeesS w a cap rs) (hb : Below w.heap.size w w') : SeesS w' a cap rs :=
 ⟨h.fits, h.max, fun hn => by
  obtain ⟨b, off, ha, hc⟩ := h.cells hn
  exact ⟨b, off, ha, fun i hi => by obtain ⟨a', c', h1, h2⟩ := hc i hi; exact ⟨a', c', bat hb h1, h2.below hb⟩⟩⟩
def upto (rs : List (List (Int × Int))) : Nat → Nat
 | 0 => rs.length
 | j + 1 => upto rs j + (rowA rs j).length
theorem upto_le (rs : List (List (Int × Int))) (j d : Nat) : upto rs j ≤ upto rs (j + d) := by
 induction d with
 | zero => exact Nat.le_refl _
 | succ d ih => rw [← Nat.add_assoc]; simp only [upto]; omega
theorem row_le (rs : List (List (Int × Int))) {i n : Nat} (h : i < n) : (rowA rs i).length + rs.length ≤ upto rs n := by
 have h1 := upto_le rs (i + 1) (n - (i + 1))
 rw [show i + 1 + (n - (i + 1)) = n by omega] at h1
 have h2 := upto_le rs 0 i
 simp only [upto, Nat.zero_add] at h1 h2
 omega

set_option maxHeartbeats 1000000 in
theorem szRows (a : Option Addr) (c : Nat) (rs : List (List (Int × Int))) (left : Int) (w : World) (h : SeesS w a c rs) (hl : 0 ≤ left ∧ left ≤ 1048576) :
  Calls Tryz.prog 51 #[.slice a rs.length c, .int .i64 left] w fun e w' => ∃ z : Int, e = .returned (.int .i64 z) ∧ (z = -1 ∨ (0 ≤ z ∧ z + (upto rs rs.length : Nat) = left)) ∧ w' = w := by
 obtain ⟨h1, h2⟩ := hl
 have hm := h.max
 have hf := h.fits
 unfold maxLen at hm
 by_cases hc : left - rs.length < 0
 ·go_enter Tryz.func51, Tryz.ntmps51
  go_wp2
  go_ret
  exact ⟨-1, rfl, .inl rfl, rfl⟩
 ·have hc' : 0 ≤ left - rs.length := by omega
  go_enter Tryz.func51, Tryz.ntmps51
  go_wp2
  go_loop [1, 5] (fun s1 s5 => ∃ (j : Nat) (z : Int), j ≤ rs.length ∧ s5 = .int .i64 j ∧ s1 = .int .i64 z ∧ 0 ≤ z ∧ z ≤ 1048576 ∧ Hid (z + (upto rs j : Nat) = left)) (fun _ s5 => rs.length - (intOf s5).toNat)
  case atStart => exact ⟨0, _, Nat.zero_le _, rfl, rfl, hc', by omega, by show _ = _; simp only [upto]; omega⟩
  case round =>
   obtain ⟨j, z, hj, rfl, rfl, z0, z1, he⟩ := hrel
   by_cases hlt : j < rs.length
   ·obtain ⟨b, off, rfl, hc⟩ := h.cells (by intro e; simp [e] at hlt)
    obtain ⟨a', c', g1, sp⟩ := hc j hlt
    have spm := sp.max
    have spf := sp.fits
    unfold maxLen at spm
    have HE : Hid (upto rs (j + 1) = upto rs j + (rowA rs j).length) := rfl
    clear hc sp
    generalize (rowA rs j).length = m at *
    by_cases hz : z - m < 0
    ·go_wp2_with (go_at_call 66; refine (szPts _ _ _ _ _ ⟨z0, z1⟩ (by omega)).mono ?_; rintro e w' ⟨rfl, rfl⟩; rw [if_pos hz])
     go_ret
     exact ⟨-1, rfl, .inl rfl, rfl⟩
    ·have hz' : 0 ≤ z - m := by omega
     go_wp2_with (go_at_call 66; refine (szPts _ _ _ _ _ ⟨z0, z1⟩ (by omega)).mono ?_; rintro e w' ⟨rfl, rfl⟩; rw [if_neg hz])
     go_round
     case rel => exact ⟨j + 1, z - m, by omega, by go_num, rfl, hz', by omega, by have := he.out; have := HE.out; show _ = _; omega⟩
     case measure => simp [intOf]; omega
   ·obtain rfl : j = rs.length := by omega
    have HE := he
    clear he
    go_wp2
    go_ret
    exact ⟨z, rfl, .inr ⟨z0, HE.out⟩, rfl⟩

set_option maxHeartbeats 1000000 in
theorem szShape_any (k : Int) (a : Option Addr) (c : Nat) (rs : List (List (Int × Int))) (left : Int) (w : World) (h : SeesS w a c rs) (hl : 0 ≤ left ∧ left ≤ 1048576) :
  Calls Tryz.prog 33 #[.agg #[.int .i64 k, .slice a rs.length c], .int .i64 left] w fun e w' => ∃ z : Int, e = .returned (.int .i64 z) ∧ (z = -1 ∨ (0 ≤ z ∧ z + (upto rs rs.length : Nat) = left)) ∧ Below w.heap.size w w' := by
 have bn := below1 w (.cells #[.int .i64 k, .slice a rs.length c] 44)
 go_enter Tryz.func33, Tryz.ntmps33
 go_wp2_with fail
 refine (szRows a c rs left _ (h.below bn) hl).mono ?_
 rintro e w1 ⟨z, rfl, hz, rfl⟩
 have HZ : Hid (z = -1 ∨ (0 ≤ z ∧ z + (upto rs rs.length : Nat) = left)) := hz
 by_cases h0 : z < 0
 ·clear hz
  go_wp2
  go_ret
  exact ⟨-1, rfl, .inl rfl, bn⟩
 ·have h0' : 0 ≤ z := by omega
  clear hz
  go_wp2
  go_ret
  exact ⟨z, rfl, HZ.out, bn⟩
end Go.Proofs.YtinlomcaagdbiaaGreat

/- A shape that came in, opened: its kind and its rows. -/
namespace Go.Proofs.YtinlomcaagdbiaaGreat
open Go.ChangeShapes Go.WideShapes Go.ChangeAt Go.RowKit Go.Joins

theorem cells_one {w : World} {a : Addr} {cs : List Value} (h : w.cells? 0 a 1 = some cs) : ∃ c0, cs = [c0] ∧ w.cell? (a.add 0) = some c0 := by
 unfold World.cells? at h
 rw [if_pos (Nat.zero_le _)] at h
 simp only [List.range_succ, List.range_zero, List.nil_append, List.mapM_cons, List.mapM_nil] at h
 cases h0 : w.cell? (a.add 0) with
 | none => simp [h0] at h
 | some c0 =>
  simp [h0] at h
  exact ⟨c0, h.symm, rfl⟩
theorem cellsRow : Tryz.prog.cellsOf 117 = 1 := by kernel_rfl
theorem cellsShape : Tryz.prog.cellsOf 44 = 2 := by kernel_rfl

set_option maxRecDepth 100000 in
theorem openPtsC {H : Type} {enc : TypeId × Value → H} {W : World} {m : Nat} {v : Value} {y : DataW H × List MemPlace}
  (hm : DataW.trod enc Tryz.prog W 0 (fun _ => true) true m 117 [v] = some y) :
  ∃ a cap ps, v = .slice a (List.length ps) cap ∧ SeesP W a cap ps := by
 rcases DataW.trod_slice Tryz.underlying117 hm with ⟨hcs, _⟩ | ⟨x, len, cap, elems, rest, n, _, hcs, _, _, hl, hM, hlen, hel, _, _⟩
 ·simp only [List.cons.injEq, and_true] at hcs
  subst hcs
  exact ⟨none, 0, [], rfl, ⟨by simp, by simp [maxLen], fun h => absurd rfl h⟩⟩
 ·simp only [List.cons.injEq, and_true] at hcs
  subst hcs
  have get : ∀ i, i < len → ∃ q : Int × Int, W.cell? ((x.add (i * 2)).add 0) = some (.int .i64 q.1) ∧ W.cell? ((x.add (i * 2)).add 1) = some (.int .i64 q.2) := by
   intro i hi
   have hE := hel i hi
   rw [cellsPtN, List.getElem?_eq_getElem (show i < elems.length by omega), Option.bind_eq_some_iff] at hE
   obtain ⟨cs, hc2, hy⟩ := hE
   obtain ⟨e0, e1, rfl, g0, g1⟩ := cells_two hc2
   obtain ⟨a, b, rfl, rfl⟩ := openTwo hy
   exact ⟨(a, b), g0, g1⟩
  refine ⟨some x, cap, (List.range len).map (fun i => if h : i < len then Classical.choose (get i h) else (0, 0)), by simp, ⟨by simpa using hl, hM, fun hn => ?_⟩⟩
  have hpos : 0 < len := by
   rcases Nat.eq_zero_or_pos len with e | e
   ·subst e; simp at hn
   ·exact e
  obtain ⟨b, off, spot⟩ := x
  obtain ⟨q0, hq0, _⟩ := get 0 hpos
  have hspot : spot = none := by simpa [Addr.add] using World.cell?_spot hq0
  subst hspot
  refine ⟨b, off, rfl, fun i hi => ?_⟩
  have hi' : i < len := by simpa using hi
  have hc := Classical.choose_spec (get i hi')
  rw [List.getElem?_map, List.getElem?_range hi']
  simp only [Option.map_some, Option.getD_some, dif_pos hi']
  have e0 : ((⟨b, off, none⟩ : Addr).add (i * 2)).add 0 = ⟨b, off + i * 2, none⟩ := by simp [Addr.add_lit]
  have e1 : ((⟨b, off, none⟩ : Addr).add (i * 2)).add 1 = ⟨b, off + i * 2 + 1, none⟩ := by simp [Addr.add_lit]
  exact ⟨(congrArg W.cell? e0.symm).trans hc.1, (congrArg W.cell? e1.symm).trans hc.2⟩

set_option maxRecDepth 100000 in
theorem openRows {H : Type} {enc : TypeId × Value → H} {W : World} {m : Nat} {v : Value} {y : DataW H × List MemPlace}
  (hm : DataW.trod enc Tryz.prog W 0 (fun _ => true) true m 42 [v] = some y) :
  ∃ a cap rs, v = .slice a (List.length rs) cap ∧ SeesS W a cap rs := by
 rcases DataW.trod_slice Tryz.underlying42 hm with ⟨hcs, _⟩ | ⟨x, len, cap, elems, rest, n, _, hcs, _, _, hl, hM, hlen, hel, _, _⟩
 ·simp only [List.cons.injEq, and_true] at hcs
  subst hcs
  exact ⟨none, 0, [], rfl, ⟨by simp, by simp [maxLen], fun h => absurd rfl h⟩⟩
 ·simp only [List.cons.injEq, and_true] at hcs
  subst hcs
  have get : ∀ i, i < len → ∃ ps : List (Int × Int), ∃ a' c', W.cell? ((x.add i).add 0) = some (.slice a' ps.length c') ∧ SeesP W a' c' ps := by
   intro i hi
   have hE := hel i hi
   rw [cellsRow, Nat.mul_one, List.getElem?_eq_getElem (show i < elems.length by omega), Option.bind_eq_some_iff] at hE
   obtain ⟨cs, hc2, hy⟩ := hE
   obtain ⟨e0, rfl, g0⟩ := cells_one hc2
   obtain ⟨a', c', ps, rfl, sp⟩ := openPtsC hy
   exact ⟨ps, a', c', g0, sp⟩
  refine ⟨some x, cap, (List.range len).map (fun i => if h : i < len then Classical.choose (get i h) else []), by simp, ⟨by simpa using hl, hM, fun hn => ?_⟩⟩
  have hpos : 0 < len := by
   rcases Nat.eq_zero_or_pos len with e | e
   ·subst e; simp at hn
   ·exact e
  obtain ⟨b, off, spot⟩ := x
  obtain ⟨_, _, _, hq0, _⟩ := get 0 hpos
  have hspot : spot = none := by simpa [Addr.add] using World.cell?_spot hq0
  subst hspot
  refine ⟨b, off, rfl, fun i hi => ?_⟩
  have hi' : i < len := by simpa using hi
  have hc := Classical.choose_spec (get i hi')
  have er : rowA ((List.range len).map (fun i => if h : i < len then Classical.choose (get i h) else [])) i = Classical.choose (get i hi') := by
   unfold rowA
   rw [List.getElem?_map, List.getElem?_range hi']
   simp only [Option.map_some, Option.getD_some, dif_pos hi']
  rw [er]
  obtain ⟨a', c', h1, h2⟩ := hc
  have e0 : ((⟨b, off, none⟩ : Addr).add i).add 0 = ⟨b, off + i, none⟩ := by simp [Addr.add_lit]
  exact ⟨a', c', (congrArg W.cell? e0.symm).trans h1, h2⟩

end Go.Proofs.YtinlomcaagdbiaaGreat

/- A change that came in, opened. -/
namespace Go.Proofs.YtinlomcaagdbiaaGreat
open Go.ChangeShapes Go.WideShapes Go.ChangeAt Go.RowKit Go.Joins

theorem cellsIntC : Tryz.prog.cellsOf 3 = 1 := by kernel_rfl
theorem cellsRowsC : Tryz.prog.cellsOf 42 = 1 := by kernel_rfl
set_option maxRecDepth 100000 in
theorem openShapeC {H : Type} {enc : TypeId × Value → H} {W : World} {n : Nat} {c0 c1 : Value} {y : DataW H × List MemPlace}
  (h : DataW.trod enc Tryz.prog W 0 (fun _ => true) true n 44 [c0, c1] = some y) : ∃ k a cap rs, c0 = .int .i64 k ∧ c1 = .slice a (List.length rs) cap ∧ SeesS W a cap rs := by
 obtain ⟨y0, y1, m, _, _, h0, h1⟩ := trod_struct2 Tryz.underlying44 h
 obtain ⟨k, e0, _⟩ := DataW.trod_int Tryz.underlying3 (by simpa [cellsIntC] using h0 : DataW.trod enc Tryz.prog W 0 (fun _ => true) true m 3 [c0] = some y0)
 obtain ⟨a, cap, rs, e1, s⟩ := openRows (by simpa [cellsRowsC] using h1 : DataW.trod enc Tryz.prog W 0 (fun _ => true) true m 42 [c1] = some y1)
 simp at e0
 exact ⟨k, a, cap, rs, e0, e1, s⟩
end Go.Proofs.YtinlomcaagdbiaaGreat
