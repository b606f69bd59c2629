/- Boxes joined, of the program: joined over items. -/
import Derived.Test.YthompofbdjdloaaGreatTrF
namespace Go.Proofs.YthompofbdjdloaaGreat
open Go.RowKit

/-- Two boxes joined, as enclose has it. -/
def jn2 (x y : Bx) : Bx := (jA x.1 x.2.1 x.2.2.1 x.2.2.2 y.1 y.2.1 y.2.2.1 y.2.2.2, jB x.1 x.2.1 x.2.2.1 x.2.2.2 y.1 y.2.1 y.2.2.1 y.2.2.2, jC x.1 x.2.1 x.2.2.1 x.2.2.2 y.1 y.2.1 y.2.2.1 y.2.2.2, jD x.1 x.2.1 x.2.2.1 x.2.2.2 y.1 y.2.1 y.2.2.1 y.2.2.2)
/-- The first box, and then the first ones. -/
def jnJ (bs : List Bx) : Nat → Bx
  | 0 => bxAt bs 0
  | j + 1 => jn2 (jnJ bs j) (bxAt bs j)
def jnI (bs : List Bx) : Bx := if bs.length = 0 then (0, 0, 0, 0) else jnJ bs bs.length
/-- Items that lie in memory: a box and a number each. -/
structure SeesIt (w : World) (a : Option Addr) (cap : Nat) (bs : List Bx) (is : List Int) : Prop where
  len : bs.length = is.length
  fits : bs.length ≤ cap
  max : cap ≤ maxLen
  cells : bs ≠ [] → ∃ b off, a = some ⟨b, off, none⟩ ∧ ∀ i, i < bs.length → Four w b (off + i * 5) (bxAt bs i) ∧ w.cell? ⟨b, off + i * 5 + 4, none⟩ = some (.int .i64 (is[i]?.getD 0))
theorem SeesIt.below {w w' : World} {a : Option Addr} {cap : Nat} {bs : List Bx} {is : List Int} (h : SeesIt w a cap bs is) (hb : Below w.heap.size w w') : SeesIt w' a cap bs is :=
  ⟨h.len, h.fits, h.max, fun hn => by
    obtain ⟨b, off, ha, hc⟩ := h.cells hn
    exact ⟨b, off, ha, fun i hi => ⟨(hc i hi).1.below hb, bat hb (hc i hi).2⟩⟩⟩
theorem Box4.grownT {lo q : Nat} {w w' : World} {x0 x1 x2 x3 : Value} {row : Option Nat} (h : Box4 lo w q x0 x1 x2 x3) (g : w.grownBy w' row) (ne : some q ≠ row) : Box4 lo w' q x0 x1 x2 x3 := by
  have e := g.block q h.lt ne
  exact ⟨(World.cell?_of_block (a := ⟨q, 0, none⟩) e).trans h.c0, (World.cell?_of_block (a := ⟨q, 1, none⟩) e).trans h.c1, (World.cell?_of_block (a := ⟨q, 2, none⟩) e).trans h.c2, (World.cell?_of_block (a := ⟨q, 3, none⟩) e).trans h.c3, fun o => (World.frozen?_of_block (a := ⟨q, o, none⟩) e).trans (h.fr o), h.lo⟩

set_option maxRecDepth 20000 in
theorem itAround_any (x1 x2 x3 x4 n : Int) (w : World) :
    Calls Tryz.prog 246 #[.agg #[.int .i64 x1, .int .i64 x2, .int .i64 x3, .int .i64 x4, .int .i64 n]] w fun e w' => e = .returned (.agg #[.int .i64 x1, .int .i64 x2, .int .i64 x3, .int .i64 x4]) ∧ Below w.heap.size w w' := by
  have B := below2 w (.cells #[.int .i64 x1, .int .i64 x2, .int .i64 x3, .int .i64 x4, .int .i64 n] 109) (.cells #[.int .i64 x1, .int .i64 x2, .int .i64 x3, .int .i64 x4] 28)
  go_enter Tryz.func246, Tryz.ntmps246
  go_wp2
  exact bodyPost_ret (v := .agg #[.int .i64 x1, .int .i64 x2, .int .i64 x3, .int .i64 x4]) (by simp [results, Tryz.results246, go_sem]) rfl ⟨rfl, B⟩

set_option maxRecDepth 20000 in
set_option maxHeartbeats 4000000 in
theorem joinedIt_any (a : Option Addr) (c : Nat) (bs : List Bx) (is : List Int) (w : World) (h : SeesIt w a c bs is) :
    Calls Tryz.prog 161 #[.slice a bs.length c] w fun e w' => e = .returned (bxV (jnI bs)) ∧ Below w.heap.size w w' := by
  have hm := h.max
  have hf := h.fits
  unfold maxLen at hm
  have Z4 := (.cells #[.int .i64 0, .int .i64 0, .int .i64 0, .int .i64 0] 28 : Obj)
  clear Z4
  have B0 := below1 w (.cells #[.int .i64 0, .int .i64 0, .int .i64 0, .int .i64 0] 28)
  have RR := Box4.new w (lo := w.heap.size) (Nat.le_refl _) (.int .i64 0) (.int .i64 0) (.int .i64 0) (.int .i64 0) 28
  by_cases h0 : bs.length = 0
  · have e0 : ((bs.length : Int) == 0) = true := by simp; exact List.eq_nil_of_length_eq_zero h0
    have HV : Hid (bxV (jnI bs) = .agg #[.int .i64 0, .int .i64 0, .int .i64 0, .int .i64 0]) := by show _ = _; unfold jnI; rw [if_pos h0]; rfl
    clear h0
    have RR' := RR.put (.int .i64 0) (.int .i64 0) (.int .i64 0) (.int .i64 0)
    have B' := Box4.chain B0 RR (.int .i64 0) (.int .i64 0) (.int .i64 0) (.int .i64 0)
    have q0 := RR'.c0
    have q1 := RR'.c1
    have q2 := RR'.c2
    have q3 := RR'.c3
    obtain ⟨r0, r1, r2, r3, rf, _⟩ := id RR
    go_enter Tryz.func161, Tryz.ntmps161
    go_wp2
    first
    | exact bodyPost_ret (v := .agg #[.int .i64 0, .int .i64 0, .int .i64 0, .int .i64 0]) (by simp [results, Tryz.results161, go_sem, q0, q1, q2, q3]) rfl ⟨by rw [HV.out], B'⟩
    | exact bodyPost_ret (v := .agg #[.int .i64 0, .int .i64 0, .int .i64 0, .int .i64 0]) (by simp [results, Tryz.results161, go_sem]) rfl ⟨by rw [HV.out], B0⟩
  · have e0 : ((bs.length : Int) == 0) = false := by simp; intro e; exact h0 (by rw [e]; rfl)
    have HV : Hid (jnI bs = jnJ bs bs.length) := by show _ = _; unfold jnI; rw [if_neg h0]
    have hpos : 0 < bs.length := by omega
    have hposZ : (0 : Int) < (bs.length : Int) := by omega
    obtain ⟨b1, o1, ea, hc⟩ := h.cells (by intro e; simp [e] at h0)
    subst ea
    obtain ⟨⟨g1, g2, g3, g4⟩, g5⟩ := hc 0 hpos
    have hb1 : b1 < w.heap.size := World.block_lt_of_cell? _ _ g1
    have HC : Hid (∀ i, i < bs.length → Four w b1 (o1 + i * 5) (bxAt bs i) ∧ w.cell? ⟨b1, o1 + i * 5 + 4, none⟩ = some (.int .i64 (is[i]?.getD 0))) := hc
    obtain ⟨⟨y1, y2, y3, y4⟩, uy⟩ : ∃ x, Hid (bxAt bs 0 = x) := ⟨_, rfl⟩
    rw [uy.out] at g1 g2 g3 g4
    dsimp only at g1 g2 g3 g4
    simp only [Nat.zero_mul, Nat.add_zero] at g1 g2 g3 g4 g5
    replace g1 := bat B0 g1
    replace g2 := bat B0 g2
    replace g3 := bat B0 g3
    replace g4 := bat B0 g4
    replace g5 := bat B0 g5
    generalize is[0]?.getD 0 = n0 at *
    clear hc h0
    go_enter Tryz.func161, Tryz.ntmps161
    go_wp2_with fail
    generalize w.alloc (.cells #[.int .i64 0, .int .i64 0, .int .i64 0, .int .i64 0] 28) = W0 at *
    refine (itAround_any y1 y2 y3 y4 n0 _).mono ?_
    rintro e w1 ⟨rfl, hb⟩
    replace RR := RR.below hb
    replace B0 := B0.trans (hb.mono B0.size)
    clear hb g1 g2 g3 g4 g5
    have bn := below1 w1 (.cells #[.int .i64 y1, .int .i64 y2, .int .i64 y3, .int .i64 y4] 28)
    have O := Box4.new w1 (lo := w.heap.size) B0.size (.int .i64 y1) (.int .i64 y2) (.int .i64 y3) (.int .i64 y4) 28
    have hp3 : w.heap.size < w1.heap.size := RR.lt
    replace RR := RR.below bn
    replace B0 := B0.trans (bn.mono B0.size)
    clear bn
    go_upto_region 4 with fail
    generalize w1.alloc (.cells #[.int .i64 y1, .int .i64 y2, .int .i64 y3, .int .i64 y4] 28) = W1 at *
    generalize w1.heap.size = p3 at *
    go_wp2
    go_loopw [5, 17] (fun _ s17 wr => ∃ (j : Nat) (y : Bx), j ≤ bs.length ∧ s17 = .int .i64 j ∧ Hid (jnJ bs j = y) ∧ Box4 w.heap.size wr p3 (.int .i64 y.1) (.int .i64 y.2.1) (.int .i64 y.2.2.1) (.int .i64 y.2.2.2) ∧ Box4 w.heap.size wr w.heap.size (.int .i64 0) (.int .i64 0) (.int .i64 0) (.int .i64 0) ∧ Below w.heap.size w wr) (fun _ s17 _ => bs.length - (intOf s17).toNat)
    case atStart => exact ⟨0, (y1, y2, y3, y4), Nat.zero_le _, rfl, uy.out, O, RR, B0⟩
    case round =>
      clear O RR B0
      obtain ⟨j, y, hj, rfl, J, O, RR, B⟩ := hrel
      rename World => wr
      obtain ⟨z1, z2, z3, z4⟩ := y
      dsimp only at O
      by_cases hlt : j < bs.length
      · obtain ⟨⟨g1, g2, g3, g4⟩, g5⟩ := HC.out j hlt
        have HJ : Hid (jnJ bs (j + 1) = jn2 (z1, z2, z3, z4) (bxAt bs j)) := by show jn2 (jnJ bs j) _ = _; rw [J.out]
        obtain ⟨⟨x1, x2, x3, x4⟩, ux⟩ : ∃ x, Hid (bxAt bs j = x) := ⟨_, rfl⟩
        rw [ux.out] at g1 g2 g3 g4 HJ
        dsimp only at g1 g2 g3 g4
        replace g1 := bat B g1
        replace g2 := bat B g2
        replace g3 := bat B g3
        replace g4 := bat B g4
        replace g5 := bat B g5
        generalize is[j]?.getD 0 = nj at *
        have bn := below1 wr (.cells #[.int .i64 x1, .int .i64 x2, .int .i64 x3, .int .i64 x4, .int .i64 nj] 109)
        go_wp2_with fail
        refine (itAround_any x1 x2 x3 x4 nj _).mono ?_
        rintro e w2 ⟨rfl, hb⟩
        replace bn := bn.trans (hb.mono bn.size)
        replace O := O.below bn
        replace RR := RR.below bn
        replace B := B.trans (bn.mono B.size)
        clear hb bn g1 g2 g3 g4 g5 J
        go_wp2_with fail
        refine (enclose_any w.heap.size p3 z1 z2 z3 z4 x1 x2 x3 x4 _ O).mono ?_
        rintro e w3 ⟨rfl, O3, G⟩
        have R3 := RR.grownT G (by intro e; injection e with e; omega)
        have B3 := B.grown G B.size (fun k e => by injection e with e; omega)
        clear O RR B G
        go_wp2
        go_roundw
        case rel => exact ⟨j + 1, jn2 (z1, z2, z3, z4) (x1, x2, x3, x4), by omega, by go_num, HJ, O3, R3, B3⟩
        case measure => simp [intOf]; omega
      · obtain rfl : j = bs.length := by omega
        have HW : Hid (bxV (jnI bs) = .agg #[.int .i64 z1, .int .i64 z2, .int .i64 z3, .int .i64 z4]) := by show _ = _; rw [HV.out, J.out]; rfl
        obtain ⟨o0, o1', o2, o3, _, _⟩ := id O
        obtain ⟨r0, r1, r2, r3, rf, _⟩ := id RR
        have RR' := RR.put (.int .i64 z1) (.int .i64 z2) (.int .i64 z3) (.int .i64 z4)
        have B' := Box4.chain B RR (.int .i64 z1) (.int .i64 z2) (.int .i64 z3) (.int .i64 z4)
        have q0 := RR'.c0
        have q1 := RR'.c1
        have q2 := RR'.c2
        have q3 := RR'.c3
        clear O RR B J RR' HV
        go_wp2
        exact bodyPost_ret (v := .agg #[.int .i64 z1, .int .i64 z2, .int .i64 z3, .int .i64 z4]) (by simp [results, Tryz.results161, go_sem, q0, q1, q2, q3]) rfl ⟨by rw [HW.out], B'⟩
end Go.Proofs.YthompofbdjdloaaGreat
