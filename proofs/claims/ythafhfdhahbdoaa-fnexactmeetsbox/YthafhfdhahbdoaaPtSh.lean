/- The shape of one point: impl.pointShape. -/
import Derived.Test.YthafhfdhahbdoaaFramePs
import Derived.Test.YthafhfdhahbdoaaPtG
import Derived.Test.YthafhfdhahbdoaaShapeM
import Derived.Test.YthafhfdhahbdoaaGoodS
namespace Go.Proofs.Ythafhfdhahbdoaa
open Go.RowKit

theorem Box2.reads {lo p : Nat} {w : World} {x0 x1 : Value} (h : Box2 lo w p x0 x1) (u0 u1 : Value) : (w.setCell ⟨p, 0, none⟩ u0).cell? ⟨p, 0, none⟩ = some u0 ∧ ((w.setCell ⟨p, 0, none⟩ u0).setCell ⟨p, 1, none⟩ u1).cell? ⟨p, 1, none⟩ = some u1 :=
  ⟨cell_same h.c0 _, cell_same ((cell_other (.inr (by decide)) _).trans h.c1) _⟩
/-- Whether a point is one of a shape's. -/
theorem seesP_new (w : World) (x y : Int) (t : TypeId) : SeesP (w.alloc (.cells #[.int .i64 x, .int .i64 y] t)) (some ⟨w.heap.size, 0, none⟩) 1 [(x, y)] :=
  ⟨Nat.le_refl _, by unfold maxLen; omega, fun _ => ⟨_, 0, rfl, fun i hi => by
    obtain rfl : i = 0 := by simp at hi; omega
    exact ⟨cell_new w #[.int .i64 x, .int .i64 y] t 0 rfl, cell_new w #[.int .i64 x, .int .i64 y] t 1 rfl⟩⟩⟩
theorem seesS_of {w : World} {a : Option Addr} {c b : Nat} {ps : List (Int × Int)} (h : SeesP w a c ps) (k : w.cell? ⟨b, 0, none⟩ = some (.slice a ps.length c)) : SeesS w (some ⟨b, 0, none⟩) 1 [ps] :=
  ⟨Nat.le_refl _, by unfold maxLen; omega, fun _ => ⟨_, 0, rfl, fun i hi => by
    obtain rfl : i = 0 := by simp at hi; omega
    exact ⟨a, c, k, h⟩⟩⟩
/-- A list of one row stays where another block is written. -/
theorem row_put {w : World} {q b g c : Nat} {ps : List (Int × Int)} (h : SeesP w (some ⟨q, 0, none⟩) c ps) (k : w.cell? ⟨b, 0, none⟩ = some (.slice (some ⟨q, 0, none⟩) ps.length c)) (n0 : q ≠ g) (n1 : b ≠ g) (u0 u1 : Value) :
    SeesP ((w.setCell ⟨g, 0, none⟩ u0).setCell ⟨g, 1, none⟩ u1) (some ⟨q, 0, none⟩) c ps ∧ ((w.setCell ⟨g, 0, none⟩ u0).setCell ⟨g, 1, none⟩ u1).cell? ⟨b, 0, none⟩ = some (.slice (some ⟨q, 0, none⟩) ps.length c) := by
  have ne : ∀ b' off, (some ⟨q, 0, none⟩ : Option Addr) = some ⟨b', off, none⟩ → b' ≠ g := by
    intro b' off e
    simp only [Option.some.injEq, Addr.mk.injEq] at e
    omega
  exact ⟨(h.put1 ne 0 u0).put1 ne 1 u1, (cell_other (.inl n1.symm) _).trans ((cell_other (.inl n1.symm) _).trans k)⟩
theorem seesS_put {w : World} {q b g c : Nat} {ps : List (Int × Int)} (h : SeesP w (some ⟨q, 0, none⟩) c ps) (k : w.cell? ⟨b, 0, none⟩ = some (.slice (some ⟨q, 0, none⟩) ps.length c)) (n0 : q ≠ g) (n1 : b ≠ g) (u0 u1 : Value) :
    SeesS ((w.setCell ⟨g, 0, none⟩ u0).setCell ⟨g, 1, none⟩ u1) (some ⟨b, 0, none⟩) 1 [ps] := by
  obtain ⟨h1, h2⟩ := row_put h k n0 n1 u0 u1
  exact seesS_of h1 h2

set_option maxRecDepth 20000 in
set_option maxHeartbeats 2000000 in
theorem pointShape_parts (x y : Int) (w : World) :
    Calls Try.prog 32 #[.agg #[.int .i64 x, .int .i64 y]] w fun e w' => ∃ q b : Nat, e = .returned (.agg #[.int .i64 1, .slice (some ⟨b, 0, none⟩) 1 1]) ∧ (w.heap.size ≤ q ∧ w.heap.size ≤ b) ∧ SeesP w' (some ⟨q, 0, none⟩) 1 [(x, y)] ∧ w'.cell? ⟨b, 0, none⟩ = some (.slice (some ⟨q, 0, none⟩) 1 1) ∧ Below w.heap.size w w' := by
  have bn := below1 w (.cells #[.int .i64 x, .int .i64 y] 35)
  have bz := bn.size
  have B0 := bn.trans ((below1 _ (.cells #[.int .i64 0, .slice none 0 0] 33)).mono bz)
  have V1 := (Box2.new w (lo := w.heap.size) (Nat.le_refl _) (.int .i64 x) (.int .i64 y) 35).below (below1 _ (.cells #[.int .i64 0, .slice none 0 0] 33))
  have V0 := Box2.new (w.alloc (.cells #[.int .i64 x, .int .i64 y] 35)) (lo := w.heap.size) bz (.int .i64 0) (.slice none 0 0) 33
  rw [World.size_alloc] at V0
  clear bn bz
  have HW : w.heap.size + 1 < ((w.alloc (.cells #[.int .i64 x, .int .i64 y] 35)).alloc (.cells #[.int .i64 0, .slice none 0 0] 33)).heap.size := by simp
  obtain ⟨k0, k1, _, _⟩ := id V1
  go_enter Try.func32, Try.ntmps32
  go_upto_region 1 with fail
  generalize (w.alloc (.cells #[.int .i64 x, .int .i64 y] 35)).alloc (.cells #[.int .i64 0, .slice none 0 0] 33) = W at *
  have SP := (seesP_new W x y 35).below (below1 _ (.cells #[.slice (some ⟨W.heap.size, 0, none⟩) 1 1] 57))
  have CK := cell_new (W.alloc (.cells #[.int .i64 x, .int .i64 y] 35)) #[.slice (some ⟨W.heap.size, 0, none⟩) 1 1] 57 0 rfl
  have bn := below2 W (.cells #[.int .i64 x, .int .i64 y] 35) (.cells #[.slice (some ⟨W.heap.size, 0, none⟩) 1 1] 57)
  replace V0 := V0.below bn
  replace B0 := B0.trans (bn.mono B0.size)
  have zn := World.size_alloc W (.cells #[.int .i64 x, .int .i64 y] 35)
  rw [zn] at CK
  clear bn zn
  obtain ⟨r0, r1⟩ := V0.reads (.int .i64 1) (.slice (some ⟨W.heap.size + 1, 0, none⟩) 1 1)
  have RC := Box2.chain B0 V0 (.int .i64 1) (.slice (some ⟨W.heap.size + 1, 0, none⟩) 1 1)
  obtain ⟨o0, o1, of, _⟩ := id V0
  have S2 := row_put SP CK (g := w.heap.size + 1) (by omega) (by omega) (.int .i64 1) (.slice (some ⟨W.heap.size + 1, 0, none⟩) 1 1)
  clear SP CK V0 V1
  go_wp2
  refine bodyPost_ret (v := .agg #[.int .i64 1, .slice (some ⟨W.heap.size + 1, 0, none⟩) 1 1]) (by simp [results, Try.results32, go_sem, r0, r1]) rfl ?_
  exact ⟨_, _, rfl, ⟨by omega, by omega⟩, S2.1, S2.2, RC⟩
theorem pointShape_any (x y : Int) (w : World) :
    Calls Try.prog 32 #[.agg #[.int .i64 x, .int .i64 y]] w fun e w' => ∃ a : Option Addr, e = .returned (.agg #[.int .i64 1, .slice a 1 1]) ∧ SeesS w' a 1 [[(x, y)]] ∧ Below w.heap.size w w' := by
  refine (pointShape_parts x y w).mono ?_
  rintro e w' ⟨q, b, rfl, _, h1, h2, hb⟩
  exact ⟨_, rfl, seesS_of h1 h2, hb⟩

end Go.Proofs.Ythafhfdhahbdoaa
