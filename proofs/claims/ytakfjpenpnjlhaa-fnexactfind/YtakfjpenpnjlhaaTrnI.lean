/- The program's Turned: quarters of a turn. -/
import Derived.Test.YtakfjpenpnjlhaaChgI
import Derived.Test.YtakfjpenpnjlhaaGoodI
namespace Go.Proofs.Ytakfjpenpnjlhaa
open Go.RowKit

/-- A quarter's turn of a point. -/
def qn (p : Int × Int) : Int × Int := (wrap64 (-p.2), p.1)
def rot : Nat → Int × Int → Int × Int
  | 0, p => p
  | n + 1, p => qn (rot n p)
/-- How many quarters. -/
def tq (q : Int) : Nat := ((q.tmod 4 + 4).tmod 4).toNat
theorem tq_cases (q : Int) : (q.tmod 4 + 4).tmod 4 = tq q ∧ -3 ≤ q.tmod 4 ∧ q.tmod 4 ≤ 3 ∧ tq q < 4 := by
  have h1 : -4 < q.tmod 4 := Int.lt_tmod_of_pos q (by omega)
  have h2 : q.tmod 4 < 4 := Int.tmod_lt_of_pos q (by omega)
  have h3 : 0 ≤ (q.tmod 4 + 4).tmod 4 := Int.tmod_nonneg 4 (by omega)
  have h4 : (q.tmod 4 + 4).tmod 4 < 4 := Int.tmod_lt_of_pos _ (by omega)
  unfold tq
  omega
theorem copied1_any (x y : Int) (w : World) :
    Calls Try.prog 45 #[.agg #[.int .i64 x, .int .i64 y]] w fun e w' => e = .returned (.agg #[.int .i64 x, .int .i64 y]) ∧ Below w.heap.size w w' := by
  go_enter Try.func45, Try.ntmps45
  go_wp2
  exact bodyPost_ret (v := .agg #[.int .i64 x, .int .i64 y]) (by simp [results, Try.results45, go_sem]) rfl ⟨rfl, below2 _ _ _⟩
theorem enter_copied1 (args : Array Value) (W : World) : Sem.run Try.prog (callFunc 45 args) W = .ok (.enter 45 args) W := by kernel_rfl
theorem map_same (rs : List (List (Int × Int))) : rs.map (·.map fun p => p) = rs := by simp

set_option maxRecDepth 20000 in
theorem copied_any (k : Int) (a : Option Addr) (c : Nat) (rs : List (List (Int × Int))) (w : World) (h : SeesS w a c rs) (hs : upto rs rs.length ≤ 1048576) :
    Calls Try.prog 34 #[.agg #[.int .i64 k, .slice a rs.length c]] w fun e w' => ∃ v vs, e = .returned (.agg #[.int .i64 k, v]) ∧ ShR w.heap.size w' v vs rs ∧ Below w.heap.size w w' := by
  have B := below2 w (.cells #[.int .i64 k, .slice a rs.length c] 31) (.cells #[.int .i64 0, .slice none 0 0] 31)
  have V2 := Box2.new (w.alloc (.cells #[.int .i64 k, .slice a rs.length c] 31)) (lo := w.heap.size) (by simp) (.int .i64 0) (.slice none 0 0) 31
  rw [World.size_alloc] at V2
  have S := h.below B
  have HS : Hid (upto rs rs.length ≤ 1048576) := hs
  have zz : ((w.alloc (.cells #[.int .i64 k, .slice a rs.length c] 31)).alloc (.cells #[.int .i64 0, .slice none 0 0] 31)).heap.size = w.heap.size + 2 := by simp
  clear h hs
  go_enter Try.func34, Try.ntmps34
  go_wp2_with fail
  generalize (w.alloc (.cells #[.int .i64 k, .slice a rs.length c] 31)).alloc (.cells #[.int .i64 0, .slice none 0 0] 31) = W0 at *
  refine (changed_any 45 [] (fun p => p) k a c rs _ S HS.out enter_copied1 (fun W x y _ => copied1_any x y W)).mono ?_
  rintro e w1 ⟨v, vs, rfl, R, hb⟩
  rw [map_same] at R
  obtain ⟨va, vc, rfl, _, _⟩ := R.shape
  have B1 := B.trans (hb.mono B.size)
  have VR := V2.below hb
  have gq : w1.grownBy ((w1.setCell ⟨w.heap.size + 1, 0, none⟩ (.int .i64 k)).setCell ⟨w.heap.size + 1, 1, none⟩ (.slice va vs.length vc)) (some (w.heap.size + 1)) := grownBy_setCell (p := ⟨w.heap.size + 1, 1, none⟩) (grownBy_setCell (p := ⟨w.heap.size + 1, 0, none⟩) (grownBy_refl _ _) rfl _) rfl _
  have RS : Hid (ShR w.heap.size ((w1.setCell ⟨w.heap.size + 1, 0, none⟩ (.int .i64 k)).setCell ⟨w.heap.size + 1, 1, none⟩ (.slice va vs.length vc)) (.slice va vs.length vc) vs rs) := (R.drawn gq (by omega)).base (by omega)
  have E := Box2.chain B1 VR (.int .i64 k) (.slice va vs.length vc)
  have Z := VR.put (.int .i64 k) (.slice va vs.length vc)
  obtain ⟨z0, z1, _, _⟩ := id Z
  obtain ⟨d0, d1, df, _⟩ := id VR
  clear R B V2 hb B1 gq S
  go_wp2
  refine bodyPost_ret (v := .agg #[.int .i64 k, .slice va vs.length vc]) (by simp [results, Try.results34, go_sem, z0, z1]) rfl ?_
  exact ⟨_, vs, rfl, RS.out, E⟩

/-- What is turned. -/
def trnV (k q : Int) (rs : List (List (Int × Int))) : List (List (Int × Int)) := if goodB k rs then rs.map (·.map (rot (tq q))) else rs
end Go.Proofs.Ytakfjpenpnjlhaa
