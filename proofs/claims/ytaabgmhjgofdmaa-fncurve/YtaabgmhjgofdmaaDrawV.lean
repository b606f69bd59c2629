/- A point of a code: spec.DrawCurveOf. -/
import Derived.Test.YtaabgmhjgofdmaaCurP
namespace Go.Proofs.Ytaabgmhjgofdmaa
open Go.RowKit

set_option maxRecDepth 20000 in
set_option maxHeartbeats 2000000 in
theorem drawCurveOf_any (a : Option Addr) (n cap : Nat) (w : World) (hB : Byt w a n) (hm : n ≤ 1048576) :
    Calls Try.prog 5 #[.slice a n cap] w fun e w' => ∃ x y : Int, e = .returned (.agg #[.int .i64 x, .int .i64 y]) ∧ Below w.heap.size w w' := by
  have HM : Hid (n ≤ 1048576) := hm
  have R0 := Box2.new w (lo := w.heap.size) (Nat.le_refl _) (.int .i64 0) (.int .i64 0) 25
  have N := below1 w (.cells #[.int .i64 0, .int .i64 0] 25)
  have hB' := hB.below N
  have sz : (w.alloc (.cells #[.int .i64 0, .int .i64 0] 25)).heap.size = w.heap.size + 1 := by simp
  clear hB hm
  go_enter Try.func5, Try.ntmps5
  go_wp2_with fail
  generalize w.alloc (.cells #[.int .i64 0, .int .i64 0] 25) = W0 at *
  refine (l1New_any a n cap _ hB' HM.out).mono ?_
  rintro e w1 ⟨rfl, hc, hb⟩
  replace R0 := R0.below hb
  replace N := N.trans (hb.mono N.size)
  rw [sz] at hc
  rw [sz]
  clear hb hB' sz
  go_wp2_with fail
  refine (l3Draw_any (w.heap.size + 1) a n cap _ hc).mono ?_
  rintro e w2 ⟨x, y, rfl, hc2, g⟩
  replace R0 := R0.grown g (by omega)
  replace N : Below w.heap.size w w2 := N.trans ⟨g.os, g.tape, g.output, g.size, fun i hi => g.block i (by have := N.size; omega) (by intro e; simp at e; omega)⟩
  clear g hc hc2
  have Z := Box2.chain N R0 (.int .i64 x) (.int .i64 y)
  obtain ⟨y0, y1, _, _⟩ := R0.put (.int .i64 x) (.int .i64 y)
  obtain ⟨z0, z1, zf, _⟩ := R0
  go_wp2
  refine bodyPost_ret (v := .agg #[.int .i64 x, .int .i64 y]) (by simp [results, Try.results5, go_sem, y0, y1]) rfl ?_
  exact ⟨x, y, rfl, Z⟩
end Go.Proofs.Ytaabgmhjgofdmaa
