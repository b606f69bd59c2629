/- TreeOk, of the program. -/
import Derived.Test.YtilobdohoaoikaaTsC
namespace Go.Proofs.Ytilobdohoaoikaa
open Go.RowKit

set_option maxRecDepth 20000 in
theorem implTreeOk (t : Nd) (v1 v2 v3 : Value) (w : World) (N : NdUp w 0 t v1 v2 v3) (hs : ndSz t ≤ 1048576) :
    Calls Try.prog 9 #[ndV t v1 v2 v3] w fun e w' => e = .returned (.bool (okT t)) ∧ Below w.heap.size w w' := by
  have C := fun W (hb : Below w.heap.size w W) => treeOf_any t v1 v2 v3 W (NdUp.keep hb _ N) hs
  obtain ⟨a1, c1, a2, c2, a3, c3, rfl, rfl, rfl, _⟩ := N.open
  obtain ⟨z, HZ⟩ : ∃ z, Hid (okT t = z) := ⟨_, rfl⟩
  rw [HZ.out] at C ⊢
  unfold ndV at *
  obtain ⟨⟨x1, x2, x3, x4⟩, ux⟩ : ∃ x, Hid (t.b = x) := ⟨_, rfl⟩
  rw [ux.out] at C ⊢
  dsimp only at C ⊢
  clear N hs
  generalize t.bs.length = m1 at *
  generalize t.is.length = m2 at *
  generalize t.ks.length = m3 at *
  have B := below1 w (.cells #[.int .i64 x1, .int .i64 x2, .int .i64 x3, .int .i64 x4, .slice a1 m1 c1, .slice a2 m2 c2, .slice a3 m3 c3] 39)
  have V := Sev.new w x1 x2 x3 x4 (.slice a1 m1 c1) (.slice a2 m2 c2) (.slice a3 m3 c3) 39
  obtain ⟨⟨k0, k1, k2, k3⟩, k4, k5, k6⟩ := id V
  simp only [Nat.zero_add] at k0 k1 k2 k3 k4 k5 k6
  go_enter Try.func9, Try.ntmps9
  go_wp2_with fail
  generalize w.alloc (.cells #[.int .i64 x1, .int .i64 x2, .int .i64 x3, .int .i64 x4, .slice a1 m1 c1, .slice a2 m2 c2, .slice a3 m3 c3] 39) = W0 at *
  refine (C _ B).mono ?_
  rintro e w1 ⟨a, rfl, _, hb⟩
  replace B := B.trans (hb.mono B.size)
  clear hb k0 k1 k2 k3 k4 k5 k6 V C
  go_wp2
  go_ret
  exact ⟨rfl, B⟩
end Go.Proofs.Ytilobdohoaoikaa
