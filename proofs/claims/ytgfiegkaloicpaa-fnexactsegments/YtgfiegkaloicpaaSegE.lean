/- The laws' helpers on segments and on marks: eqPtA2S, markShape, markPtA2S, heldPtA2S. -/
import Derived.Test.YtgfiegkaloicpaaSegS
import Derived.Test.YtgfiegkaloicpaaShapeM
namespace Go.Proofs.Ytgfiegkaloicpaa
open Go.RowKit

set_option maxRecDepth 20000 in
set_option maxHeartbeats 2000000 in
theorem eqSg (x y u v : Int) (w : World) :
    Calls Try.prog 34 #[.agg #[.int .i64 x, .int .i64 y, .int .i64 u, .int .i64 v], .agg #[.int .i64 x, .int .i64 y, .int .i64 u, .int .i64 v]] w fun e w' => e = .returned (.bool true) ∧ Below w.heap.size w w' := by
  have B0 := below2 w (.cells #[.int .i64 x, .int .i64 y, .int .i64 u, .int .i64 v] 64) (.cells #[.int .i64 x, .int .i64 y, .int .i64 u, .int .i64 v] 64)
  have V1 := (Box4.new w (lo := w.heap.size) (Nat.le_refl _) (.int .i64 x) (.int .i64 y) (.int .i64 u) (.int .i64 v) 64).below (below1 _ (.cells #[.int .i64 x, .int .i64 y, .int .i64 u, .int .i64 v] 64))
  have V2 := Box4.new (w.alloc (.cells #[.int .i64 x, .int .i64 y, .int .i64 u, .int .i64 v] 64)) (lo := w.heap.size) (by simp) (.int .i64 x) (.int .i64 y) (.int .i64 u) (.int .i64 v) 64
  rw [World.size_alloc] at V2
  go_enter Try.func34, Try.ntmps34
  go_wp2
  generalize (w.alloc (.cells #[.int .i64 x, .int .i64 y, .int .i64 u, .int .i64 v] 64)).alloc (.cells #[.int .i64 x, .int .i64 y, .int .i64 u, .int .i64 v] 64) = W at *
  go_loopw [5] (fun i wr => ∃ j : Nat, j ≤ 2 ∧ i = .int .i64 j ∧ Below W.heap.size W wr) (fun i _ => 2 - (intOf i).toNat)
  case atStart => exact ⟨0, by omega, rfl, Below.refl _ _⟩
  case round =>
    obtain ⟨j, hj, rfl, B⟩ := hrel
    rename World => wr
    have hj3 : j = 0 ∨ j = 1 ∨ j = 2 := by omega
    have B1 : Below wr.heap.size wr wr := Below.refl _ _
    rcases hj3 with rfl | rfl | rfl
    · have k0 : wr.cell? ⟨w.heap.size, 0, none⟩ = some (.int .i64 x) ∧ wr.cell? ⟨w.heap.size, 1, none⟩ = some (.int .i64 y) ∧ wr.cell? ⟨w.heap.size + 1, 0, none⟩ = some (.int .i64 x) ∧ wr.cell? ⟨w.heap.size + 1, 1, none⟩ = some (.int .i64 y) := ⟨(V1.below B).c0, (V1.below B).c1, (V2.below B).c0, (V2.below B).c1⟩
      go_wp2_with fail
      go_region_held3 (fun w' => w'.cell? ⟨w.heap.size, 0, none⟩ = some (.int .i64 x) ∧ w'.cell? ⟨w.heap.size, 1, none⟩ = some (.int .i64 y) ∧ w'.cell? ⟨w.heap.size + 1, 0, none⟩ = some (.int .i64 x) ∧ w'.cell? ⟨w.heap.size + 1, 1, none⟩ = some (.int .i64 y))
        (first | exact k0 | exact ⟨bat B1 k0.1, bat B1 k0.2.1, bat B1 k0.2.2.1, bat B1 k0.2.2.2⟩)
        ((go_at_call 29; refine (eqPt_any _ _ _ _ _).mono ?_; rintro e w5 ⟨rfl, hb⟩; rw [eqP_refl]; replace B1 := B1.drew.trans (hb.mono B1.drew.size)))
      replace B := B.trans (B1.mono B.size)
      go_wp2_with fail
      go_roundw
      case rel => exact ⟨1, by omega, rfl, B⟩
      case measure => simp [intOf]
    · have k0 : wr.cell? ⟨w.heap.size, 2, none⟩ = some (.int .i64 u) ∧ wr.cell? ⟨w.heap.size, 3, none⟩ = some (.int .i64 v) ∧ wr.cell? ⟨w.heap.size + 1, 2, none⟩ = some (.int .i64 u) ∧ wr.cell? ⟨w.heap.size + 1, 3, none⟩ = some (.int .i64 v) := ⟨(V1.below B).c2, (V1.below B).c3, (V2.below B).c2, (V2.below B).c3⟩
      go_wp2_with fail
      go_region_held3 (fun w' => w'.cell? ⟨w.heap.size, 2, none⟩ = some (.int .i64 u) ∧ w'.cell? ⟨w.heap.size, 3, none⟩ = some (.int .i64 v) ∧ w'.cell? ⟨w.heap.size + 1, 2, none⟩ = some (.int .i64 u) ∧ w'.cell? ⟨w.heap.size + 1, 3, none⟩ = some (.int .i64 v))
        (first | exact k0 | exact ⟨bat B1 k0.1, bat B1 k0.2.1, bat B1 k0.2.2.1, bat B1 k0.2.2.2⟩)
        ((go_at_call 29; refine (eqPt_any _ _ _ _ _).mono ?_; rintro e w5 ⟨rfl, hb⟩; rw [eqP_refl]; replace B1 := B1.drew.trans (hb.mono B1.drew.size)))
      replace B := B.trans (B1.mono B.size)
      go_wp2_with fail
      go_roundw
      case rel => exact ⟨2, by omega, rfl, B⟩
      case measure => simp [intOf]
    · go_wp2
      go_ret
      exact ⟨rfl, B0.trans (B.mono B0.size)⟩

set_option maxRecDepth 20000 in
set_option maxHeartbeats 2000000 in
theorem eqSgs (a b : Option Addr) (c d : Nat) (es : List Sg) (w : World) (h : SeesQ w a c es) (k : SeesQ w b d es) :
    Calls Try.prog 14 #[.slice a es.length c, .slice b es.length d] w fun e w' => e = .returned (.bool true) ∧ Below w.heap.size w w' := by
  have hm := h.max
  have hf := h.fits
  unfold maxLen at hm
  have hne : ((es.length : Int) != (es.length : Int)) = false := by simp
  go_enter Try.func14, Try.ntmps14
  go_wp2
  go_loopw [5] (fun i wr => ∃ j : Nat, j ≤ es.length ∧ i = .int .i64 j ∧ Below w.heap.size w wr) (fun i _ => es.length - (intOf i).toNat)
  case atStart => exact ⟨0, Nat.zero_le _, rfl, Below.refl _ _⟩
  case round =>
    obtain ⟨j, hj, rfl, B⟩ := hrel
    rename World => wr
    by_cases hlt : j < es.length
    · obtain ⟨b1, o1, rfl, hc⟩ := (h.below B).cells (by intro e; simp [e] at hlt)
      obtain ⟨b2, o2, rfl, hd⟩ := (k.below B).cells (by intro e; simp [e] at hlt)
      obtain ⟨g1, g2, g3, g4⟩ := hc j hlt
      obtain ⟨e1, e2, e3, e4⟩ := hd j hlt
      generalize (sgA es j).1.1 = x at *
      generalize (sgA es j).1.2 = y at *
      generalize (sgA es j).2.1 = u at *
      generalize (sgA es j).2.2 = v at *
      clear hc hd
      go_wp2_with fail
      have k0 : wr.cell? ⟨b1, o1 + j * 4, none⟩ = some (.int .i64 x) ∧ wr.cell? ⟨b1, o1 + j * 4 + 1, none⟩ = some (.int .i64 y) ∧ wr.cell? ⟨b1, o1 + j * 4 + 2, none⟩ = some (.int .i64 u) ∧ wr.cell? ⟨b1, o1 + j * 4 + 3, none⟩ = some (.int .i64 v) ∧ wr.cell? ⟨b2, o2 + j * 4, none⟩ = some (.int .i64 x) ∧ wr.cell? ⟨b2, o2 + j * 4 + 1, none⟩ = some (.int .i64 y) ∧ wr.cell? ⟨b2, o2 + j * 4 + 2, none⟩ = some (.int .i64 u) ∧ wr.cell? ⟨b2, o2 + j * 4 + 3, none⟩ = some (.int .i64 v) := ⟨g1, g2, g3, g4, e1, e2, e3, e4⟩
      have B1 : Below wr.heap.size wr wr := Below.refl _ _
      go_region_held3 (fun w' => w'.cell? ⟨b1, o1 + j * 4, none⟩ = some (.int .i64 x) ∧ w'.cell? ⟨b1, o1 + j * 4 + 1, none⟩ = some (.int .i64 y) ∧ w'.cell? ⟨b1, o1 + j * 4 + 2, none⟩ = some (.int .i64 u) ∧ w'.cell? ⟨b1, o1 + j * 4 + 3, none⟩ = some (.int .i64 v) ∧ w'.cell? ⟨b2, o2 + j * 4, none⟩ = some (.int .i64 x) ∧ w'.cell? ⟨b2, o2 + j * 4 + 1, none⟩ = some (.int .i64 y) ∧ w'.cell? ⟨b2, o2 + j * 4 + 2, none⟩ = some (.int .i64 u) ∧ w'.cell? ⟨b2, o2 + j * 4 + 3, none⟩ = some (.int .i64 v))
        (first | exact k0 | exact ⟨bat B1 k0.1, bat B1 k0.2.1, bat B1 k0.2.2.1, bat B1 k0.2.2.2.1, bat B1 k0.2.2.2.2.1, bat B1 k0.2.2.2.2.2.1, bat B1 k0.2.2.2.2.2.2.1, bat B1 k0.2.2.2.2.2.2.2⟩)
        ((go_at_call 34; refine (eqSg _ _ _ _ _).mono ?_; rintro e w5 ⟨rfl, hb⟩; replace B1 := B1.drew.trans (hb.mono B1.drew.size)))
      replace B := B.trans (B1.mono B.size)
      go_wp2_with fail
      go_roundw
      case rel => exact ⟨j + 1, by omega, by go_num, B⟩
      case measure => simp [intOf]; omega
    · go_wp2
      go_ret
      exact ⟨rfl, B⟩

theorem markSgs (a : Option Addr) (c m : Nat) (k : Int) (w : World) (hm : m ≤ 1000000) :
    Calls Try.prog 16 #[.slice a m c, .int .i64 k] w fun e w' => e = .returned (.int .i64 k) ∧ w' = w := by
  go_enter Try.func16, Try.ntmps16
  go_wp2
  go_loopw [5] (fun i wr => ∃ j : Nat, j ≤ m ∧ i = .int .i64 j ∧ Hid (wr = w)) (fun i _ => m - (intOf i).toNat)
  case atStart => exact ⟨0, Nat.zero_le _, rfl, rfl⟩
  case round =>
    obtain ⟨j, hj, rfl, hw⟩ := hrel
    by_cases hlt : j < m
    · go_wp2
      go_roundw
      case rel => exact ⟨j + 1, by omega, by go_num, hw⟩
      case measure => simp [intOf]; omega
    · go_wp2
      go_ret
      exact ⟨rfl, hw.out⟩
theorem heldSgs (a : Option Addr) (c m : Nat) (k : Int) (w : World) (hm : m ≤ 1000000) :
    Calls Try.prog 17 #[.slice a m c, .int .i64 k] w fun e w' => e = .returned (.int .i64 k) ∧ w' = w := by
  go_enter Try.func17, Try.ntmps17
  go_wp2
  go_loopw [5] (fun i wr => ∃ j : Nat, j ≤ m ∧ i = .int .i64 j ∧ Hid (wr = w)) (fun i _ => m - (intOf i).toNat)
  case atStart => exact ⟨0, Nat.zero_le _, rfl, rfl⟩
  case round =>
    obtain ⟨j, hj, rfl, hw⟩ := hrel
    by_cases hlt : j < m
    · go_wp2
      go_roundw
      case rel => exact ⟨j + 1, by omega, by go_num, hw⟩
      case measure => simp [intOf]; omega
    · go_wp2
      go_ret
      exact ⟨rfl, hw.out⟩

/-- Of one world came another one, by stores into blocks from lo up to below hi. -/
def Puts (lo hi : Nat) (w w' : World) : Prop := ∀ P : World → Prop, (∀ W b o u, lo ≤ b → b < hi → P W → P (W.setCell ⟨b, o, none⟩ u)) → P w → P w'
theorem Puts.refl (lo hi : Nat) (w : World) : Puts lo hi w w := fun _ _ h => h
theorem Puts.put {lo hi b : Nat} {w w' : World} (h : Puts lo hi w w') (h1 : lo ≤ b) (h2 : b < hi) (o : Nat) (u : Value) : Puts lo hi w (w'.setCell ⟨b, o, none⟩ u) :=
  fun P c p => c _ b o u h1 h2 (h P c p)
theorem Puts.trans {lo hi : Nat} {a b c : World} (h : Puts lo hi a b) (k : Puts lo hi b c) : Puts lo hi a c := fun P q p => k P q (h P q p)
theorem Puts.wider {lo hi lo' hi' : Nat} {a b : World} (h : Puts lo hi a b) (h1 : lo' ≤ lo) (h2 : hi ≤ hi') : Puts lo' hi' a b := fun P q p => h P (fun W b o u x y z => q W b o u (by omega) (by omega) z) p
/-- There are cells, which may be written. -/
structure Has (w : World) (b off n : Nat) : Prop where
  c : ∀ o, o < n → ∃ v, w.cell? ⟨b, off + o, none⟩ = some v
  f : ∀ o, w.frozen? ⟨b, o, none⟩ = false
theorem Has.put {w : World} {b off n : Nat} (h : Has w b off n) (b' o : Nat) (u : Value) : Has (w.setCell ⟨b', o, none⟩ u) b off n :=
  ⟨fun i hi => by
    obtain ⟨v, hv⟩ := h.c i hi
    by_cases e : b' = b ∧ o = off + i
    · obtain ⟨rfl, rfl⟩ := e
      exact ⟨u, cell_same hv u⟩
    · refine ⟨v, (cell_other ?_ u).trans hv⟩
      by_cases e1 : b' = b
      · exact .inr (fun q => e ⟨e1, q⟩)
      · exact .inl e1, fun i => (World.frozen?_setCell ..).trans (h.f i)⟩

set_option maxRecDepth 20000 in
set_option maxHeartbeats 1000000 in
theorem markPts (b off c m : Nat) (k : Int) (w : World) (h : Has w b off (m * 2)) (hm : m ≤ 1048576) (hc : c ≤ maxLen) (hmc : m ≤ c) (k0 : 0 ≤ k) (k1 : k ≤ 1000000000000) :
    Calls Try.prog 52 #[.slice (some ⟨b, off, none⟩) m c, .int .i64 k] w fun e w' => e = .returned (.int .i64 (k + 2 * (m : Int))) ∧ Puts b (b + 1) w w' := by
  unfold maxLen at hc
  go_enter Try.func52, Try.ntmps52
  go_wp2
  go_loopw [1, 5] (fun s1 i wr => ∃ j : Nat, j ≤ m ∧ i = .int .i64 j ∧ s1 = .int .i64 (k + 2 * (j : Int)) ∧ Hid (Puts b (b + 1) w wr)) (fun _ i _ => m - (intOf i).toNat)
  case atStart => exact ⟨0, Nat.zero_le _, rfl, by simp, Puts.refl _ _ _⟩
  case round =>
    obtain ⟨j, hj, rfl, rfl, P⟩ := hrel
    rename World => wr
    by_cases hlt : j < m
    · have H := P.out (fun W => Has W b off (m * 2)) (fun W b' o u _ _ q => q.put b' o u) h
      obtain ⟨v0, c0⟩ := H.c (j * 2) (by omega)
      have f0 := H.f
      have P1 := P.out.put (Nat.le_refl b) (Nat.lt_succ_self b) (off + j * 2) (.int .i64 (k + 2 * (j : Int)))
      have H1 := H.put b (off + j * 2) (.int .i64 (k + 2 * (j : Int)))
      obtain ⟨v1, c1⟩ := H1.c (j * 2 + 1) (by omega)
      have f1 := H1.f
      rw [← Nat.add_assoc] at c1
      have P2 : Hid (Puts b (b + 1) w _) := P1.put (Nat.le_refl b) (Nat.lt_succ_self b) (off + j * 2 + 1) (.int .i64 (k + 2 * (j : Int) + 1))
      clear P P1 H H1
      go_wp2
      go_roundw
      case rel => exact ⟨j + 1, by omega, by go_num, (by congr 1; push_cast; omega), P2⟩
      case measure => simp [intOf]; omega
    · obtain rfl : j = m := by omega
      go_wp2
      go_ret
      exact ⟨rfl, P.out⟩
end Go.Proofs.Ytgfiegkaloicpaa
