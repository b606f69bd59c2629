/- The laws' helpers on segments and on marks: eqPtA2S, markShape, markPtA2S, heldPtA2S. -/
import Derived.Test.YthhogmbhgehaeaaDoorSegS
import Derived.Test.YthhogmbhgehaeaaDoorShapeM
namespace Go.Proofs.YthhogmbhgehaeaaDoor
open Go.RowKit

/-- Of one world came another one, by stores into blocks from lo up to below hi. -/
def Puts (lo hi : Nat) (w w' : World) : Prop := ∀ P : World → Prop, (∀ W b o u, lo ≤ b → b < hi → P W → P (W.setCell ⟨b, o, none⟩ u)) → P w → P w'
theorem Puts.refl (lo hi : Nat) (w : World) : Puts lo hi w w := fun _ _ h => h
theorem Puts.put {lo hi b : Nat} {w w' : World} (h : Puts lo hi w w') (h1 : lo ≤ b) (h2 : b < hi) (o : Nat) (u : Value) : Puts lo hi w (w'.setCell ⟨b, o, none⟩ u) :=
  fun P c p => c _ b o u h1 h2 (h P c p)
theorem Puts.trans {lo hi : Nat} {a b c : World} (h : Puts lo hi a b) (k : Puts lo hi b c) : Puts lo hi a c := fun P q p => k P q (h P q p)
theorem Puts.wider {lo hi lo' hi' : Nat} {a b : World} (h : Puts lo hi a b) (h1 : lo' ≤ lo) (h2 : hi ≤ hi') : Puts lo' hi' a b := fun P q p => h P (fun W b o u x y z => q W b o u (by omega) (by omega) z) p
/-- There are cells, which may be written. -/
structure Has (w : World) (b off n : Nat) : Prop where
  c : ∀ o, o < n → ∃ v, w.cell? ⟨b, off + o, none⟩ = some v
  f : ∀ o, w.frozen? ⟨b, o, none⟩ = false
theorem Has.put {w : World} {b off n : Nat} (h : Has w b off n) (b' o : Nat) (u : Value) : Has (w.setCell ⟨b', o, none⟩ u) b off n :=
  ⟨fun i hi => by
    obtain ⟨v, hv⟩ := h.c i hi
    by_cases e : b' = b ∧ o = off + i
    · obtain ⟨rfl, rfl⟩ := e
      exact ⟨u, cell_same hv u⟩
    · refine ⟨v, (cell_other ?_ u).trans hv⟩
      by_cases e1 : b' = b
      · exact .inr (fun q => e ⟨e1, q⟩)
      · exact .inl e1, fun i => (World.frozen?_setCell ..).trans (h.f i)⟩

set_option maxRecDepth 20000 in
set_option maxHeartbeats 1000000 in
theorem markPts (b off c m : Nat) (k : Int) (w : World) (h : Has w b off (m * 2)) (hm : m ≤ 1048576) (hc : c ≤ maxLen) (hmc : m ≤ c) (k0 : 0 ≤ k) (k1 : k ≤ 1000000000000) :
    Calls Tryd.prog 38 #[.slice (some ⟨b, off, none⟩) m c, .int .i64 k] w fun e w' => e = .returned (.int .i64 (k + 2 * (m : Int))) ∧ Puts b (b + 1) w w' := by
  unfold maxLen at hc
  go_enter Tryd.func38, Tryd.ntmps38
  go_wp2
  go_loopw [1, 5] (fun s1 i wr => ∃ j : Nat, j ≤ m ∧ i = .int .i64 j ∧ s1 = .int .i64 (k + 2 * (j : Int)) ∧ Hid (Puts b (b + 1) w wr)) (fun _ i _ => m - (intOf i).toNat)
  case atStart => exact ⟨0, Nat.zero_le _, rfl, by simp, Puts.refl _ _ _⟩
  case round =>
    obtain ⟨j, hj, rfl, rfl, P⟩ := hrel
    rename World => wr
    by_cases hlt : j < m
    · have H := P.out (fun W => Has W b off (m * 2)) (fun W b' o u _ _ q => q.put b' o u) h
      obtain ⟨v0, c0⟩ := H.c (j * 2) (by omega)
      have f0 := H.f
      have P1 := P.out.put (Nat.le_refl b) (Nat.lt_succ_self b) (off + j * 2) (.int .i64 (k + 2 * (j : Int)))
      have H1 := H.put b (off + j * 2) (.int .i64 (k + 2 * (j : Int)))
      obtain ⟨v1, c1⟩ := H1.c (j * 2 + 1) (by omega)
      have f1 := H1.f
      rw [← Nat.add_assoc] at c1
      have P2 : Hid (Puts b (b + 1) w _) := P1.put (Nat.le_refl b) (Nat.lt_succ_self b) (off + j * 2 + 1) (.int .i64 (k + 2 * (j : Int) + 1))
      clear P P1 H H1
      go_wp2
      go_roundw
      case rel => exact ⟨j + 1, by omega, by go_num, (by congr 1; push_cast; omega), P2⟩
      case measure => simp [intOf]; omega
    · obtain rfl : j = m := by omega
      go_wp2
      go_ret
      exact ⟨rfl, P.out⟩
end Go.Proofs.YthhogmbhgehaeaaDoor
