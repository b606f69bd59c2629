/- The program's DiskNew. -/
import Derived.Test.YtagkcaiodciomaaDkS
namespace Go.Proofs.Ytagkcaiodciomaa
open Go.RowKit

set_option maxHeartbeats 1000000 in
theorem implDiskNew (s : Int) (w : World) :
    Calls Try.prog 12 #[.int .i64 s] w fun e w' => ∃ a c, e = .returned (.agg #[.slice a (dkN s).length c, .slice none 0 0]) ∧ DkR w.heap.size w' (.slice a (dkN s).length c) (.slice none 0 0) [] (dkN s) [] ∧ Below w.heap.size w w' := by
  have B := below1 w (.cells #[.slice none 0 0, .slice none 0 0] 25)
  have X := Box2.new w (lo := 0) (by omega) (.slice none 0 0) (.slice none 0 0) 25
  by_cases h : 1 ≤ s ∧ s ≤ 400
  · obtain ⟨h1, h2⟩ := h
    obtain ⟨m, rfl⟩ : ∃ m : Nat, s = m := ⟨s.toNat, by omega⟩
    have hl : (dkN m).length = m * 64 := by rw [dkN_some ⟨h1, h2⟩]; simp
    have hl2 : dkN m = List.replicate (m * 64) 0 := by rw [dkN_some ⟨h1, h2⟩]; simp
    obtain ⟨i0, hi, hz0, hz1, hz2⟩ := info_parts infoB
    go_enter Try.func12, Try.ntmps12
    go_wp2_with (at_make; refine wpList_make_full _ rfl _ _ 22 rfl w.heap.size 5 i0 (.int .u8 0) 1 Try.underlying22 hi hz0 hz1 .i64 .i64 _ _ (m * 64) rfl rfl rfl rfl ?b2 ?b3 ?b4 ?_)
    case b2 => rw [hz2]; omega
    case b3 => unfold maxLen; omega
    case b4 => simp
    intro w2 hown hgrow
    have R2 := RowB.made hown
    have B2 := B.grown hgrow B.size (fun k h => by cases h)
    have hb : w2.heap[w.heap.size]? = _ := hgrow.block w.heap.size X.lt (fun e => by cases e)
    have c0 := (World.cell?_of_block (a := ⟨w.heap.size, 0, none⟩) hb).trans X.c0
    have c1 := (World.cell?_of_block (a := ⟨w.heap.size, 1, none⟩) hb).trans X.c1
    have cf : ∀ o, w2.frozen? ⟨w.heap.size, o, none⟩ = false := fun o => (World.frozen?_of_block (a := ⟨w.heap.size, o, none⟩) hb).trans (X.fr o)
    have put : ∀ {W : World} (o : Nat) (u : Value), RowB w.heap.size W (.slice (some ⟨w.heap.size + 1, 0, none⟩) (m * 64) (m * 64)) (List.replicate (m * 64) 0) → RowB w.heap.size (W.setCell ⟨w.heap.size, o, none⟩ u) (.slice (some ⟨w.heap.size + 1, 0, none⟩) (m * 64) (m * 64)) (List.replicate (m * 64) 0) := fun {W} o u q => owns_kept' q (grownBy_setCell (grownBy_refl W (some w.heap.size)) rfl u) (fun k hk e => by injection e with e; injection hk with hk; dsimp only at hk; omega)
    have R3 := put 1 (.slice none 0 0) (put 0 (.slice (some ⟨w.heap.size + 1, 0, none⟩) (m * 64) (m * 64)) R2)
    have B3 := (B2.setCell (p := ⟨w.heap.size, 0, none⟩) (Nat.le_refl _) (.slice (some ⟨w.heap.size + 1, 0, none⟩) (m * 64) (m * 64))).setCell (p := ⟨w.heap.size, 1, none⟩) (Nat.le_refl _) (.slice none 0 0)
    have D3 : Hid (DkR w.heap.size ((w2.setCell ⟨w.heap.size, 0, none⟩ (.slice (some ⟨w.heap.size + 1, 0, none⟩) (m * 64) (m * 64))).setCell ⟨w.heap.size, 1, none⟩ (.slice none 0 0)) (.slice (some ⟨w.heap.size + 1, 0, none⟩) (dkN m).length (m * 64)) (.slice none 0 0) [] (dkN m) []) := ⟨by rw [hl, hl2]; exact R3, QuR.nil _ _, fun k _ => ⟨(fun e => by cases e), (fun u hu => by cases hu)⟩⟩
    have HL : Hid ((dkN m).length = m * 64) := hl
    clear hown hgrow hb put R2 R3 B2 hl hl2 hi hz0 hz1 hz2 X
    go_wp2
    exact bodyPost_ret (v := .agg #[.slice (some ⟨w.heap.size + 1, 0, none⟩) (m * 64) (m * 64), .slice none 0 0]) (by simp [results, Try.results12, go_sem, c0, c1]) rfl ⟨_, _, by rw [HL.out], D3.out, B3⟩
  · have hl : Hid (dkN s = []) := dkN_none h
    obtain ⟨c0, c1, cf, _⟩ := X
    rcases (show s < 1 ∨ ¬ s < 1 ∧ 400 < s by omega) with q | ⟨q, q2⟩
    · clear h
      go_enter Try.func12, Try.ntmps12
      go_wp2
      exact bodyPost_ret (v := .agg #[.slice none 0 0, .slice none 0 0]) (by simp [results, Try.results12, go_sem, c0, c1]) rfl ⟨none, 0, by rw [hl.out]; rfl, by rw [hl.out]; exact ⟨RowB.nil _ _, QuR.nil _ _, fun k _ => ⟨(fun e => by cases e), (fun u hu => by cases hu)⟩⟩, B⟩
    · clear h
      go_enter Try.func12, Try.ntmps12
      go_wp2
      exact bodyPost_ret (v := .agg #[.slice none 0 0, .slice none 0 0]) (by simp [results, Try.results12, go_sem, c0, c1]) rfl ⟨none, 0, by rw [hl.out]; rfl, by rw [hl.out]; exact ⟨RowB.nil _ _, QuR.nil _ _, fun k _ => ⟨(fun e => by cases e), (fun u hu => by cases hu)⟩⟩, B⟩
end Go.Proofs.Ytagkcaiodciomaa
