/- Disks of the specification: a new one, whether one is good. -/
import Derived.Test.YtagkcaiodciomaaQuL
import Derived.Test.YtagkcaiodciomaaHeldQ
import Derived.Test.YtagkcaiodciomaaHeld
import Derived.Deep.Cut
namespace Go.Proofs.Ytagkcaiodciomaa
open Go.RowKit

theorem l1InD (x a b : Int) (w : World) :
    Calls Try.prog 9 #[.int .i64 x, .int .i64 a, .int .i64 b] w fun e w' => e = .returned (.bool (decide (a ≤ x) && decide (x ≤ b))) ∧ w' = w := by
  by_cases h1 : a ≤ x
  · by_cases h2 : x ≤ b
    · go_enter Try.func9, Try.ntmps9
      go_wp2
      go_ret
      exact ⟨by simp [h1, h2], rfl⟩
    · go_enter Try.func9, Try.ntmps9
      go_wp2
      go_ret
      exact ⟨by simp [h2], rfl⟩
  · go_enter Try.func9, Try.ntmps9
    go_wp2
    go_ret
    exact ⟨by rw [decide_eq_false (show ¬ a ≤ x by omega)]; rfl, rfl⟩

theorem l1InB (x a b : Int) (w : World) :
    Calls Try.prog 9 #[.int .i64 x, .int .i64 a, .int .i64 b] w fun e w' => e = .returned (.bool (decide (a ≤ x) && decide (x ≤ b))) ∧ Below w.heap.size w w' :=
  (l1InD x a b w).mono fun _ _ q => ⟨q.1, q.2 ▸ Below.refl _ _⟩
theorem RowB.made {base g n : Nat} {w : World} (h : w.ownsRow base 5 1 (.slice (some ⟨g, 0, none⟩) n n) n (madeCells #[Value.int .u8 0] n).toList) : RowB base w (.slice (some ⟨g, 0, none⟩) n n) (List.replicate n 0) := by
  have ZE : (madeCells #[Value.int .u8 0] n).toList = (List.replicate n (0 : Int)).map (Value.int .u8) := by
    apply List.ext_getElem
    · simp [madeCells]
    · intro i h1 h2
      simp [madeCells, Nat.mod_one]
  unfold RowB
  rw [List.length_replicate, ← ZE]
  exact h
/-- The bytes of a new disk. -/
def dkN (s : Int) : List Int := if 1 ≤ s ∧ s ≤ 400 then List.replicate (s.toNat * 64) 0 else []
theorem dkN_some {s : Int} (h : 1 ≤ s ∧ s ≤ 400) : dkN s = List.replicate (s.toNat * 64) 0 := if_pos h
theorem dkN_none {s : Int} (h : ¬(1 ≤ s ∧ s ≤ 400)) : dkN s = [] := if_neg h
theorem dkN_len (s : Int) : (dkN s).length ≤ 25600 := by
  by_cases h : 1 ≤ s ∧ s ≤ 400
  · rw [dkN_some h, List.length_replicate]; omega
  · rw [dkN_none h]; simp

set_option maxHeartbeats 1000000 in
theorem specDiskNew (s : Int) (w : World) :
    Calls Try.prog 11 #[.int .i64 s] w fun e w' => ∃ a c, e = .returned (.agg #[.slice a (dkN s).length c, .slice none 0 0]) ∧ DkR w.heap.size w' (.slice a (dkN s).length c) (.slice none 0 0) [] (dkN s) [] ∧ Below w.heap.size w w' := by
  have B := below1 w (.cells #[.slice none 0 0, .slice none 0 0] 25)
  have X := Box2.new w (lo := 0) (by omega) (.slice none 0 0) (.slice none 0 0) 25
  by_cases h : 1 ≤ s ∧ s ≤ 400
  · have hd : (decide (1 ≤ s) && decide (s ≤ 400)) = true := by simp [h.1, h.2]
    obtain ⟨h1, h2⟩ := h
    obtain ⟨m, rfl⟩ : ∃ m : Nat, s = m := ⟨s.toNat, by omega⟩
    have hl : (dkN m).length = m * 64 := by rw [dkN_some ⟨h1, h2⟩]; simp
    have hl2 : dkN m = List.replicate (m * 64) 0 := by rw [dkN_some ⟨h1, h2⟩]; simp
    obtain ⟨i0, hi, hz0, hz1, hz2⟩ := info_parts infoB
    go_enter Try.func11, Try.ntmps11
    go_wp2_with fail
    refine (l1InD _ _ _ _).mono ?_
    rintro e w1 ⟨rfl, rfl⟩
    rw [hd]
    go_wp2_with (at_make; refine wpList_make_full _ rfl _ _ 22 rfl w.heap.size 5 i0 (.int .u8 0) 1 Try.underlying22 hi hz0 hz1 .i64 .i64 _ _ (m * 64) rfl rfl rfl rfl ?b2 ?b3 ?b4 ?_)
    case b2 => rw [hz2]; omega
    case b3 => unfold maxLen; omega
    case b4 => simp
    intro w2 hown hgrow
    have R2 := RowB.made hown
    have B2 := B.grown hgrow B.size (fun k h => by cases h)
    have hb : w2.heap[w.heap.size]? = _ := hgrow.block w.heap.size X.lt (fun e => by cases e)
    have c0 := (World.cell?_of_block (a := ⟨w.heap.size, 0, none⟩) hb).trans X.c0
    have c1 := (World.cell?_of_block (a := ⟨w.heap.size, 1, none⟩) hb).trans X.c1
    have cf : ∀ o, w2.frozen? ⟨w.heap.size, o, none⟩ = false := fun o => (World.frozen?_of_block (a := ⟨w.heap.size, o, none⟩) hb).trans (X.fr o)
    have put : ∀ {W : World} (o : Nat) (u : Value), RowB w.heap.size W (.slice (some ⟨w.heap.size + 1, 0, none⟩) (m * 64) (m * 64)) (List.replicate (m * 64) 0) → RowB w.heap.size (W.setCell ⟨w.heap.size, o, none⟩ u) (.slice (some ⟨w.heap.size + 1, 0, none⟩) (m * 64) (m * 64)) (List.replicate (m * 64) 0) := fun {W} o u q => owns_kept' q (grownBy_setCell (grownBy_refl W (some w.heap.size)) rfl u) (fun k hk e => by injection e with e; injection hk with hk; dsimp only at hk; omega)
    have R3 := put 1 (.slice none 0 0) (put 0 (.slice (some ⟨w.heap.size + 1, 0, none⟩) (m * 64) (m * 64)) R2)
    have B3 := (B2.setCell (p := ⟨w.heap.size, 0, none⟩) (Nat.le_refl _) (.slice (some ⟨w.heap.size + 1, 0, none⟩) (m * 64) (m * 64))).setCell (p := ⟨w.heap.size, 1, none⟩) (Nat.le_refl _) (.slice none 0 0)
    have D3 : Hid (DkR w.heap.size ((w2.setCell ⟨w.heap.size, 0, none⟩ (.slice (some ⟨w.heap.size + 1, 0, none⟩) (m * 64) (m * 64))).setCell ⟨w.heap.size, 1, none⟩ (.slice none 0 0)) (.slice (some ⟨w.heap.size + 1, 0, none⟩) (dkN m).length (m * 64)) (.slice none 0 0) [] (dkN m) []) := ⟨by rw [hl, hl2]; exact R3, QuR.nil _ _, fun k _ => ⟨(fun e => by cases e), (fun u hu => by cases hu)⟩⟩
    have HL : Hid ((dkN m).length = m * 64) := hl
    clear hown hgrow hb put R2 R3 B2 hl hl2 hi hz0 hz1 hz2 X
    go_wp2
    exact bodyPost_ret (v := .agg #[.slice (some ⟨w.heap.size + 1, 0, none⟩) (m * 64) (m * 64), .slice none 0 0]) (by simp [results, Try.results11, go_sem, c0, c1]) rfl ⟨_, _, by rw [HL.out], D3.out, B3⟩
  · have hd : (decide (1 ≤ s) && decide (s ≤ 400)) = false := by
      rcases Classical.not_and_iff_not_or_not.1 h with q | q
      · rw [decide_eq_false q]; rfl
      · rw [decide_eq_false q, Bool.and_false]
    have hl : Hid (dkN s = []) := dkN_none h
    obtain ⟨c0, c1, cf, _⟩ := X
    clear h
    go_enter Try.func11, Try.ntmps11
    go_wp2_with fail
    refine (l1InD _ _ _ _).mono ?_
    rintro e w1 ⟨rfl, rfl⟩
    rw [hd]
    go_wp2
    exact bodyPost_ret (v := .agg #[.slice none 0 0, .slice none 0 0]) (by simp [results, Try.results11, go_sem, c0, c1]) rfl ⟨none, 0, by rw [hl.out]; rfl, by rw [hl.out]; exact ⟨RowB.nil _ _, QuR.nil _ _, fun k _ => ⟨(fun e => by cases e), (fun u hu => by cases hu)⟩⟩, B⟩

def WrOk (n : Nat) (q : Wr) : Prop := 0 ≤ q.1 ∧ q.1 < (n : Int) ∧ q.2.length = 64
/-- A good disk. -/
def DkOk (bs : List Int) (qs : List Wr) : Prop := bs.length % 64 = 0 ∧ 1 ≤ bs.length / 64 ∧ bs.length / 64 ≤ 400 ∧ ∀ i, i < qs.length → WrOk (bs.length / 64) (wrN qs i)

end Go.Proofs.Ytagkcaiodciomaa
