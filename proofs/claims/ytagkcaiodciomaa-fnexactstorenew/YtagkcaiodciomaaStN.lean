/- StoreNew of both sides: the disk of a new store. -/
import Derived.Test.YtagkcaiodciomaaDkNI
import Derived.Test.YtagkcaiodciomaaDkU
namespace Go.Proofs.Ytagkcaiodciomaa
open Go.RowKit

/-- The bytes of a new store's disk. -/
def stN (h : Int) : List Int := if 4 ≤ h ∧ h ≤ 199 then dkN (2 * h + 2) else []
theorem stN_some {h : Int} (k : 4 ≤ h ∧ h ≤ 199) : stN h = dkN (2 * h + 2) := if_pos k
theorem stN_none {h : Int} (k : ¬(4 ≤ h ∧ h ≤ 199)) : stN h = [] := if_neg k
theorem stN_len (h : Int) : (stN h).length ≤ 25600 := by
  by_cases k : 4 ≤ h ∧ h ≤ 199
  · rw [stN_some k]; exact dkN_len _
  · rw [stN_none k]; simp
def StPost (base : Nat) (h : Int) (e : Ending) (w' : World) : Prop := ∃ a c b d, e = .returned (.tuple #[.agg #[.slice a (stN h).length c, .slice b 0 d], .bool (decide (4 ≤ h ∧ h ≤ 199))]) ∧ DkR base w' (.slice a (stN h).length c) (.slice b 0 d) [] (stN h) []

theorem l14Size_in (h : Int) (w : World) (k : 4 ≤ h ∧ h ≤ 199) :
    Calls Try.prog 10 #[.int .i64 h] w fun e w' => e = .returned (.bool true) ∧ w' = w := by
  obtain ⟨k1, k2⟩ := k
  have hd : decide (2 * h + 2 ≤ 400) = true := decide_eq_true (by omega)
  go_enter Try.func10, Try.ntmps10
  go_wp2
  go_ret
  exact ⟨rfl, rfl⟩
theorem l14Size_out (h : Int) (w : World) (k : 200 ≤ h) (k2 : h ≤ 400) :
    Calls Try.prog 10 #[.int .i64 h] w fun e w' => e = .returned (.bool false) ∧ w' = w := by
  have k0 : 4 ≤ h := by omega
  have hd : decide (2 * h + 2 ≤ 400) = false := decide_eq_false (by omega)
  go_enter Try.func10, Try.ntmps10
  go_wp2
  go_ret
  exact ⟨rfl, rfl⟩

set_option maxHeartbeats 1000000 in
theorem specStoreNew (h : Int) (w : World) :
    Calls Try.prog 4 #[.int .i64 h] w fun e w' => StPost w.heap.size h e w' ∧ Below w.heap.size w w' := by
  have B := below1 w (.cells #[.slice none 0 0, .slice none 0 0] 25)
  have X := Box2.new w (lo := w.heap.size) (Nat.le_refl _) (.slice none 0 0) (.slice none 0 0) 25
  have NO : Hid (¬(4 ≤ h ∧ h ≤ 199) → ∀ w' : World, StPost w.heap.size h (.returned (.tuple #[.agg #[.slice none 0 0, .slice none 0 0], .bool false])) w') := fun k w' => ⟨none, 0, none, 0, by rw [stN_none k, decide_eq_false k]; rfl, by rw [stN_none k]; exact ⟨RowB.nil _ _, QuR.nil _ _, fun k _ => ⟨(fun e => by cases e), (fun u hu => by cases hu)⟩⟩⟩
  by_cases k : 4 ≤ h ∧ h ≤ 199
  · have hd : (decide (4 ≤ h) && decide (h ≤ 400)) = true := by rw [decide_eq_true k.1, decide_eq_true (show h ≤ 400 by omega)]; rfl
    have HK : Hid (4 ≤ h ∧ h ≤ 199) := k
    obtain ⟨k1, k2⟩ := k
    clear NO
    go_enter Try.func4, Try.ntmps4
    go_wp2_with fail
    generalize w.alloc (.cells #[.slice none 0 0, .slice none 0 0] 25) = W at *
    refine (l1InD _ _ _ _).mono ?_
    rintro e w1 ⟨rfl, rfl⟩
    rw [hd]
    go_wp2_with fail
    refine (l14Size_in h _ HK.out).mono ?_
    rintro e w1 ⟨rfl, rfl⟩
    go_wp2_with fail
    refine (specDiskNew (2 * h + 2) _).mono ?_
    rintro e w2 ⟨a0, c0, rfl, D0, hb⟩
    have n1 := D0.nots (p := w.heap.size) (.inr X.lt)
    replace D0 := D0.base (lo' := w.heap.size) B.size
    replace X := X.below hb
    replace B := B.trans (hb.mono B.size)
    clear hb hd
    rw [← stN_some HK.out] at D0 n1 ⊢
    obtain ⟨bs, hbs⟩ : ∃ bs, Hid (stN h = bs) := ⟨_, rfl⟩
    rw [hbs.out] at D0 n1 ⊢
    have gq := grownBy_setCell (grownBy_setCell (grownBy_refl w2 (some w.heap.size)) (p := ⟨w.heap.size, 0, none⟩) rfl (.slice a0 bs.length c0)) (p := ⟨w.heap.size, 1, none⟩) rfl (.slice none 0 0)
    have D1 := D0.kept gq (fun k hk e => by injection e with e; subst e; exact n1.out _ (List.mem_cons_self ..) hk) (fun k hk e => by cases hk) (fun u hu k hk e => by cases hu)
    have B3 := (B.setCell (p := ⟨w.heap.size, 0, none⟩) (Nat.le_refl _) (.slice a0 bs.length c0)).setCell (p := ⟨w.heap.size, 1, none⟩) (Nat.le_refl _) (.slice none 0 0)
    have X3 := X.put (.slice a0 bs.length c0) (.slice none 0 0)
    have OUT : Hid (StPost w.heap.size h (.returned (.tuple #[.agg #[.slice a0 bs.length c0, .slice none 0 0], .bool true])) ((w2.setCell ⟨w.heap.size, 0, none⟩ (.slice a0 bs.length c0)).setCell ⟨w.heap.size, 1, none⟩ (.slice none 0 0))) := ⟨a0, c0, none, 0, by rw [hbs.out, decide_eq_true HK.out], by rw [hbs.out]; exact D1⟩
    have y0 := X3.c0
    have y1 := X3.c1
    obtain ⟨x0, x1, xf, _⟩ := X
    clear gq D1 X3 D0 n1
    go_wp2
    exact bodyPost_ret (v := .tuple #[.agg #[.slice a0 bs.length c0, .slice none 0 0], .bool true]) (by simp [results, Try.results4, go_sem, y0, y1]) rfl ⟨OUT.out, B3⟩
  · have HN : Hid (¬(4 ≤ h ∧ h ≤ 199)) := k
    have y0 := X.c0
    have y1 := X.c1
    obtain ⟨x0, x1, xf, _⟩ := X
    by_cases q : 4 ≤ h ∧ h ≤ 400
    · have hd : (decide (4 ≤ h) && decide (h ≤ 400)) = true := by rw [decide_eq_true q.1, decide_eq_true q.2]; rfl
      have q2 : 200 ≤ h ∧ h ≤ 400 := by omega
      clear k q
      go_enter Try.func4, Try.ntmps4
      go_wp2_with fail
      refine (l1InD _ _ _ _).mono ?_
      rintro e w1 ⟨rfl, rfl⟩
      rw [hd]
      go_wp2_with fail
      refine (l14Size_out h _ q2.1 q2.2).mono ?_
      rintro e w1 ⟨rfl, rfl⟩
      go_wp2
      exact bodyPost_ret (v := .tuple #[.agg #[.slice none 0 0, .slice none 0 0], .bool false]) (by simp [results, Try.results4, go_sem, y0, y1]) rfl ⟨NO.out HN.out _, B⟩
    · have hd : (decide (4 ≤ h) && decide (h ≤ 400)) = false := by
        rcases Classical.not_and_iff_not_or_not.1 q with q | q
        · rw [decide_eq_false q]; rfl
        · rw [decide_eq_false q, Bool.and_false]
      clear k q
      go_enter Try.func4, Try.ntmps4
      go_wp2_with fail
      refine (l1InD _ _ _ _).mono ?_
      rintro e w1 ⟨rfl, rfl⟩
      rw [hd]
      go_wp2
      exact bodyPost_ret (v := .tuple #[.agg #[.slice none 0 0, .slice none 0 0], .bool false]) (by simp [results, Try.results4, go_sem, y0, y1]) rfl ⟨NO.out HN.out _, B⟩

set_option maxHeartbeats 1000000 in
theorem implStoreNew (h : Int) (w : World) :
    Calls Try.prog 5 #[.int .i64 h] w fun e w' => StPost w.heap.size h e w' ∧ Below w.heap.size w w' := by
  have B := below1 w (.cells #[.slice none 0 0, .slice none 0 0] 25)
  have X := Box2.new w (lo := w.heap.size) (Nat.le_refl _) (.slice none 0 0) (.slice none 0 0) 25
  have NO : Hid (¬(4 ≤ h ∧ h ≤ 199) → ∀ w' : World, StPost w.heap.size h (.returned (.tuple #[.agg #[.slice none 0 0, .slice none 0 0], .bool false])) w') := fun k w' => ⟨none, 0, none, 0, by rw [stN_none k, decide_eq_false k]; rfl, by rw [stN_none k]; exact ⟨RowB.nil _ _, QuR.nil _ _, fun k _ => ⟨(fun e => by cases e), (fun u hu => by cases hu)⟩⟩⟩
  by_cases k : 4 ≤ h ∧ h ≤ 199
  · skip
    have HK : Hid (4 ≤ h ∧ h ≤ 199) := k
    obtain ⟨k1, k2⟩ := k
    clear NO
    go_enter Try.func5, Try.ntmps5
    go_wp2_with fail
    generalize w.alloc (.cells #[.slice none 0 0, .slice none 0 0] 25) = W at *
    refine (implDiskNew (2 * h + 2) _).mono ?_
    rintro e w2 ⟨a0, c0, rfl, D0, hb⟩
    have n1 := D0.nots (p := w.heap.size) (.inr X.lt)
    replace D0 := D0.base (lo' := w.heap.size) B.size
    replace X := X.below hb
    replace B := B.trans (hb.mono B.size)
    clear hb
    rw [← stN_some HK.out] at D0 n1 ⊢
    obtain ⟨bs, hbs⟩ : ∃ bs, Hid (stN h = bs) := ⟨_, rfl⟩
    rw [hbs.out] at D0 n1 ⊢
    have gq := grownBy_setCell (grownBy_setCell (grownBy_refl w2 (some w.heap.size)) (p := ⟨w.heap.size, 0, none⟩) rfl (.slice a0 bs.length c0)) (p := ⟨w.heap.size, 1, none⟩) rfl (.slice none 0 0)
    have D1 := D0.kept gq (fun k hk e => by injection e with e; subst e; exact n1.out _ (List.mem_cons_self ..) hk) (fun k hk e => by cases hk) (fun u hu k hk e => by cases hu)
    have B3 := (B.setCell (p := ⟨w.heap.size, 0, none⟩) (Nat.le_refl _) (.slice a0 bs.length c0)).setCell (p := ⟨w.heap.size, 1, none⟩) (Nat.le_refl _) (.slice none 0 0)
    have X3 := X.put (.slice a0 bs.length c0) (.slice none 0 0)
    have OUT : Hid (StPost w.heap.size h (.returned (.tuple #[.agg #[.slice a0 bs.length c0, .slice none 0 0], .bool true])) ((w2.setCell ⟨w.heap.size, 0, none⟩ (.slice a0 bs.length c0)).setCell ⟨w.heap.size, 1, none⟩ (.slice none 0 0))) := ⟨a0, c0, none, 0, by rw [hbs.out, decide_eq_true HK.out], by rw [hbs.out]; exact D1⟩
    have y0 := X3.c0
    have y1 := X3.c1
    obtain ⟨x0, x1, xf, _⟩ := X
    clear gq D1 X3 D0 n1
    go_wp2
    exact bodyPost_ret (v := .tuple #[.agg #[.slice a0 bs.length c0, .slice none 0 0], .bool true]) (by simp [results, Try.results5, go_sem, y0, y1]) rfl ⟨OUT.out, B3⟩
  · have HN : Hid (¬(4 ≤ h ∧ h ≤ 199)) := k
    have y0 := X.c0
    have y1 := X.c1
    obtain ⟨x0, x1, xf, _⟩ := X
    rcases (show h < 4 ∨ ¬ h < 4 ∧ 199 < h by omega) with q | ⟨q, q2⟩
    · clear k
      go_enter Try.func5, Try.ntmps5
      go_wp2
      exact bodyPost_ret (v := .tuple #[.agg #[.slice none 0 0, .slice none 0 0], .bool false]) (by simp [results, Try.results5, go_sem, y0, y1]) rfl ⟨NO.out HN.out _, B⟩
    · clear k
      go_enter Try.func5, Try.ntmps5
      go_wp2
      exact bodyPost_ret (v := .tuple #[.agg #[.slice none 0 0, .slice none 0 0], .bool false]) (by simp [results, Try.results5, go_sem, y0, y1]) rfl ⟨NO.out HN.out _, B⟩
end Go.Proofs.Ytagkcaiodciomaa
