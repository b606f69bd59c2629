/- The shape of a box: of both (boxShape, l6Box). -/
import Derived.Test.YthafhfdhahbdoaaBxShM
namespace Go.Proofs.Ythafhfdhahbdoaa
open Go.RowKit

theorem bxR_len (a b c d : Int) : (bxR a b c d).length = 1 := by
  unfold bxR
  split
  · rfl
  · split <;> rfl
theorem seesP_two (w : World) (a b c d : Int) (t : TypeId) : SeesP (w.alloc (.cells #[.int .i64 a, .int .i64 b, .int .i64 c, .int .i64 d] t)) (some ⟨w.heap.size, 0, none⟩) 2 [(a, b), (c, d)] :=
  ⟨Nat.le_refl _, by unfold maxLen; omega, fun _ => ⟨_, 0, rfl, fun i hi => by
    have : i = 0 ∨ i = 1 := by simp at hi; omega
    rcases this with rfl | rfl
    · exact ⟨cell_new w #[.int .i64 a, .int .i64 b, .int .i64 c, .int .i64 d] t 0 rfl, cell_new w #[.int .i64 a, .int .i64 b, .int .i64 c, .int .i64 d] t 1 rfl⟩
    · exact ⟨cell_new w #[.int .i64 a, .int .i64 b, .int .i64 c, .int .i64 d] t 2 rfl, cell_new w #[.int .i64 a, .int .i64 b, .int .i64 c, .int .i64 d] t 3 rfl⟩⟩⟩
theorem seesP_four (w : World) (a b c d m n r s : Int) (t : TypeId) : SeesP (w.alloc (.cells #[.int .i64 a, .int .i64 b, .int .i64 c, .int .i64 d, .int .i64 m, .int .i64 n, .int .i64 r, .int .i64 s] t)) (some ⟨w.heap.size, 0, none⟩) 4 [(a, b), (c, d), (m, n), (r, s)] :=
  ⟨Nat.le_refl _, by unfold maxLen; omega, fun _ => ⟨_, 0, rfl, fun i hi => by
    have : i = 0 ∨ i = 1 ∨ i = 2 ∨ i = 3 := by simp at hi; omega
    have e : ∀ o v, (#[.int .i64 a, .int .i64 b, .int .i64 c, .int .i64 d, .int .i64 m, .int .i64 n, .int .i64 r, .int .i64 s] : Array Value)[o]? = some v → (w.alloc (.cells #[.int .i64 a, .int .i64 b, .int .i64 c, .int .i64 d, .int .i64 m, .int .i64 n, .int .i64 r, .int .i64 s] t)).cell? ⟨w.heap.size, o, none⟩ = some v := fun o v h => cell_new w _ t o h
    rcases this with rfl | rfl | rfl | rfl
    · exact ⟨e 0 _ rfl, e 1 _ rfl⟩
    · exact ⟨e 2 _ rfl, e 3 _ rfl⟩
    · exact ⟨e 4 _ rfl, e 5 _ rfl⟩
    · exact ⟨e 6 _ rfl, e 7 _ rfl⟩⟩⟩

set_option maxRecDepth 20000 in
set_option maxHeartbeats 2000000 in
theorem l6Box_any (a b c d : Int) (w : World) :
    Calls Try.prog 14 #[.agg #[.int .i64 a, .int .i64 b, .int .i64 c, .int .i64 d]] w fun e w' => ∃ q : Option Addr, e = .returned (.agg #[.int .i64 (bxK a b c d), .slice q (bxR a b c d).length 1]) ∧ SeesS w' q 1 (bxR a b c d) ∧ Below w.heap.size w w' := by
  have bn := below1 w (.cells #[.int .i64 a, .int .i64 b, .int .i64 c, .int .i64 d] 37)
  have bz := bn.size
  have B0 := bn.trans ((below1 _ (.cells #[.int .i64 0, .slice none 0 0] 33)).mono bz)
  have V1 := (Box4.new w (lo := w.heap.size) (Nat.le_refl _) (.int .i64 a) (.int .i64 b) (.int .i64 c) (.int .i64 d) 37).below (below1 _ (.cells #[.int .i64 0, .slice none 0 0] 33))
  have V0 := Box2.new (w.alloc (.cells #[.int .i64 a, .int .i64 b, .int .i64 c, .int .i64 d] 37)) (lo := w.heap.size) bz (.int .i64 0) (.slice none 0 0) 33
  rw [World.size_alloc] at V0
  clear bn bz
  have HW : w.heap.size + 1 < ((w.alloc (.cells #[.int .i64 a, .int .i64 b, .int .i64 c, .int .i64 d] 37)).alloc (.cells #[.int .i64 0, .slice none 0 0] 33)).heap.size := by simp
  obtain ⟨k0, k1, k2, k3, _, _⟩ := id V1
  by_cases e : a = c ∧ b = d
  · have HK : Hid (bxK a b c d = 1) := if_pos e
    have HR : Hid (bxR a b c d = [[(a, b)]]) := if_pos e
    have b1 : (a == c) = true := by simp [e.1]
    have b2 : (b == d) = true := by simp [e.2]
    clear e
    go_enter Try.func14, Try.ntmps14
    go_upto_region 2 with fail
    generalize (w.alloc (.cells #[.int .i64 a, .int .i64 b, .int .i64 c, .int .i64 d] 37)).alloc (.cells #[.int .i64 0, .slice none 0 0] 33) = W at *
    have SP := (seesP_new W a b 35).below (below1 _ (.cells #[.slice (some ⟨W.heap.size, 0, none⟩) 1 1] 57))
    have CK := cell_new (W.alloc (.cells #[.int .i64 a, .int .i64 b] 35)) #[.slice (some ⟨W.heap.size, 0, none⟩) 1 1] 57 0 rfl
    have bn := below2 W (.cells #[.int .i64 a, .int .i64 b] 35) (.cells #[.slice (some ⟨W.heap.size, 0, none⟩) 1 1] 57)
    replace V0 := V0.below bn
    replace B0 := B0.trans (bn.mono B0.size)
    have zn := World.size_alloc W (.cells #[.int .i64 a, .int .i64 b] 35)
    rw [zn] at CK
    clear bn zn
    obtain ⟨r0, r1⟩ := V0.reads (.int .i64 1) (.slice (some ⟨W.heap.size + 1, 0, none⟩) 1 1)
    have RC := Box2.chain B0 V0 (.int .i64 1) (.slice (some ⟨W.heap.size + 1, 0, none⟩) 1 1)
    obtain ⟨o0, o1, of, _⟩ := id V0
    have S2 := seesS_put SP CK (g := w.heap.size + 1) (by omega) (by omega) (.int .i64 1) (.slice (some ⟨W.heap.size + 1, 0, none⟩) 1 1)
    clear SP CK V0 V1
    go_wp2
    refine bodyPost_ret (v := .agg #[.int .i64 1, .slice (some ⟨W.heap.size + 1, 0, none⟩) 1 1]) (by simp [results, Try.results14, go_sem, r0, r1]) rfl ?_
    exact ⟨some ⟨W.heap.size + 1, 0, none⟩, by rw [HK.out, HR.out]; rfl, by rw [HR.out]; exact S2, RC⟩
  · by_cases f : a = c ∨ b = d
    · have HK : Hid (bxK a b c d = 3) := (if_neg e).trans (if_pos f)
      have HR : Hid (bxR a b c d = [[(a, b), (c, d)]]) := (if_neg e).trans (if_pos f)
      by_cases g : a = c
      · have b1 : (a == c) = true := by simp [g]
        have b2 : (b == d) = false := by simp; omega
        clear e f g
        go_enter Try.func14, Try.ntmps14
        go_upto_region 4 with fail
        generalize (w.alloc (.cells #[.int .i64 a, .int .i64 b, .int .i64 c, .int .i64 d] 37)).alloc (.cells #[.int .i64 0, .slice none 0 0] 33) = W at *
        have SP := (seesP_two W a b c d 35).below (below1 _ (.cells #[.slice (some ⟨W.heap.size, 0, none⟩) 2 2] 57))
        have CK := cell_new (W.alloc (.cells #[.int .i64 a, .int .i64 b, .int .i64 c, .int .i64 d] 35)) #[.slice (some ⟨W.heap.size, 0, none⟩) 2 2] 57 0 rfl
        have bn := below2 W (.cells #[.int .i64 a, .int .i64 b, .int .i64 c, .int .i64 d] 35) (.cells #[.slice (some ⟨W.heap.size, 0, none⟩) 2 2] 57)
        replace V0 := V0.below bn
        replace B0 := B0.trans (bn.mono B0.size)
        have zn := World.size_alloc W (.cells #[.int .i64 a, .int .i64 b, .int .i64 c, .int .i64 d] 35)
        rw [zn] at CK
        clear bn zn
        obtain ⟨r0, r1⟩ := V0.reads (.int .i64 3) (.slice (some ⟨W.heap.size + 1, 0, none⟩) 1 1)
        have RC := Box2.chain B0 V0 (.int .i64 3) (.slice (some ⟨W.heap.size + 1, 0, none⟩) 1 1)
        obtain ⟨o0, o1, of, _⟩ := id V0
        have S2 := seesS_put SP CK (g := w.heap.size + 1) (by omega) (by omega) (.int .i64 3) (.slice (some ⟨W.heap.size + 1, 0, none⟩) 1 1)
        clear SP CK V0 V1
        go_wp2
        refine bodyPost_ret (v := .agg #[.int .i64 3, .slice (some ⟨W.heap.size + 1, 0, none⟩) 1 1]) (by simp [results, Try.results14, go_sem, r0, r1]) rfl ?_
        exact ⟨some ⟨W.heap.size + 1, 0, none⟩, by rw [HK.out, HR.out]; rfl, by rw [HR.out]; exact S2, RC⟩
      · have b1 : (a == c) = false := by simp [g]
        have b2 : (b == d) = true := by simp; omega
        clear e f g
        go_enter Try.func14, Try.ntmps14
        go_upto_region 4 with fail
        generalize (w.alloc (.cells #[.int .i64 a, .int .i64 b, .int .i64 c, .int .i64 d] 37)).alloc (.cells #[.int .i64 0, .slice none 0 0] 33) = W at *
        have SP := (seesP_two W a b c d 35).below (below1 _ (.cells #[.slice (some ⟨W.heap.size, 0, none⟩) 2 2] 57))
        have CK := cell_new (W.alloc (.cells #[.int .i64 a, .int .i64 b, .int .i64 c, .int .i64 d] 35)) #[.slice (some ⟨W.heap.size, 0, none⟩) 2 2] 57 0 rfl
        have bn := below2 W (.cells #[.int .i64 a, .int .i64 b, .int .i64 c, .int .i64 d] 35) (.cells #[.slice (some ⟨W.heap.size, 0, none⟩) 2 2] 57)
        replace V0 := V0.below bn
        replace B0 := B0.trans (bn.mono B0.size)
        have zn := World.size_alloc W (.cells #[.int .i64 a, .int .i64 b, .int .i64 c, .int .i64 d] 35)
        rw [zn] at CK
        clear bn zn
        obtain ⟨r0, r1⟩ := V0.reads (.int .i64 3) (.slice (some ⟨W.heap.size + 1, 0, none⟩) 1 1)
        have RC := Box2.chain B0 V0 (.int .i64 3) (.slice (some ⟨W.heap.size + 1, 0, none⟩) 1 1)
        obtain ⟨o0, o1, of, _⟩ := id V0
        have S2 := seesS_put SP CK (g := w.heap.size + 1) (by omega) (by omega) (.int .i64 3) (.slice (some ⟨W.heap.size + 1, 0, none⟩) 1 1)
        clear SP CK V0 V1
        go_wp2
        refine bodyPost_ret (v := .agg #[.int .i64 3, .slice (some ⟨W.heap.size + 1, 0, none⟩) 1 1]) (by simp [results, Try.results14, go_sem, r0, r1]) rfl ?_
        exact ⟨some ⟨W.heap.size + 1, 0, none⟩, by rw [HK.out, HR.out]; rfl, by rw [HR.out]; exact S2, RC⟩
    · have HK : Hid (bxK a b c d = 5) := (if_neg e).trans (if_neg f)
      have HR : Hid (bxR a b c d = [[(a, b), (c, b), (c, d), (a, d)]]) := (if_neg e).trans (if_neg f)
      have b1 : (a == c) = false := by simp; omega
      have b2 : (b == d) = false := by simp; omega
      clear e f
      go_enter Try.func14, Try.ntmps14
      go_upto_region 5 with fail
      generalize (w.alloc (.cells #[.int .i64 a, .int .i64 b, .int .i64 c, .int .i64 d] 37)).alloc (.cells #[.int .i64 0, .slice none 0 0] 33) = W at *
      have SP := (seesP_four W a b c b c d a d 35).below (below1 _ (.cells #[.slice (some ⟨W.heap.size, 0, none⟩) 4 4] 57))
      have CK := cell_new (W.alloc (.cells #[.int .i64 a, .int .i64 b, .int .i64 c, .int .i64 b, .int .i64 c, .int .i64 d, .int .i64 a, .int .i64 d] 35)) #[.slice (some ⟨W.heap.size, 0, none⟩) 4 4] 57 0 rfl
      have bn := below2 W (.cells #[.int .i64 a, .int .i64 b, .int .i64 c, .int .i64 b, .int .i64 c, .int .i64 d, .int .i64 a, .int .i64 d] 35) (.cells #[.slice (some ⟨W.heap.size, 0, none⟩) 4 4] 57)
      replace V0 := V0.below bn
      replace B0 := B0.trans (bn.mono B0.size)
      have zn := World.size_alloc W (.cells #[.int .i64 a, .int .i64 b, .int .i64 c, .int .i64 b, .int .i64 c, .int .i64 d, .int .i64 a, .int .i64 d] 35)
      rw [zn] at CK
      clear bn zn
      obtain ⟨r0, r1⟩ := V0.reads (.int .i64 5) (.slice (some ⟨W.heap.size + 1, 0, none⟩) 1 1)
      have RC := Box2.chain B0 V0 (.int .i64 5) (.slice (some ⟨W.heap.size + 1, 0, none⟩) 1 1)
      obtain ⟨o0, o1, of, _⟩ := id V0
      have S2 := seesS_put SP CK (g := w.heap.size + 1) (by omega) (by omega) (.int .i64 5) (.slice (some ⟨W.heap.size + 1, 0, none⟩) 1 1)
      clear SP CK V0 V1
      go_wp2
      refine bodyPost_ret (v := .agg #[.int .i64 5, .slice (some ⟨W.heap.size + 1, 0, none⟩) 1 1]) (by simp [results, Try.results14, go_sem, r0, r1]) rfl ?_
      exact ⟨some ⟨W.heap.size + 1, 0, none⟩, by rw [HK.out, HR.out]; rfl, by rw [HR.out]; exact S2, RC⟩

set_option maxRecDepth 20000 in
set_option maxHeartbeats 2000000 in
theorem boxShape_any (a b c d : Int) (w : World) :
    Calls Try.prog 19 #[.agg #[.int .i64 a, .int .i64 b, .int .i64 c, .int .i64 d]] w fun e w' => ∃ q : Option Addr, e = .returned (.agg #[.int .i64 (bxK a b c d), .slice q (bxR a b c d).length 1]) ∧ SeesS w' q 1 (bxR a b c d) ∧ Below w.heap.size w w' := by
  have bn := below1 w (.cells #[.int .i64 a, .int .i64 b, .int .i64 c, .int .i64 d] 37)
  have bz := bn.size
  have B0 := bn.trans ((below1 _ (.cells #[.int .i64 0, .slice none 0 0] 33)).mono bz)
  have V1 := (Box4.new w (lo := w.heap.size) (Nat.le_refl _) (.int .i64 a) (.int .i64 b) (.int .i64 c) (.int .i64 d) 37).below (below1 _ (.cells #[.int .i64 0, .slice none 0 0] 33))
  have V0 := Box2.new (w.alloc (.cells #[.int .i64 a, .int .i64 b, .int .i64 c, .int .i64 d] 37)) (lo := w.heap.size) bz (.int .i64 0) (.slice none 0 0) 33
  rw [World.size_alloc] at V0
  clear bn bz
  have HW : w.heap.size + 1 < ((w.alloc (.cells #[.int .i64 a, .int .i64 b, .int .i64 c, .int .i64 d] 37)).alloc (.cells #[.int .i64 0, .slice none 0 0] 33)).heap.size := by simp
  obtain ⟨k0, k1, k2, k3, _, _⟩ := id V1
  by_cases e : a = c ∧ b = d
  · have HK : Hid (bxK a b c d = 1) := if_pos e
    have HR : Hid (bxR a b c d = [[(a, b)]]) := if_pos e
    have b1 : (a == c) = true := by simp [e.1]
    have b2 : (b == d) = true := by simp [e.2]
    clear e
    go_enter Try.func19, Try.ntmps19
    go_upto_region 2 with fail
    generalize (w.alloc (.cells #[.int .i64 a, .int .i64 b, .int .i64 c, .int .i64 d] 37)).alloc (.cells #[.int .i64 0, .slice none 0 0] 33) = W at *
    go_wp2_with fail
    refine (pointShape_parts a b _).mono ?_
    rintro e w1 ⟨q0, q1, rfl, ⟨l0, l1⟩, SP, CK, hb⟩
    replace V0 := V0.below hb
    replace B0 := B0.trans (hb.mono B0.size)
    obtain ⟨r0, r1⟩ := V0.reads (.int .i64 1) (.slice (some ⟨q1, 0, none⟩) 1 1)
    have RC := Box2.chain B0 V0 (.int .i64 1) (.slice (some ⟨q1, 0, none⟩) 1 1)
    obtain ⟨o0, o1, of, _⟩ := id V0
    have S2 := seesS_put SP CK (g := w.heap.size + 1) (by omega) (by omega) (.int .i64 1) (.slice (some ⟨q1, 0, none⟩) 1 1)
    clear SP CK V0 V1 hb k0 k1 k2 k3
    go_wp2
    refine bodyPost_ret (v := .agg #[.int .i64 1, .slice (some ⟨q1, 0, none⟩) 1 1]) (by simp [results, Try.results19, go_sem, r0, r1]) rfl ?_
    exact ⟨some ⟨q1, 0, none⟩, by rw [HK.out, HR.out]; rfl, by rw [HR.out]; exact S2, RC⟩
  · by_cases f : a = c ∨ b = d
    · have HK : Hid (bxK a b c d = 3) := (if_neg e).trans (if_pos f)
      have HR : Hid (bxR a b c d = [[(a, b), (c, d)]]) := (if_neg e).trans (if_pos f)
      by_cases g : a = c
      · have b1 : (a == c) = true := by simp [g]
        have b2 : (b == d) = false := by simp; omega
        clear e f g
        go_enter Try.func19, Try.ntmps19
        go_upto_region 4 with fail
        generalize (w.alloc (.cells #[.int .i64 a, .int .i64 b, .int .i64 c, .int .i64 d] 37)).alloc (.cells #[.int .i64 0, .slice none 0 0] 33) = W at *
        have SP := (seesP_two W a b c d 35).below (below1 _ (.cells #[.slice (some ⟨W.heap.size, 0, none⟩) 2 2] 57))
        have CK := cell_new (W.alloc (.cells #[.int .i64 a, .int .i64 b, .int .i64 c, .int .i64 d] 35)) #[.slice (some ⟨W.heap.size, 0, none⟩) 2 2] 57 0 rfl
        have bn := below2 W (.cells #[.int .i64 a, .int .i64 b, .int .i64 c, .int .i64 d] 35) (.cells #[.slice (some ⟨W.heap.size, 0, none⟩) 2 2] 57)
        replace V0 := V0.below bn
        replace B0 := B0.trans (bn.mono B0.size)
        have zn := World.size_alloc W (.cells #[.int .i64 a, .int .i64 b, .int .i64 c, .int .i64 d] 35)
        rw [zn] at CK
        clear bn zn
        obtain ⟨r0, r1⟩ := V0.reads (.int .i64 3) (.slice (some ⟨W.heap.size + 1, 0, none⟩) 1 1)
        have RC := Box2.chain B0 V0 (.int .i64 3) (.slice (some ⟨W.heap.size + 1, 0, none⟩) 1 1)
        obtain ⟨o0, o1, of, _⟩ := id V0
        have S2 := seesS_put SP CK (g := w.heap.size + 1) (by omega) (by omega) (.int .i64 3) (.slice (some ⟨W.heap.size + 1, 0, none⟩) 1 1)
        clear SP CK V0 V1
        go_wp2
        refine bodyPost_ret (v := .agg #[.int .i64 3, .slice (some ⟨W.heap.size + 1, 0, none⟩) 1 1]) (by simp [results, Try.results19, go_sem, r0, r1]) rfl ?_
        exact ⟨some ⟨W.heap.size + 1, 0, none⟩, by rw [HK.out, HR.out]; rfl, by rw [HR.out]; exact S2, RC⟩
      · have b1 : (a == c) = false := by simp [g]
        have b2 : (b == d) = true := by simp; omega
        clear e f g
        go_enter Try.func19, Try.ntmps19
        go_upto_region 4 with fail
        generalize (w.alloc (.cells #[.int .i64 a, .int .i64 b, .int .i64 c, .int .i64 d] 37)).alloc (.cells #[.int .i64 0, .slice none 0 0] 33) = W at *
        have SP := (seesP_two W a b c d 35).below (below1 _ (.cells #[.slice (some ⟨W.heap.size, 0, none⟩) 2 2] 57))
        have CK := cell_new (W.alloc (.cells #[.int .i64 a, .int .i64 b, .int .i64 c, .int .i64 d] 35)) #[.slice (some ⟨W.heap.size, 0, none⟩) 2 2] 57 0 rfl
        have bn := below2 W (.cells #[.int .i64 a, .int .i64 b, .int .i64 c, .int .i64 d] 35) (.cells #[.slice (some ⟨W.heap.size, 0, none⟩) 2 2] 57)
        replace V0 := V0.below bn
        replace B0 := B0.trans (bn.mono B0.size)
        have zn := World.size_alloc W (.cells #[.int .i64 a, .int .i64 b, .int .i64 c, .int .i64 d] 35)
        rw [zn] at CK
        clear bn zn
        obtain ⟨r0, r1⟩ := V0.reads (.int .i64 3) (.slice (some ⟨W.heap.size + 1, 0, none⟩) 1 1)
        have RC := Box2.chain B0 V0 (.int .i64 3) (.slice (some ⟨W.heap.size + 1, 0, none⟩) 1 1)
        obtain ⟨o0, o1, of, _⟩ := id V0
        have S2 := seesS_put SP CK (g := w.heap.size + 1) (by omega) (by omega) (.int .i64 3) (.slice (some ⟨W.heap.size + 1, 0, none⟩) 1 1)
        clear SP CK V0 V1
        go_wp2
        refine bodyPost_ret (v := .agg #[.int .i64 3, .slice (some ⟨W.heap.size + 1, 0, none⟩) 1 1]) (by simp [results, Try.results19, go_sem, r0, r1]) rfl ?_
        exact ⟨some ⟨W.heap.size + 1, 0, none⟩, by rw [HK.out, HR.out]; rfl, by rw [HR.out]; exact S2, RC⟩
    · have HK : Hid (bxK a b c d = 5) := (if_neg e).trans (if_neg f)
      have HR : Hid (bxR a b c d = [[(a, b), (c, b), (c, d), (a, d)]]) := (if_neg e).trans (if_neg f)
      have b1 : (a == c) = false := by simp; omega
      have b2 : (b == d) = false := by simp; omega
      clear e f
      go_enter Try.func19, Try.ntmps19
      go_upto_region 5 with fail
      generalize (w.alloc (.cells #[.int .i64 a, .int .i64 b, .int .i64 c, .int .i64 d] 37)).alloc (.cells #[.int .i64 0, .slice none 0 0] 33) = W at *
      have SP := (seesP_four W a b c b c d a d 35).below (below1 _ (.cells #[.slice (some ⟨W.heap.size, 0, none⟩) 4 4] 57))
      have CK := cell_new (W.alloc (.cells #[.int .i64 a, .int .i64 b, .int .i64 c, .int .i64 b, .int .i64 c, .int .i64 d, .int .i64 a, .int .i64 d] 35)) #[.slice (some ⟨W.heap.size, 0, none⟩) 4 4] 57 0 rfl
      have bn := below2 W (.cells #[.int .i64 a, .int .i64 b, .int .i64 c, .int .i64 b, .int .i64 c, .int .i64 d, .int .i64 a, .int .i64 d] 35) (.cells #[.slice (some ⟨W.heap.size, 0, none⟩) 4 4] 57)
      replace V0 := V0.below bn
      replace B0 := B0.trans (bn.mono B0.size)
      have zn := World.size_alloc W (.cells #[.int .i64 a, .int .i64 b, .int .i64 c, .int .i64 b, .int .i64 c, .int .i64 d, .int .i64 a, .int .i64 d] 35)
      rw [zn] at CK
      clear bn zn
      obtain ⟨r0, r1⟩ := V0.reads (.int .i64 5) (.slice (some ⟨W.heap.size + 1, 0, none⟩) 1 1)
      have RC := Box2.chain B0 V0 (.int .i64 5) (.slice (some ⟨W.heap.size + 1, 0, none⟩) 1 1)
      obtain ⟨o0, o1, of, _⟩ := id V0
      have S2 := seesS_put SP CK (g := w.heap.size + 1) (by omega) (by omega) (.int .i64 5) (.slice (some ⟨W.heap.size + 1, 0, none⟩) 1 1)
      clear SP CK V0 V1
      go_wp2
      refine bodyPost_ret (v := .agg #[.int .i64 5, .slice (some ⟨W.heap.size + 1, 0, none⟩) 1 1]) (by simp [results, Try.results19, go_sem, r0, r1]) rfl ?_
      exact ⟨some ⟨W.heap.size + 1, 0, none⟩, by rw [HK.out, HR.out]; rfl, by rw [HR.out]; exact S2, RC⟩

end Go.Proofs.Ythafhfdhahbdoaa
