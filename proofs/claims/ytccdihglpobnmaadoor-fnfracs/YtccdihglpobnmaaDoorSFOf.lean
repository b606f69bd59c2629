/- FracOf: the specification's. -/
import Derived.Test.YtccdihglpobnmaaDoorFOf
import Derived.Test.YtccdihglpobnmaaDoorSLow
import Derived.Test.YtccdihglpobnmaaDoorHeld
import Derived.Deep.RegionHeld3
namespace Go.Proofs.YtccdihglpobnmaaDoor
open Go.RowKit

theorem cell_put4 {w : World} {b b' o : Nat} {u0 u1 u2 u3 : Value} (h : b' ≠ b) : ((((w.setCell ⟨b, 0, none⟩ u0).setCell ⟨b, 1, none⟩ u1).setCell ⟨b, 2, none⟩ u2).setCell ⟨b, 3, none⟩ u3).cell? ⟨b', o, none⟩ = w.cell? ⟨b', o, none⟩ := by
  rw [World.cell?_setCell_other _ _ _ _ (by intro e; simp only [Addr.mk.injEq] at e; exact h e.1.symm), World.cell?_setCell_other _ _ _ _ (by intro e; simp only [Addr.mk.injEq] at e; exact h e.1.symm)]
  exact cell_put h
theorem sg_mgs (z : Int) : sg (decide (z < 0)) (mg z) = z := by
  unfold sg mg
  by_cases h : z < 0 <;> simp [h]

set_option maxRecDepth 20000 in
set_option maxHeartbeats 4000000 in
theorem specFracOf (n d : Int) (w : World) (h1 : -9223372036854775808 ≤ n) (h2 : n ≤ 9223372036854775807) (h3 : -9223372036854775808 ≤ d) (h4 : d ≤ 9223372036854775807) :
    Calls Tryd.prog 72 #[.int .i64 n, .int .i64 d] w fun e w' => ∃ v, e = .returned (.tuple #[v, .bool (decide (d ≠ 0))]) ∧ IsFrac w.heap.size w' v (zN n d) (zD n d) ∧ Below w.heap.size w w' := by
  have B0 := below1 w (.cells #[.bool false, .slice none 0 0, .bool false, .slice none 0 0] 42)
  by_cases hd : d = 0
  · subst hd
    have E : Hid (zN n 0 = 0 ∧ zD n 0 = 1) := ⟨rfl, rfl⟩
    rw [E.out.1, E.out.2]
    go_enter Tryd.func72, Tryd.ntmps72
    go_wp2_with fail
    refine (specOf 1 _ (by decide) (by decide)).mono ?_
    rintro e w1 ⟨v, rfl, hI, hb⟩
    obtain ⟨b1, c1, ds, rfl, ho, hn, hv⟩ := hI
    obtain ⟨k1, r1⟩ := at_block hb (b := w.heap.size) (by simp)
    have hz : w.heap.size < w1.heap.size := by have := hb.size; simp at this; omega
    have B1 := B0.trans (hb.mono (by simp))
    have hJ := (IsFrac.one ho hn hv).base_le (show w.heap.size + 1 ≤ _ by simp)
    have JP := hJ.put (b := w.heap.size) (b0 := w.heap.size) (by omega) (by omega) (.bool false) (.slice none 0 0) (.bool false) (.slice b1 ds.length c1)
    have BP := below_put4 (b := w.heap.size) B1 (by omega) (.bool false) (.slice none 0 0) (.bool false) (.slice b1 ds.length c1)
    clear hb ho hn hv hJ B0 B1
    go_wp2
    exact bodyPost_ret (v := .tuple #[.agg #[.bool false, .slice none 0 0, .bool false, .slice b1 ds.length c1], .bool false]) (by simp [results, Tryd.results72, go_sem, k1]) rfl ⟨_, rfl, JP, BP⟩
  · have hd' : (d == 0) = false := by simpa using hd
    have ED : decide (d ≠ 0) = true := by simpa using hd
    rw [ED]
    have EN : Hid (zN n d = (if d < 0 then -n else n) / (Int.gcd n d : Int) ∧ zD n d = mg d / (Int.gcd n d : Int)) := ⟨by unfold zN; rw [if_neg hd], by unfold zD; rw [if_neg hd]⟩
    go_enter Tryd.func72, Tryd.ntmps72
    go_wp2_with fail
    refine (specOf n _ h1 h2).mono ?_
    rintro e w1 ⟨v, rfl, hI, hb1⟩
    obtain ⟨a1, c1, us, rfl, o1, n1, v1⟩ := hI
    obtain ⟨k1, r1⟩ := at_block hb1 (b := w.heap.size) (by simp)
    have hz : w.heap.size < w1.heap.size := by have := hb1.size; simp at this; omega
    have L1 := int_len o1.lim n1 v1 h1 h2
    obtain ⟨f1, hf1⟩ : ∃ f, Hid (decide (n < 0) = f) := ⟨_, rfl⟩
    rw [hf1.out]
    have g0 : w1.cell? ⟨w.heap.size, 0, none⟩ = some (.bool false) := by simp [k1, go_sem]
    have g1 : w1.cell? ⟨w.heap.size, 1, none⟩ = some (.slice none 0 0) := by simp [k1, go_sem]
    have g2 : w1.cell? ⟨w.heap.size, 2, none⟩ = some (.bool false) := by simp [k1, go_sem]
    have g3 : w1.cell? ⟨w.heap.size, 3, none⟩ = some (.slice none 0 0) := by simp [k1, go_sem]
    have fg : ∀ o, w1.frozen? ⟨w.heap.size, o, none⟩ = false := fun o => by simp [r1, go_sem]
    have hbx := below1 w1 (.cells #[.bool f1, .slice a1 us.length c1] 26)
    obtain ⟨x0, x1⟩ := var_new w1 f1 a1 us.length c1 26
    have B1 := (B0.trans (hb1.mono (by simp))).trans (hbx.mono (Nat.le_of_lt hz))
    go_wp2_with fail
    replace g0 := bat hbx g0
    replace g1 := bat hbx g1
    replace g2 := bat hbx g2
    replace g3 := bat hbx g3
    have fg1 : ∀ o, (w1.alloc (.cells #[.bool f1, .slice a1 us.length c1] 26)).frozen? ⟨w.heap.size, o, none⟩ = false := fun o => (hbx.frozen (p := ⟨w.heap.size, o, none⟩) hz).trans (fg o)
    have o1' := o1.below hbx
    have sz1 : w.heap.size < (w1.alloc (.cells #[.bool f1, .slice a1 us.length c1] 26)).heap.size := Nat.lt_of_lt_of_le hz hbx.size
    have nx := hz
    clear hb1 hbx k1 r1 fg o1 hz B0
    generalize w1.alloc (.cells #[.bool f1, .slice a1 us.length c1] 26) = W1 at *
    refine (specOf d _ h3 h4).mono ?_
    rintro e w2 ⟨v, rfl, hI, hb2⟩
    obtain ⟨a2, c2, vs, rfl, o2, n2, v2⟩ := hI
    have L2 := int_len o2.lim n2 v2 h3 h4
    obtain ⟨f2, hf2⟩ : ∃ f, Hid (decide (d < 0) = f) := ⟨_, rfl⟩
    rw [hf2.out]
    have hvne : vs ≠ [] := by
      rintro rfl
      unfold mg at v2
      simp only [val] at v2
      split at v2 <;> omega
    have hby := below1 w2 (.cells #[.bool f2, .slice a2 vs.length c2] 26)
    have hbb := hb2.trans (hby.mono hb2.size)
    obtain ⟨y0, y1⟩ := var_new w2 f2 a2 vs.length c2 26
    have lx0 : w1.heap.size < w2.heap.size := Nat.lt_of_lt_of_le (World.block_lt_of_cell? _ _ x0) hb2.size
    go_wp2_with fail
    have k0 : (w2.alloc (.cells #[.bool f2, .slice a2 vs.length c2] 26)).cell? ⟨w1.heap.size, 0, none⟩ = some (.bool f1) ∧ (w2.alloc (.cells #[.bool f2, .slice a2 vs.length c2] 26)).cell? ⟨w1.heap.size, 1, none⟩ = some (.slice a1 us.length c1) ∧ (w2.alloc (.cells #[.bool f2, .slice a2 vs.length c2] 26)).cell? ⟨w2.heap.size, 0, none⟩ = some (.bool f2) ∧ (w2.alloc (.cells #[.bool f2, .slice a2 vs.length c2] 26)).cell? ⟨w2.heap.size, 1, none⟩ = some (.slice a2 vs.length c2) := ⟨bat hbb x0, bat hbb x1, y0, y1⟩
    replace g0 := bat hbb g0
    replace g1 := bat hbb g1
    replace g2 := bat hbb g2
    replace g3 := bat hbb g3
    have fg2 : ∀ o, (w2.alloc (.cells #[.bool f2, .slice a2 vs.length c2] 26)).frozen? ⟨w.heap.size, o, none⟩ = false := fun o => (hbb.frozen (p := ⟨w.heap.size, o, none⟩) sz1).trans (fg1 o)
    have sz2 : w.heap.size < (w2.alloc (.cells #[.bool f2, .slice a2 vs.length c2] 26)).heap.size := Nat.lt_of_lt_of_le sz1 hbb.size
    have o1'' := (o1'.below hbb)
    have o2' := o2.below hby
    have B2 := B1.trans (hbb.mono B1.size)
    have ny : w.heap.size < w2.heap.size := Nat.lt_of_lt_of_le sz1 hb2.size
    obtain ⟨N, hN⟩ : ∃ N, Hid (sg (f1 != f2) (val us) = N) := ⟨_, rfl⟩
    have HS : Hid (N = (if d < 0 then -n else n) ∧ sg false (val vs) = mg d ∧ Int.gcd (mg N) (mg (mg d)) = Int.gcd n d ∧ mg (mg d) = mg d) := by
      have e1 : sg f1 (val us) = n := by rw [v1, ← hf1.out]; unfold sg mg; by_cases h : n < 0 <;> simp [h]
      have eN : N = (if d < 0 then -n else n) := by
        rw [← hN.out, ← e1]
        by_cases h : d < 0
        · rw [if_pos h, ← hf2.out, decide_eq_true h]; cases f1 <;> simp [sg]
        · rw [if_neg h, ← hf2.out, decide_eq_false h]; cases f1 <;> simp [sg]
      have em : mg (mg d) = mg d := by unfold mg; split <;> (try split) <;> omega
      refine ⟨eN, v2, ?_, em⟩
      rw [gcd_mg, eN]
      have e3 : ∀ x y : Int, Int.gcd x (mg y) = Int.gcd x y := fun x y => by unfold mg; split <;> simp
      rw [e3]
      split <;> simp
    have bN : mg N ≤ 9223372036854775808 ∧ mg (mg d) ≤ 9223372036854775808 ∧ 0 < mg (mg d) := by
      rw [HS.out.1, HS.out.2.2.2]
      unfold mg
      refine ⟨?_, ?_, ?_⟩
      · split <;> split <;> omega
      · split <;> omega
      · split <;> omega
    have HNE : Hid (∀ t : List Int, val t = mg (mg d) → t ≠ []) := by
      rintro t ht rfl
      simp only [val] at ht
      omega
    have HL : Hid (∀ t : List Int, Lim t → Nrm t → val t = mg N → t.length ≤ 1048575) := fun t ht hn hv => Nat.le_trans (len_le ht hn (k := 2) (by rw [hv]; exact Int.lt_of_le_of_lt bN.1 (by decide))) (by decide)
    have HL2 : Hid (∀ t : List Int, Lim t → Nrm t → val t = mg (mg d) → t.length ≤ 1048575) := fun t ht hn hv => Nat.le_trans (len_le ht hn (k := 2) (by rw [hv]; exact Int.lt_of_le_of_lt bN.2.1 (by decide))) (by decide)
    have EF : Hid (∀ t1 t2 : List Int, val t1 = mg N → val t2 = mg (mg d) → sg (decide (N < 0)) (val t1) / (Int.gcd (val t1) (val t2) : Int) = zN n d ∧ val t2 / (Int.gcd (val t1) (val t2) : Int) = zD n d) := by
      intro t1 t2 e1 e2
      rw [e1, e2, HS.out.2.2.1, HS.out.2.2.2, EN.out.1, EN.out.2, sg_mgs, HS.out.1]
      exact ⟨rfl, rfl⟩
    clear bN
    obtain ⟨f5, hf5⟩ : ∃ f, Hid (decide (zN n d < 0) = f) := ⟨_, rfl⟩
    obtain ⟨f6, hf6⟩ : ∃ f, Hid (decide (zD n d < 0) = f) := ⟨_, rfl⟩
    clear hb2 hby hbb o1' o2 fg1 sz1 B1 x0 x1 y0 y1 v1 v2 lx0 hd hd' ED
    generalize w2.alloc (.cells #[.bool f2, .slice a2 vs.length c2] 26) = W2 at *
    refine wp_region_held_drew (S := fun w' => w'.cell? ⟨w1.heap.size, 0, none⟩ = some (.bool f1) ∧ w'.cell? ⟨w1.heap.size, 1, none⟩ = some (.slice a1 us.length c1) ∧ w'.cell? ⟨w2.heap.size, 0, none⟩ = some (.bool f2) ∧ w'.cell? ⟨w2.heap.size, 1, none⟩ = some (.slice a2 vs.length c2)) (by kernel_rfl) (k0) (fun hHeld => ?_)
    refine takeW (i := 0) (by simp only [List.getElem?_toArray, List.getElem?_cons_zero]; exact rfl) (by kernel_rfl) (by kernel_rfl) (by kernel_rfl) (by exact fun _ _ _ h => h) (by rfl) (by intro wq hSw; (try dsimp only at hSw); go_simp <;> with_reducible rfl) (by assumption) ?_
    try simp only [Act.put, List.setIfInBounds_toArray, List.set_cons_zero, List.set_cons_succ]
    refine takeW (i := 1) (by simp only [List.getElem?_toArray, List.getElem?_cons_succ, List.getElem?_cons_zero]; exact rfl) (by kernel_rfl) (by kernel_rfl) (by kernel_rfl) (by exact fun _ _ _ h => h) (by rfl) (by intro wq hSw; (try dsimp only at hSw); go_simp <;> with_reducible rfl) (by assumption) ?_
    try simp only [Act.put, List.setIfInBounds_toArray, List.set_cons_zero, List.set_cons_succ]
    refine takeW (i := 2) (by simp only [List.getElem?_toArray, List.getElem?_cons_succ, List.getElem?_cons_zero]; exact rfl) (by kernel_rfl) (by kernel_rfl) (by kernel_rfl) (by exact fun _ _ _ h => h) (by rfl) (by intro wq hSw; (try dsimp only at hSw); go_simp <;> with_reducible rfl) (by assumption) ?_
    try simp only [Act.put, List.setIfInBounds_toArray, List.set_cons_zero, List.set_cons_succ]
    refine takeW (i := 3) (by simp only [List.getElem?_toArray, List.getElem?_cons_succ, List.getElem?_cons_zero]; exact rfl) (by kernel_rfl) (by kernel_rfl) (by kernel_rfl) (by exact fun _ _ _ h => h) (by rfl) (by intro wq hSw; (try dsimp only at hSw); go_simp <;> with_reducible rfl) (by assumption) ?_
    try simp only [Act.put, List.setIfInBounds_toArray, List.set_cons_zero, List.set_cons_succ]
    refine takeW (i := 4) (by simp only [List.getElem?_toArray, List.getElem?_cons_succ, List.getElem?_cons_zero]; exact rfl) (by kernel_rfl) (by kernel_rfl) (by kernel_rfl) (by exact fun _ _ _ h => h) (by rfl) (by intro wq hSw; (try dsimp only at hSw); go_simp <;> with_reducible rfl) (by assumption) ?_
    try simp only [Act.put, List.setIfInBounds_toArray, List.set_cons_zero, List.set_cons_succ]
    refine takeW (i := 5) (by simp only [List.getElem?_toArray, List.getElem?_cons_succ, List.getElem?_cons_zero]; exact rfl) (by kernel_rfl) (by kernel_rfl) (by kernel_rfl) (by exact fun _ _ _ h => h) (by rfl) (by intro wq hSw; (try dsimp only at hSw); go_simp <;> with_reducible rfl) (by assumption) ?_
    try simp only [Act.put, List.setIfInBounds_toArray, List.set_cons_zero, List.set_cons_succ]
    refine takeW (i := 6) (by simp only [List.getElem?_toArray, List.getElem?_cons_succ, List.getElem?_cons_zero]; exact rfl) (by kernel_rfl) (by kernel_rfl) (by kernel_rfl) (by exact fun _ _ _ h => h) (by rfl) (by intro wq hSw; (try dsimp only at hSw); go_simp <;> with_reducible rfl) (by assumption) ?_
    try simp only [Act.put, List.setIfInBounds_toArray, List.set_cons_zero, List.set_cons_succ]
    refine takeW (i := 8) (by simp only [List.getElem?_toArray, List.getElem?_cons_succ, List.getElem?_cons_zero]; exact rfl) (by kernel_rfl) (by kernel_rfl) (by kernel_rfl) (by exact fun _ _ _ h => h) (by rfl) (by intro wq hSw; (try dsimp only at hSw); go_simp <;> with_reducible rfl) (by assumption) ?_
    try simp only [Act.put, List.setIfInBounds_toArray, List.set_cons_zero, List.set_cons_succ]
    refine takeW (i := 9) (by simp only [List.getElem?_toArray, List.getElem?_cons_succ, List.getElem?_cons_zero]; exact rfl) (by kernel_rfl) (by kernel_rfl) (by kernel_rfl) (by exact fun _ _ _ h => h) (by rfl) (by intro wq hSw; (try dsimp only at hSw); go_simp <;> with_reducible rfl) (by assumption) ?_
    try simp only [Act.put, List.setIfInBounds_toArray, List.set_cons_zero, List.set_cons_succ]
    refine wpAnyH_ready (rs := [7]) (by kernel_rfl) (by simp) ?_
    refine AllReadyH.cons (by simp only [List.getElem?_toArray, List.getElem?_cons_succ, List.getElem?_cons_zero]; exact rfl) (fun K hK => ?_) AllReadyH.nil
    go_simp
    (refine (l1NumC (f1 != f2) a1 c1 us _ ?_ ?_).mono ?_; exact o1''.toSees.below (Below.refl _ _).drew; omega; rintro e w3 ⟨v, rfl, hI, hb3⟩; have B3 : Below W2.heap.size W2 w3 := (Below.refl _ _).drew.trans hb3; have m1 : w3.cell? ⟨w1.heap.size, 0, none⟩ = some (.bool f1) ∧ w3.cell? ⟨w1.heap.size, 1, none⟩ = some (.slice a1 us.length c1) ∧ w3.cell? ⟨w2.heap.size, 0, none⟩ = some (.bool f2) ∧ w3.cell? ⟨w2.heap.size, 1, none⟩ = some (.slice a2 vs.length c2) := ⟨bat B3 k0.1, bat B3 k0.2.1, bat B3 k0.2.2.1, bat B3 k0.2.2.2⟩; rw [hN.out] at hI; obtain ⟨p1, q1, t1, rfl, oa, na, va⟩ := hI; clear hb3)
    refine hK.out _ _ ?_ (fun hHeld => ?_)
    · exact m1
    clear hK K
    try simp only [Act.put, List.setIfInBounds_toArray, List.set_cons_zero, List.set_cons_succ]
    refine wpAnyH_ready (rs := [10]) (by kernel_rfl) (by simp) ?_
    refine AllReadyH.cons (by simp only [List.getElem?_toArray, List.getElem?_cons_succ, List.getElem?_cons_zero]; exact rfl) (fun K hK => ?_) AllReadyH.nil
    go_simp
    (refine (l1NumC false a2 c2 vs _ ?_ ?_).mono ?_; exact o2'.toSees.below B3; omega; rintro e w4 ⟨v, rfl, hI, hb4⟩; have B4 : Below W2.heap.size W2 w4 := B3.trans (hb4.mono B3.size); have m2 : w4.cell? ⟨w1.heap.size, 0, none⟩ = some (.bool f1) ∧ w4.cell? ⟨w1.heap.size, 1, none⟩ = some (.slice a1 us.length c1) ∧ w4.cell? ⟨w2.heap.size, 0, none⟩ = some (.bool f2) ∧ w4.cell? ⟨w2.heap.size, 1, none⟩ = some (.slice a2 vs.length c2) := ⟨bat B4 k0.1, bat B4 k0.2.1, bat B4 k0.2.2.1, bat B4 k0.2.2.2⟩; rw [HS.out.2.1] at hI; obtain ⟨p2, q2, t2, rfl, ob, nb, vb⟩ := hI; have oa' := oa.below hb4; clear hb4)
    refine hK.out _ _ ?_ (fun hHeld => ?_)
    · exact m2
    clear hK K
    try simp only [Act.put, List.setIfInBounds_toArray, List.set_cons_zero, List.set_cons_succ]
    refine wpAnyH_ready (rs := [11]) (by kernel_rfl) (by simp) ?_
    refine AllReadyH.cons (by simp only [List.getElem?_toArray, List.getElem?_cons_succ, List.getElem?_cons_zero]; exact rfl) (fun K hK => ?_) AllReadyH.nil
    go_simp
    (refine (l2LowestC (decide (N < 0)) (decide (mg d < 0)) p1 p2 q1 q2 t1 t2 _ oa'.toSees ob.toSees na nb ?_ ?_ ?_).mono ?_; exact HNE.out t2 vb; exact HL.out t1 oa.lim na va; exact HL2.out t2 ob.lim nb vb; rintro e w5 ⟨v, rfl, hI, hb5⟩; have ZZ : Below W2.heap.size W2 w5 := B4.trans (hb5.mono B4.size); have hJ := (hI.eq (EF.out t1 t2 va vb).1 (EF.out t1 t2 va vb).2).base_le (show w.heap.size + 1 ≤ w4.heap.size from Nat.le_trans sz2 B4.size); have hJ0 := hJ; obtain ⟨a5, c5, qs, a6, c6, rs, ev, _⟩ := hJ0; rw [hf5.out, hf6.out] at ev; subst ev; clear hI; have G0 := bat ZZ g0; have G1 := bat ZZ g1; have G2 := bat ZZ g2; have G3 := bat ZZ g3; have FG := fun o => (ZZ.frozen (p := ⟨w.heap.size, o, none⟩) sz2).trans (fg2 o); have B5 : Below W2.heap.size W2 w5 := B4.trans (hb5.mono B4.size); have m3 : w5.cell? ⟨w1.heap.size, 0, none⟩ = some (.bool f1) ∧ w5.cell? ⟨w1.heap.size, 1, none⟩ = some (.slice a1 us.length c1) ∧ w5.cell? ⟨w2.heap.size, 0, none⟩ = some (.bool f2) ∧ w5.cell? ⟨w2.heap.size, 1, none⟩ = some (.slice a2 vs.length c2) := ⟨bat B5 k0.1, bat B5 k0.2.1, bat B5 k0.2.2.1, bat B5 k0.2.2.2⟩; clear hb5)
    refine hK.out _ _ ?_ (fun hHeld => ?_)
    · exact m3
    clear hK K
    try simp only [Act.put, List.setIfInBounds_toArray, List.set_cons_zero, List.set_cons_succ]
    refine wpAnyH_ready (rs := [12]) (by kernel_rfl) (by simp) ?_
    refine AllReadyH.cons (by simp only [List.getElem?_toArray, List.getElem?_cons_succ, List.getElem?_cons_zero]; exact rfl) (fun K hK => ?_) AllReadyH.nil
    go_simp
    refine hK.out _ _ ?_ (fun hHeld => ?_)
    · exact ⟨(cell_put4 (by omega)).trans m3.1, (cell_put4 (by omega)).trans m3.2.1, (cell_put4 (by omega)).trans m3.2.2.1, (cell_put4 (by omega)).trans m3.2.2.2⟩
    clear hK K
    try simp only [Act.put, List.setIfInBounds_toArray, List.set_cons_zero, List.set_cons_succ]
    refine takeW (i := 13) (by simp only [List.getElem?_toArray, List.getElem?_cons_succ, List.getElem?_cons_zero]; exact rfl) (by kernel_rfl) (by kernel_rfl) (by kernel_rfl) (by exact fun _ _ _ h => h) (by rfl) (by intro wq hSw; (try dsimp only at hSw); go_simp <;> with_reducible rfl) (by assumption) ?_
    try simp only [Act.put, List.setIfInBounds_toArray, List.set_cons_zero, List.set_cons_succ]
    refine wpAnyH_done (by kernel_rfl) ?_ _
    have JP := hJ.put (b := w.heap.size) (b0 := w.heap.size) (by omega) (by omega) (.bool f5) (.slice a5 qs.length c5) (.bool f6) (.slice a6 rs.length c6)
    have BP := below_put4 (b := w.heap.size) (B2.trans (B5.mono B2.size)) (by omega) (.bool f5) (.slice a5 qs.length c5) (.bool f6) (.slice a6 rs.length c6)
    go_wp2
    exact bodyPost_ret (v := .tuple #[.agg #[.bool f5, .slice a5 qs.length c5, .bool f6, .slice a6 rs.length c6], .bool true]) (by simp [results, Tryd.results72, go_sem, G0, G1, G2, G3]) rfl ⟨_, rfl, JP, BP⟩
end Go.Proofs.YtccdihglpobnmaaDoor
