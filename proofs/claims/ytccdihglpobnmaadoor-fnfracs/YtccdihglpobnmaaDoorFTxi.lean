/- The text of a fraction: impl.FracText. -/
import Derived.Test.YtccdihglpobnmaaDoorFTxt
import Derived.Test.YtccdihglpobnmaaDoorCmp
import Derived.Deep.RegionHeld3
namespace Go.Proofs.YtccdihglpobnmaaDoor
open Go.RowKit

theorem cmpIs {rs us : List Int} {m : Int} (hr : val rs = m) (hu : val us = mg 1) (h : m = 1) : cmpZ (sg false (val rs)) (sg false (val us)) = 0 := by
  subst h
  rw [hr, hu]
  rfl
theorem cmpNot {rs us : List Int} {m : Int} (hr : val rs = m) (hu : val us = mg 1) (h0 : 0 < m) (h : m ≠ 1) : cmpZ (sg false (val rs)) (sg false (val us)) = 1 := by
  rw [hr, hu]
  have e1 : sg false (mg 1) = 1 := rfl
  have e0 : sg false m = m := rfl
  rw [e0, e1]
  unfold cmpZ
  rw [if_neg (by omega), if_neg h]
theorem put4 {w : World} {p : Nat} {u0 u1 u2 u3 x0 x1 x2 x3 : Value} (h0 : w.cell? ⟨p, 0, none⟩ = some x0) (h1 : w.cell? ⟨p, 1, none⟩ = some x1) (h2 : w.cell? ⟨p, 2, none⟩ = some x2) (h3 : w.cell? ⟨p, 3, none⟩ = some x3) :
    ((((w.setCell ⟨p, 0, none⟩ u0).setCell ⟨p, 1, none⟩ u1).setCell ⟨p, 2, none⟩ u2).setCell ⟨p, 3, none⟩ u3).cell? ⟨p, 0, none⟩ = some u0 ∧ ((((w.setCell ⟨p, 0, none⟩ u0).setCell ⟨p, 1, none⟩ u1).setCell ⟨p, 2, none⟩ u2).setCell ⟨p, 3, none⟩ u3).cell? ⟨p, 1, none⟩ = some u1 ∧ ((((w.setCell ⟨p, 0, none⟩ u0).setCell ⟨p, 1, none⟩ u1).setCell ⟨p, 2, none⟩ u2).setCell ⟨p, 3, none⟩ u3).cell? ⟨p, 2, none⟩ = some u2 ∧ ((((w.setCell ⟨p, 0, none⟩ u0).setCell ⟨p, 1, none⟩ u1).setCell ⟨p, 2, none⟩ u2).setCell ⟨p, 3, none⟩ u3).cell? ⟨p, 3, none⟩ = some u3 := by
  have o : ∀ (W : World) (i j : Nat) (u : Value), i ≠ j → (W.setCell ⟨p, i, none⟩ u).cell? ⟨p, j, none⟩ = W.cell? ⟨p, j, none⟩ := fun W i j u hij => World.cell?_setCell_other _ _ _ _ (fun e => hij (Addr.mk.inj e).2.1)
  refine ⟨?_, ?_, ?_, ?_⟩
  · rw [o _ 3 0 _ (by decide), o _ 2 0 _ (by decide), o _ 1 0 _ (by decide)]
    exact World.cell?_setCell_same _ _ _ h0
  · rw [o _ 3 1 _ (by decide), o _ 2 1 _ (by decide)]
    exact World.cell?_setCell_same _ _ _ ((o _ 0 1 _ (by decide)).trans h1)
  · rw [o _ 3 2 _ (by decide)]
    exact World.cell?_setCell_same _ _ _ ((o _ 1 2 _ (by decide)).trans ((o _ 0 2 _ (by decide)).trans h2))
  · exact World.cell?_setCell_same _ _ _ ((o _ 2 3 _ (by decide)).trans ((o _ 1 3 _ (by decide)).trans ((o _ 0 3 _ (by decide)).trans h3)))

set_option maxRecDepth 20000 in
set_option maxHeartbeats 4000000 in
theorem implFracText (g h : Bool) (a b : Option Addr) (c d : Nat) (xs ys : List Int) (w : World) (hx : Sees w a c xs) (hy : Sees w b d ys) (HT : ∀ w', Below w.heap.size w w' → Pow10 w') :
    Calls Tryd.prog 22 #[.agg #[.bool g, .slice a xs.length c, .bool h, .slice b ys.length d]] w fun e w' => e = .returned (.string (frT (fN g xs h ys / Int.gcd (fN g xs h ys) (fD g xs h ys)) (fD g xs h ys / Int.gcd (fN g xs h ys) (fD g xs h ys)))) ∧ Below w.heap.size w w' := by
  have BD := low_bd g h hx.lim hy.lim
  obtain ⟨n, hn⟩ : ∃ n, Hid (fN g xs h ys / Int.gcd (fN g xs h ys) (fD g xs h ys) = n) := ⟨_, rfl⟩
  obtain ⟨m, hm⟩ : ∃ m, Hid (fD g xs h ys / Int.gcd (fN g xs h ys) (fD g xs h ys) = m) := ⟨_, rfl⟩
  rw [hn.out, hm.out] at BD ⊢
  have BH : Hid (mg n < 4294967296 ^ 24 ∧ mg m < 4294967296 ^ 24 ∧ 0 < m) := BD
  clear BD
  have HTB : Hid (∀ w', Below w.heap.size w w' → Pow10 w') := HT
  clear HT
  have z1 := numT_size BH.out.1
  have z2 := numT_size BH.out.2.1
  obtain ⟨u, HU⟩ : ∃ u, Hid (numT n = u) := ⟨_, rfl⟩
  obtain ⟨t, HV⟩ : ∃ t, Hid (numT m = t) := ⟨_, rfl⟩
  rw [HU.out] at z1
  rw [HV.out] at z2
  obtain ⟨gz, HG⟩ : ∃ gz, Hid (decide (n < 0) = gz) := ⟨_, rfl⟩
  go_enter Tryd.func22, Tryd.ntmps22
  go_wp2_with fail
  refine (implLowest g h a b c d xs ys _ (hx.below (below1 _ _)) (hy.below (below1 _ _))).mono ?_
  rintro e w1 ⟨v, rfl, hI, hb⟩
  rw [hn.out, hm.out] at hI
  have B1 := (below1 w _).trans (hb.mono (by simp))
  obtain ⟨q1, q2⟩ := at_block hb (b := w.heap.size) (by simp)
  have x0 : w1.cell? ⟨w.heap.size, 0, none⟩ = some (.bool g) := by simp [q1, go_sem]
  have x1 : w1.cell? ⟨w.heap.size, 1, none⟩ = some (.slice a xs.length c) := by simp [q1, go_sem]
  have x2 : w1.cell? ⟨w.heap.size, 2, none⟩ = some (.bool h) := by simp [q1, go_sem]
  have x3 : w1.cell? ⟨w.heap.size, 3, none⟩ = some (.slice b ys.length d) := by simp [q1, go_sem]
  have f0 : w1.frozen? ⟨w.heap.size, 0, none⟩ = false := by simp [q2, go_sem]
  have f1 : w1.frozen? ⟨w.heap.size, 1, none⟩ = false := by simp [q2, go_sem]
  have f2 : w1.frozen? ⟨w.heap.size, 2, none⟩ = false := by simp [q2, go_sem]
  have f3 : w1.frozen? ⟨w.heap.size, 3, none⟩ = false := by simp [q2, go_sem]
  obtain ⟨a1, c1, qs, a2, c2, rs, rfl, o1, o2, n1, n2, v1, v2, ap⟩ := hI
  have e2 : decide (m < 0) = false := by have := BH.out.2.2; simp; omega
  rw [e2, HG.out]
  have hI : IsFrac (w.heap.size + 1) w1 (.agg #[.bool (decide (n < 0)), .slice a1 qs.length c1, .bool (decide (m < 0)), .slice a2 rs.length c2]) n m := ⟨a1, c1, qs, a2, c2, rs, rfl, by simpa using o1, by simpa using o2, n1, n2, v1, v2, ap⟩
  have l1 : qs.length ≤ 24 := len_le o1.lim n1 (by rw [v1]; exact BH.out.1)
  have l2 : rs.length ≤ 24 := len_le o2.lim n2 (by rw [v2]; exact BH.out.2.1)
  have t1 := (tk_val o1.lim n1 l1 v1).2
  have t2 := (tk_val o2.lim n2 l2 v2).2
  rw [e2] at t2
  rw [HG.out] at t1
  have T1 : Hid (tk gz qs = n) := t1
  have T2 : Hid (tk false rs = m) := t2
  have VR : Hid (val rs = m) := by
    show _ = _
    rw [v2]
    have := BH.out.2.2
    unfold mg
    rw [if_neg (by omega)]
  have NR : Hid (Nrm rs) := n2
  have pw : ∀ p : Addr, p.block = w.heap.size → p.block < (w.alloc (.cells #[.bool g, .slice a xs.length c, .bool h, .slice b ys.length d] 42)).heap.size := fun p hp => by rw [hp]; simp
  have s1 := ((((o1.setCell (p := ⟨w.heap.size, 0, none⟩) (pw _ rfl) (.bool gz)).setCell (p := ⟨w.heap.size, 1, none⟩) (pw _ rfl) (.slice a1 qs.length c1)).setCell (p := ⟨w.heap.size, 2, none⟩) (pw _ rfl) (.bool false)).setCell (p := ⟨w.heap.size, 3, none⟩) (pw _ rfl) (.slice a2 rs.length c2)).toSees
  have s2 := ((((o2.setCell (p := ⟨w.heap.size, 0, none⟩) (pw _ rfl) (.bool gz)).setCell (p := ⟨w.heap.size, 1, none⟩) (pw _ rfl) (.slice a1 qs.length c1)).setCell (p := ⟨w.heap.size, 2, none⟩) (pw _ rfl) (.bool false)).setCell (p := ⟨w.heap.size, 3, none⟩) (pw _ rfl) (.slice a2 rs.length c2)).toSees
  obtain ⟨y0, y1, y2, y3⟩ := put4 (u0 := .bool gz) (u1 := .slice a1 qs.length c1) (u2 := .bool false) (u3 := .slice a2 rs.length c2) x0 x1 x2 x3
  have B := below_put4 (b := w.heap.size) B1 (Nat.le_refl _) (.bool gz) (.slice a1 qs.length c1) (.bool false) (.slice a2 rs.length c2)
  clear hI t1 t2 e2 n1 n2 v1 v2 l1 l2 o1 o2 hb hx hy q1 q2 ap B1 pw
  go_wp2_with fail
  clear x0 x1 x2 x3 f0 f1 f2 f3
  generalize (((w1.setCell ⟨w.heap.size, 0, none⟩ (.bool gz)).setCell ⟨w.heap.size, 1, none⟩ (.slice a1 qs.length c1)).setCell ⟨w.heap.size, 2, none⟩ (.bool false)).setCell ⟨w.heap.size, 3, none⟩ (.slice a2 rs.length c2) = W at *
  by_cases h1 : m = 1
  · have E : Hid (u = frT n m) := by show _ = _; unfold frT; rw [if_pos h1, HU.out]
    go_region_held3 (fun w' => w'.cell? ⟨w.heap.size, 0, none⟩ = some (.bool gz) ∧ w'.cell? ⟨w.heap.size, 1, none⟩ = some (.slice a1 qs.length c1) ∧ w'.cell? ⟨w.heap.size, 2, none⟩ = some (.bool false) ∧ w'.cell? ⟨w.heap.size, 3, none⟩ = some (.slice a2 rs.length c2))
      (first | exact ⟨y0, y1, y2, y3⟩ | exact m1 | exact m2 | (simp [*]))
      (first
      | (go_at_call 9; refine (implOf 1 _ (by decide) (by decide)).mono ?_; rintro e w3 ⟨v, rfl, hI3, hb3⟩; obtain ⟨a5, c5, us, rfl, oo, nu, vu⟩ := hI3; have m1 : w3.cell? ⟨w.heap.size, 0, none⟩ = some (.bool gz) ∧ w3.cell? ⟨w.heap.size, 1, none⟩ = some (.slice a1 qs.length c1) ∧ w3.cell? ⟨w.heap.size, 2, none⟩ = some (.bool false) ∧ w3.cell? ⟨w.heap.size, 3, none⟩ = some (.slice a2 rs.length c2) := ⟨bat hb3 y0, bat hb3 y1, bat hb3 y2, bat hb3 y3⟩)
      | (go_at_call 53; refine (comparedC false false a2 a5 c2 c5 rs us _ ?_ oo.toSees NR.out nu (fun _ => rfl) (fun _ => rfl)).mono ?_; exact s2.below ((Below.refl _ _).drew.trans hb3); rintro e w4 ⟨rfl, hb4⟩; have CZ := cmpIs VR.out vu h1; rw [CZ]; have m2 : w4.cell? ⟨w.heap.size, 0, none⟩ = some (.bool gz) ∧ w4.cell? ⟨w.heap.size, 1, none⟩ = some (.slice a1 qs.length c1) ∧ w4.cell? ⟨w.heap.size, 2, none⟩ = some (.bool false) ∧ w4.cell? ⟨w.heap.size, 3, none⟩ = some (.slice a2 rs.length c2) := ⟨bat hb4 m1.1, bat hb4 m1.2.1, bat hb4 m1.2.2.1, bat hb4 m1.2.2.2⟩))
    have hb := (Below.refl _ _).drew.trans (hb3.trans (hb4.mono hb3.size))
    replace B := B.trans (hb.mono B.size)
    replace s1 := s1.below hb
    replace s2 := s2.below hb
    obtain ⟨y0, y1, y2, y3⟩ := m2
    clear hb hb3 hb4 m1 oo nu vu CZ
    go_wp2_with fail
    refine (implNumText gz a1 c1 qs _ s1 (fun w' hw => HTB.out w' (B.trans (hw.mono B.size)))).mono ?_
    rintro e w5 ⟨rfl, hb⟩
    rw [T1.out, HU.out]
    replace B := B.trans (hb.mono B.size)
    clear hb
    go_wp2
    go_ret
    exact ⟨ret_str E.out, B⟩
  · have E : Hid (u ++ ⟨#[47]⟩ ++ t = frT n m) := by show _ = _; unfold frT; rw [if_neg h1, HU.out, HV.out]
    go_region_held3 (fun w' => w'.cell? ⟨w.heap.size, 0, none⟩ = some (.bool gz) ∧ w'.cell? ⟨w.heap.size, 1, none⟩ = some (.slice a1 qs.length c1) ∧ w'.cell? ⟨w.heap.size, 2, none⟩ = some (.bool false) ∧ w'.cell? ⟨w.heap.size, 3, none⟩ = some (.slice a2 rs.length c2))
      (first | exact ⟨y0, y1, y2, y3⟩ | exact m1 | exact m2 | (simp [*]))
      (first
      | (go_at_call 9; refine (implOf 1 _ (by decide) (by decide)).mono ?_; rintro e w3 ⟨v, rfl, hI3, hb3⟩; obtain ⟨a5, c5, us, rfl, oo, nu, vu⟩ := hI3; have m1 : w3.cell? ⟨w.heap.size, 0, none⟩ = some (.bool gz) ∧ w3.cell? ⟨w.heap.size, 1, none⟩ = some (.slice a1 qs.length c1) ∧ w3.cell? ⟨w.heap.size, 2, none⟩ = some (.bool false) ∧ w3.cell? ⟨w.heap.size, 3, none⟩ = some (.slice a2 rs.length c2) := ⟨bat hb3 y0, bat hb3 y1, bat hb3 y2, bat hb3 y3⟩)
      | (go_at_call 53; refine (comparedC false false a2 a5 c2 c5 rs us _ ?_ oo.toSees NR.out nu (fun _ => rfl) (fun _ => rfl)).mono ?_; exact s2.below ((Below.refl _ _).drew.trans hb3); rintro e w4 ⟨rfl, hb4⟩; have CZ := cmpNot VR.out vu BH.out.2.2 h1; rw [CZ]; have m2 : w4.cell? ⟨w.heap.size, 0, none⟩ = some (.bool gz) ∧ w4.cell? ⟨w.heap.size, 1, none⟩ = some (.slice a1 qs.length c1) ∧ w4.cell? ⟨w.heap.size, 2, none⟩ = some (.bool false) ∧ w4.cell? ⟨w.heap.size, 3, none⟩ = some (.slice a2 rs.length c2) := ⟨bat hb4 m1.1, bat hb4 m1.2.1, bat hb4 m1.2.2.1, bat hb4 m1.2.2.2⟩))
    have hb := (Below.refl _ _).drew.trans (hb3.trans (hb4.mono hb3.size))
    replace B := B.trans (hb.mono B.size)
    replace s1 := s1.below hb
    replace s2 := s2.below hb
    obtain ⟨y0, y1, y2, y3⟩ := m2
    clear hb hb3 hb4 m1 oo nu vu CZ
    have z3 : u.size + 1 ≤ 9223372036854775807 := by omega
    have z4 : u.size + 1 + t.size ≤ 9223372036854775807 := by omega
    have z5 : ¬ 9223372036854775807 < u.size + 1 := by omega
    have z6 : ¬ 9223372036854775807 < u.size + 1 + t.size := by omega
    have z7 : (⟨#[47]⟩ : ByteArray).size = 1 := rfl
    have z8 : (u ++ ⟨#[47]⟩).size = u.size + 1 := by rw [ByteArray.size_append]; rfl
    go_wp2_with fail
    go_region_held3 (fun w' => w'.cell? ⟨w.heap.size, 0, none⟩ = some (.bool gz) ∧ w'.cell? ⟨w.heap.size, 1, none⟩ = some (.slice a1 qs.length c1) ∧ w'.cell? ⟨w.heap.size, 2, none⟩ = some (.bool false) ∧ w'.cell? ⟨w.heap.size, 3, none⟩ = some (.slice a2 rs.length c2))
      (first | exact ⟨y0, y1, y2, y3⟩ | exact m3 | exact m4 | (simp [*]))
      (first
      | (go_at_call_of 10 (Value.agg #[Value.bool gz, Value.slice a1 qs.length c1]); refine (implNumText gz a1 c1 qs _ ?_ ?_).mono ?_; exact s1.below (Below.refl _ _).drew; exact (fun w' hw => HTB.out w' (B.trans (((Below.refl _ _).drew.trans hw).mono B.size))); rintro e w5 ⟨rfl, hb5⟩; rw [T1.out, HU.out]; have m3 : w5.cell? ⟨w.heap.size, 0, none⟩ = some (.bool gz) ∧ w5.cell? ⟨w.heap.size, 1, none⟩ = some (.slice a1 qs.length c1) ∧ w5.cell? ⟨w.heap.size, 2, none⟩ = some (.bool false) ∧ w5.cell? ⟨w.heap.size, 3, none⟩ = some (.slice a2 rs.length c2) := ⟨bat hb5 y0, bat hb5 y1, bat hb5 y2, bat hb5 y3⟩)
      | (go_at_call_of 10 (Value.agg #[Value.bool false, Value.slice a2 rs.length c2]); refine (implNumText false a2 c2 rs _ ?_ ?_).mono ?_; exact s2.below ((Below.refl _ _).drew.trans hb5); exact (fun w' hw => HTB.out w' (B.trans (((Below.refl _ _).drew.trans (hb5.trans (hw.mono hb5.size))).mono B.size))); rintro e w6 ⟨rfl, hb6⟩; rw [T2.out, HV.out]; have m4 : w6.cell? ⟨w.heap.size, 0, none⟩ = some (.bool gz) ∧ w6.cell? ⟨w.heap.size, 1, none⟩ = some (.slice a1 qs.length c1) ∧ w6.cell? ⟨w.heap.size, 2, none⟩ = some (.bool false) ∧ w6.cell? ⟨w.heap.size, 3, none⟩ = some (.slice a2 rs.length c2) := ⟨bat hb6 m3.1, bat hb6 m3.2.1, bat hb6 m3.2.2.1, bat hb6 m3.2.2.2⟩))
    all_goals
      have hb := (Below.refl _ _).drew.trans (hb5.trans (hb6.mono hb5.size))
      replace B := B.trans (hb.mono B.size)
      clear hb hb5 hb6 m3 m4
      go_wp2
      go_ret
      exact ⟨ret_str E.out, B⟩
end Go.Proofs.YtccdihglpobnmaaDoor
