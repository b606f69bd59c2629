/- A node's box told anew: l15Closed of the specification. -/
import Derived.Test.YthompofbdjdloaaGreatTrK
import Derived.Test.YthompofbdjdloaaGreatTrT
namespace Go.Proofs.YthompofbdjdloaaGreat
open Go.RowKit

/-- The box that a node must have, as the specification tells it. -/
def bxS (t : Nd) : Bx := if t.ks = [] then jnS t.bs else jnS (t.ks.map Nd.b)
/-- A node with that box. -/
def clS (t : Nd) : Nd := .mk (bxS t) t.bs t.is t.ks

set_option maxRecDepth 20000 in
set_option maxHeartbeats 4000000 in
theorem l15Closed_any (t : Nd) (v1 v2 v3 : Value) (w : World) (h : NdIn 0 w t v1 v2 v3) (hk : t.ks.length ≤ 1000) :
    Calls Tryz.prog 55 #[ndV t v1 v2 v3] w fun e w' => e = .returned (ndV (clS t) v1 v2 v3) ∧ Below w.heap.size w w' := by
  have L := fun W (hb : Below w.heap.size w W) => l15Leaf_any t v1 v2 v3 W (NdIn.keep hb _ h)
  obtain ⟨a1, c1, a2, c2, a3, c3, rfl, rfl, rfl, s1, _, s2, _, s3⟩ := h.open
  have HC1 : Hid (t.ks = [] → ∀ W, Below w.heap.size w W → Calls Tryz.prog 86 #[.slice a1 t.bs.length c1] W fun e w' => e = .returned (bxV (bxS t)) ∧ Below W.heap.size W w') := fun hn W hb => by
    have e : bxS t = jnS t.bs := by unfold bxS; rw [if_pos hn]
    rw [e]
    exact l15Join_any a1 c1 t.bs W (s1.below hb)
  have HC2 : Hid (∀ W, Below w.heap.size w W → Calls Tryz.prog 87 #[.slice a3 t.ks.length c3] W fun e w' => ∃ a' c', e = .returned (.slice a' t.ks.length c') ∧ SeesX w' a' c' (t.ks.map Nd.b) ∧ Below W.heap.size W w') := fun W hb => l15KidBoxes_any a3 c3 t.ks W (s3.below hb) hk
  have HC3 : Hid (t.ks ≠ [] → ∀ W a' c', SeesX W a' c' (t.ks.map Nd.b) → Calls Tryz.prog 86 #[.slice a' t.ks.length c'] W fun e w' => e = .returned (bxV (bxS t)) ∧ Below W.heap.size W w') := fun hn W a' c' S => by
    have e : bxS t = jnS (t.ks.map Nd.b) := by unfold bxS; rw [if_neg hn]
    have q := l15Join_any a' c' (t.ks.map Nd.b) W S
    rw [List.length_map] at q
    rw [e]
    exact q
  have HE : (clS t).b = bxS t := by obtain ⟨b, bs, is, ks⟩ := t; rfl
  clear s1 s2 s3 h
  unfold ndV at *
  rw [HE]
  obtain ⟨⟨x1, x2, x3, x4⟩, ux⟩ : ∃ x, Hid (t.b = x) := ⟨_, rfl⟩
  rw [ux.out] at L ⊢
  obtain ⟨⟨n1, n2, n3, n4⟩, un⟩ : ∃ x, Hid (bxS t = x) := ⟨_, rfl⟩
  rw [un.out] at HC1 HC3 ⊢
  obtain ⟨kb, hkb⟩ : ∃ z, Hid (decide (t.ks = []) = z) := ⟨_, rfl⟩
  rw [hkb.out] at L
  have HK : Hid (kb = true ↔ t.ks = []) := by show _ ↔ _; rw [← hkb.out]; exact decide_eq_true_iff
  dsimp only at L ⊢
  clear HE hk
  generalize t.bs.length = m1 at *
  generalize t.is.length = m2 at *
  generalize t.ks.length = m3 at *
  have b0 := below1 w (.cells #[.int .i64 x1, .int .i64 x2, .int .i64 x3, .int .i64 x4, .slice a1 m1 c1, .slice a2 m2 c2, .slice a3 m3 c3] 32)
  have V := Bx7.new w (.int .i64 x1) (.int .i64 x2) (.int .i64 x3) (.int .i64 x4) (.slice a1 m1 c1) (.slice a2 m2 c2) (.slice a3 m3 c3) 32
  have b1 := below1 (w.alloc (.cells #[.int .i64 x1, .int .i64 x2, .int .i64 x3, .int .i64 x4, .slice a1 m1 c1, .slice a2 m2 c2, .slice a3 m3 c3] 32)) (.cells #[.int .i64 0, .int .i64 0, .int .i64 0, .int .i64 0, .slice none 0 0, .slice none 0 0, .slice none 0 0] 32)
  have R := Bx7.new (w.alloc (.cells #[.int .i64 x1, .int .i64 x2, .int .i64 x3, .int .i64 x4, .slice a1 m1 c1, .slice a2 m2 c2, .slice a3 m3 c3] 32)) (.int .i64 0) (.int .i64 0) (.int .i64 0) (.int .i64 0) (.slice none 0 0) (.slice none 0 0) (.slice none 0 0) 32
  rw [World.size_alloc] at R
  replace V := V.below b1
  have B := b0.trans (b1.mono b0.size)
  clear b0 b1
  go_enter Tryz.func55, Tryz.ntmps55
  go_upto_region 1 with fail
  generalize (w.alloc (.cells #[.int .i64 x1, .int .i64 x2, .int .i64 x3, .int .i64 x4, .slice a1 m1 c1, .slice a2 m2 c2, .slice a3 m3 c3] 32)).alloc (.cells #[.int .i64 0, .int .i64 0, .int .i64 0, .int .i64 0, .slice none 0 0, .slice none 0 0, .slice none 0 0] 32) = W0 at *
  obtain ⟨k0, k1, k2, k3, k4, k5, k6, kf⟩ := id V
  go_wp2_with fail
  refine (L _ B).mono ?_
  rintro e w1 ⟨rfl, hb⟩
  replace B := B.trans (hb.mono B.size)
  replace V := V.below hb
  replace R := R.below hb
  clear hb k0 k1 k2 k3 k4 k5 k6 kf L
  obtain ⟨k0, k1, k2, k3, k4, k5, k6, kf⟩ := id V
  cases kb
  · have C2 := HC2.out w1 B
    have C3 := HC3.out (fun e => by have := HK.out.2 e; cases this)
    clear HC1 HC2 HC3
    go_wp2_with fail
    refine C2.mono ?_
    rintro e w2 ⟨a', c', rfl, SX, hb⟩
    replace B := B.trans (hb.mono B.size)
    replace V := V.below hb
    replace R := R.below hb
    have C := C3 w2 a' c' SX
    clear hb C2 C3 SX k0 k1 k2 k3 k4 k5 k6 kf
    obtain ⟨k0, k1, k2, k3, k4, k5, k6, kf⟩ := id V
    go_wp2_with fail
    refine C.mono ?_
    rintro e w3 ⟨rfl, hb⟩
    replace B := B.trans (hb.mono B.size)
    replace V := V.below hb
    replace R := R.below hb
    clear hb C k0 k1 k2 k3 k4 k5 k6 kf
    unfold bxV
    dsimp only
    have V2 := (((V.set0 (.int .i64 n1)).set1 (.int .i64 n2)).set2 (.int .i64 n3)).set3 (.int .i64 n4)
    have R2 := (((R.old (q := w.heap.size) (o := 0) (by omega) (.int .i64 n1)).old (q := w.heap.size) (o := 1) (by omega) (.int .i64 n2)).old (q := w.heap.size) (o := 2) (by omega) (.int .i64 n3)).old (q := w.heap.size) (o := 3) (by omega) (.int .i64 n4)
    have B2 : Below w.heap.size w ((((w3.setCell ⟨w.heap.size, 0, none⟩ (.int .i64 n1)).setCell ⟨w.heap.size, 1, none⟩ (.int .i64 n2)).setCell ⟨w.heap.size, 2, none⟩ (.int .i64 n3)).setCell ⟨w.heap.size, 3, none⟩ (.int .i64 n4)) := (((B.setCell (p := ⟨w.heap.size, 0, none⟩) (Nat.le_refl _) _).setCell (p := ⟨w.heap.size, 1, none⟩) (Nat.le_refl _) _).setCell (p := ⟨w.heap.size, 2, none⟩) (Nat.le_refl _) _).setCell (p := ⟨w.heap.size, 3, none⟩) (Nat.le_refl _) _
    obtain ⟨k0, k1, k2, k3, k4, k5, k6, kf⟩ := id V
    clear V R B
    go_upto_region 4 with fail
    clear k0 k1 k2 k3 k4 k5 k6 kf
    generalize ((((w3.setCell ⟨w.heap.size, 0, none⟩ (.int .i64 n1)).setCell ⟨w.heap.size, 1, none⟩ (.int .i64 n2)).setCell ⟨w.heap.size, 2, none⟩ (.int .i64 n3)).setCell ⟨w.heap.size, 3, none⟩ (.int .i64 n4)) = W3 at *
    obtain ⟨k0, k1, k2, k3, k4, k5, k6, kf⟩ := id V2
    obtain ⟨r0, r1, r2, r3, r4, r5, r6, rf⟩ := id R2
    have R3 := ((((((R2.set0 (.int .i64 n1)).set1 (.int .i64 n2)).set2 (.int .i64 n3)).set3 (.int .i64 n4)).set4 (.slice a1 m1 c1)).set5 (.slice a2 m2 c2)).set6 (.slice a3 m3 c3)
    have B3 := ((((((B2.setCell (p := ⟨w.heap.size + 1, 0, none⟩) (Nat.le_succ _) (.int .i64 n1)).setCell (p := ⟨w.heap.size + 1, 1, none⟩) (Nat.le_succ _) (.int .i64 n2)).setCell (p := ⟨w.heap.size + 1, 2, none⟩) (Nat.le_succ _) (.int .i64 n3)).setCell (p := ⟨w.heap.size + 1, 3, none⟩) (Nat.le_succ _) (.int .i64 n4)).setCell (p := ⟨w.heap.size + 1, 4, none⟩) (Nat.le_succ _) (.slice a1 m1 c1)).setCell (p := ⟨w.heap.size + 1, 5, none⟩) (Nat.le_succ _) (.slice a2 m2 c2)).setCell (p := ⟨w.heap.size + 1, 6, none⟩) (Nat.le_succ _) (.slice a3 m3 c3)
    obtain ⟨q0, q1, q2, q3, q4, q5, q6, _⟩ := R3
    clear V2 R2 B2
    go_wp2
    exact bodyPost_ret (v := .agg #[.int .i64 n1, .int .i64 n2, .int .i64 n3, .int .i64 n4, .slice a1 m1 c1, .slice a2 m2 c2, .slice a3 m3 c3]) (by simp [results, Tryz.results55, go_sem, q0, q1, q2, q3, q4, q5, q6]) rfl ⟨rfl, B3⟩
  · have C := HC1.out (HK.out.1 rfl) w1 B
    clear HC1 HC2 HC3
    go_wp2_with fail
    refine C.mono ?_
    rintro e w3 ⟨rfl, hb⟩
    replace B := B.trans (hb.mono B.size)
    replace V := V.below hb
    replace R := R.below hb
    clear hb C k0 k1 k2 k3 k4 k5 k6 kf
    unfold bxV
    dsimp only
    have V2 := (((V.set0 (.int .i64 n1)).set1 (.int .i64 n2)).set2 (.int .i64 n3)).set3 (.int .i64 n4)
    have R2 := (((R.old (q := w.heap.size) (o := 0) (by omega) (.int .i64 n1)).old (q := w.heap.size) (o := 1) (by omega) (.int .i64 n2)).old (q := w.heap.size) (o := 2) (by omega) (.int .i64 n3)).old (q := w.heap.size) (o := 3) (by omega) (.int .i64 n4)
    have B2 : Below w.heap.size w ((((w3.setCell ⟨w.heap.size, 0, none⟩ (.int .i64 n1)).setCell ⟨w.heap.size, 1, none⟩ (.int .i64 n2)).setCell ⟨w.heap.size, 2, none⟩ (.int .i64 n3)).setCell ⟨w.heap.size, 3, none⟩ (.int .i64 n4)) := (((B.setCell (p := ⟨w.heap.size, 0, none⟩) (Nat.le_refl _) _).setCell (p := ⟨w.heap.size, 1, none⟩) (Nat.le_refl _) _).setCell (p := ⟨w.heap.size, 2, none⟩) (Nat.le_refl _) _).setCell (p := ⟨w.heap.size, 3, none⟩) (Nat.le_refl _) _
    obtain ⟨k0, k1, k2, k3, k4, k5, k6, kf⟩ := id V
    clear V R B
    go_upto_region 4 with fail
    clear k0 k1 k2 k3 k4 k5 k6 kf
    generalize ((((w3.setCell ⟨w.heap.size, 0, none⟩ (.int .i64 n1)).setCell ⟨w.heap.size, 1, none⟩ (.int .i64 n2)).setCell ⟨w.heap.size, 2, none⟩ (.int .i64 n3)).setCell ⟨w.heap.size, 3, none⟩ (.int .i64 n4)) = W3 at *
    obtain ⟨k0, k1, k2, k3, k4, k5, k6, kf⟩ := id V2
    obtain ⟨r0, r1, r2, r3, r4, r5, r6, rf⟩ := id R2
    have R3 := ((((((R2.set0 (.int .i64 n1)).set1 (.int .i64 n2)).set2 (.int .i64 n3)).set3 (.int .i64 n4)).set4 (.slice a1 m1 c1)).set5 (.slice a2 m2 c2)).set6 (.slice a3 m3 c3)
    have B3 := ((((((B2.setCell (p := ⟨w.heap.size + 1, 0, none⟩) (Nat.le_succ _) (.int .i64 n1)).setCell (p := ⟨w.heap.size + 1, 1, none⟩) (Nat.le_succ _) (.int .i64 n2)).setCell (p := ⟨w.heap.size + 1, 2, none⟩) (Nat.le_succ _) (.int .i64 n3)).setCell (p := ⟨w.heap.size + 1, 3, none⟩) (Nat.le_succ _) (.int .i64 n4)).setCell (p := ⟨w.heap.size + 1, 4, none⟩) (Nat.le_succ _) (.slice a1 m1 c1)).setCell (p := ⟨w.heap.size + 1, 5, none⟩) (Nat.le_succ _) (.slice a2 m2 c2)).setCell (p := ⟨w.heap.size + 1, 6, none⟩) (Nat.le_succ _) (.slice a3 m3 c3)
    obtain ⟨q0, q1, q2, q3, q4, q5, q6, _⟩ := R3
    clear V2 R2 B2
    go_wp2
    exact bodyPost_ret (v := .agg #[.int .i64 n1, .int .i64 n2, .int .i64 n3, .int .i64 n4, .slice a1 m1 c1, .slice a2 m2 c2, .slice a3 m3 c3]) (by simp [results, Tryz.results55, go_sem, q0, q1, q2, q3, q4, q5, q6]) rfl ⟨rfl, B3⟩
end Go.Proofs.YthompofbdjdloaaGreat
