import Derived.Test.YtinlomcaagdbiaaGreatTrZ
import Derived.Test.YtinlomcaagdbiaaGreatTbW
import Derived.Test.YtinlomcaagdbiaaGreatTrG
import Derived.Test.YtinlomcaagdbiaaGreatBase
/- A node's box told anew: l15Closed of the specification. -/
namespace Go.Proofs.YtinlomcaagdbiaaGreat
open Go.RowKit

def bxS (t : Nd) : Bx := if t.ks = [] then jnS t.bs else jnS (t.ks.map Nd.b)
def clS (t : Nd) : Nd := .mk (bxS t) t.bs t.is t.ks

set_option maxRecDepth 20000 in
set_option maxHeartbeats 4000000 in
theorem l15Closed_any (t : Nd) (v1 v2 v3 : Value) (w : World) (h : NdIn 0 w t v1 v2 v3) (hk : t.ks.length ≤ 1000) :
  Calls Tryz.prog 57 #[ndV t v1 v2 v3] w fun e w' => e = .returned (ndV (clS t) v1 v2 v3) ∧ Below w.heap.size w w' := by
 have L := fun W (hb : Below w.heap.size w W) => l15Leaf_any t v1 v2 v3 W (NdIn.keep hb _ h)
 obtain ⟨a1, c1, a2, c2, a3, c3, rfl, rfl, rfl, s1, _, s2, _, s3⟩ := h.open
 have HC1 : Hid (t.ks = [] → ∀ W, Below w.heap.size w W → Calls Tryz.prog 71 #[.slice a1 t.bs.length c1] W fun e w' => e = .returned (bxV (bxS t)) ∧ Below W.heap.size W w') := fun hn W hb => by
  have e : bxS t = jnS t.bs := by unfold bxS; rw [if_pos hn]
  rw [e]
  exact l15Join_any a1 c1 t.bs W (s1.below hb)
 have HC2 : Hid (∀ W, Below w.heap.size w W → Calls Tryz.prog 72 #[.slice a3 t.ks.length c3] W fun e w' => ∃ a' c', e = .returned (.slice a' t.ks.length c') ∧ SeesX w' a' c' (t.ks.map Nd.b) ∧ Below W.heap.size W w') := fun W hb => l15KidBoxes_any a3 c3 t.ks W (s3.below hb) hk
 have HC3 : Hid (t.ks ≠ [] → ∀ W a' c', SeesX W a' c' (t.ks.map Nd.b) → Calls Tryz.prog 71 #[.slice a' t.ks.length c'] W fun e w' => e = .returned (bxV (bxS t)) ∧ Below W.heap.size W w') := fun hn W a' c' S => by
  have e : bxS t = jnS (t.ks.map Nd.b) := by unfold bxS; rw [if_neg hn]
  have q := l15Join_any a' c' (t.ks.map Nd.b) W S
  rw [List.length_map] at q
  rw [e]
  exact q
 have HE : (clS t).b = bxS t := by obtain ⟨b, bs, is, ks⟩ := t; rfl
 clear s1 s2 s3 h
 unfold ndV at *
 rw [HE]
 obtain ⟨⟨x1, x2, x3, x4⟩, ux⟩ : ∃ x, Hid (t.b = x) := ⟨_, rfl⟩
 rw [ux.out] at L ⊢
 obtain ⟨⟨n1, n2, n3, n4⟩, un⟩ : ∃ x, Hid (bxS t = x) := ⟨_, rfl⟩
 rw [un.out] at HC1 HC3 ⊢
 obtain ⟨kb, hkb⟩ : ∃ z, Hid (decide (t.ks = []) = z) := ⟨_, rfl⟩
 rw [hkb.out] at L
 have HK : Hid (kb = true ↔ t.ks = []) := by show _ ↔ _; rw [← hkb.out]; exact decide_eq_true_iff
 dsimp only at L ⊢
 clear HE hk
 generalize t.bs.length = m1 at *
 generalize t.is.length = m2 at *
 generalize t.ks.length = m3 at *
 have b0 := below1 w (.cells #[.int .i64 x1, .int .i64 x2, .int .i64 x3, .int .i64 x4, .slice a1 m1 c1, .slice a2 m2 c2, .slice a3 m3 c3] 32)
 have V := Bx7.new w (.int .i64 x1) (.int .i64 x2) (.int .i64 x3) (.int .i64 x4) (.slice a1 m1 c1) (.slice a2 m2 c2) (.slice a3 m3 c3) 32
 have b1 := below1 (w.alloc (.cells #[.int .i64 x1, .int .i64 x2, .int .i64 x3, .int .i64 x4, .slice a1 m1 c1, .slice a2 m2 c2, .slice a3 m3 c3] 32)) (.cells #[.int .i64 0, .int .i64 0, .int .i64 0, .int .i64 0, .slice none 0 0, .slice none 0 0, .slice none 0 0] 32)
 have R := Bx7.new (w.alloc (.cells #[.int .i64 x1, .int .i64 x2, .int .i64 x3, .int .i64 x4, .slice a1 m1 c1, .slice a2 m2 c2, .slice a3 m3 c3] 32)) (.int .i64 0) (.int .i64 0) (.int .i64 0) (.int .i64 0) (.slice none 0 0) (.slice none 0 0) (.slice none 0 0) 32
 rw [World.size_alloc] at R
 replace V := V.below b1
 have B := b0.trans (b1.mono b0.size)
 clear b0 b1
 go_enter Tryz.func57, Tryz.ntmps57
 go_upto_region 1 with fail
 generalize (w.alloc (.cells #[.int .i64 x1, .int .i64 x2, .int .i64 x3, .int .i64 x4, .slice a1 m1 c1, .slice a2 m2 c2, .slice a3 m3 c3] 32)).alloc (.cells #[.int .i64 0, .int .i64 0, .int .i64 0, .int .i64 0, .slice none 0 0, .slice none 0 0, .slice none 0 0] 32) = W0 at *
 obtain ⟨k0, k1, k2, k3, k4, k5, k6, kf⟩ := id V
 go_wp2_with fail
 refine (L _ B).mono ?_
 rintro e w1 ⟨rfl, hb⟩
 replace B := B.trans (hb.mono B.size)
 replace V := V.below hb
 replace R := R.below hb
 clear hb k0 k1 k2 k3 k4 k5 k6 kf L
 obtain ⟨k0, k1, k2, k3, k4, k5, k6, kf⟩ := id V
 cases kb
 ·have C2 := HC2.out w1 B
  have C3 := HC3.out (fun e => by have := HK.out.2 e; cases this)
  clear HC1 HC2 HC3
  go_wp2_with fail
  refine C2.mono ?_
  rintro e w2 ⟨a', c', rfl, SX, hb⟩
  replace B := B.trans (hb.mono B.size)
  replace V := V.below hb
  replace R := R.below hb
  have C := C3 w2 a' c' SX
  clear hb C2 C3 SX k0 k1 k2 k3 k4 k5 k6 kf
  obtain ⟨k0, k1, k2, k3, k4, k5, k6, kf⟩ := id V
  go_wp2_with fail
  refine C.mono ?_
  rintro e w3 ⟨rfl, hb⟩
  replace B := B.trans (hb.mono B.size)
  replace V := V.below hb
  replace R := R.below hb
  clear hb C k0 k1 k2 k3 k4 k5 k6 kf
  unfold bxV
  dsimp only
  have V2 := (((V.set0 (.int .i64 n1)).set1 (.int .i64 n2)).set2 (.int .i64 n3)).set3 (.int .i64 n4)
  have R2 := (((R.old (q := w.heap.size) (o := 0) (by omega) (.int .i64 n1)).old (q := w.heap.size) (o := 1) (by omega) (.int .i64 n2)).old (q := w.heap.size) (o := 2) (by omega) (.int .i64 n3)).old (q := w.heap.size) (o := 3) (by omega) (.int .i64 n4)
  have B2 : Below w.heap.size w ((((w3.setCell ⟨w.heap.size, 0, none⟩ (.int .i64 n1)).setCell ⟨w.heap.size, 1, none⟩ (.int .i64 n2)).setCell ⟨w.heap.size, 2, none⟩ (.int .i64 n3)).setCell ⟨w.heap.size, 3, none⟩ (.int .i64 n4)) := (((B.setCell (p := ⟨w.heap.size, 0, none⟩) (Nat.le_refl _) _).setCell (p := ⟨w.heap.size, 1, none⟩) (Nat.le_refl _) _).setCell (p := ⟨w.heap.size, 2, none⟩) (Nat.le_refl _) _).setCell (p := ⟨w.heap.size, 3, none⟩) (Nat.le_refl _) _
  obtain ⟨k0, k1, k2, k3, k4, k5, k6, kf⟩ := id V
  clear V R B
  go_upto_region 4 with fail
  clear k0 k1 k2 k3 k4 k5 k6 kf
  generalize ((((w3.setCell ⟨w.heap.size, 0, none⟩ (.int .i64 n1)).setCell ⟨w.heap.size, 1, none⟩ (.int .i64 n2)).setCell ⟨w.heap.size, 2, none⟩ (.int .i64 n3)).setCell ⟨w.heap.size, 3, none⟩ (.int .i64 n4)) = W3 at *
  obtain ⟨k0, k1, k2, k3, k4, k5, k6, kf⟩ := id V2
  obtain ⟨r0, r1, r2, r3, r4, r5, r6, rf⟩ := id R2
  have R3 := ((((((R2.set0 (.int .i64 n1)).set1 (.int .i64 n2)).set2 (.int .i64 n3)).set3 (.int .i64 n4)).set4 (.slice a1 m1 c1)).set5 (.slice a2 m2 c2)).set6 (.slice a3 m3 c3)
  have B3 := ((((((B2.setCell (p := ⟨w.heap.size + 1, 0, none⟩) (Nat.le_succ _) (.int .i64 n1)).setCell (p := ⟨w.heap.size + 1, 1, none⟩) (Nat.le_succ _) (.int .i64 n2)).setCell (p := ⟨w.heap.size + 1, 2, none⟩) (Nat.le_succ _) (.int .i64 n3)).setCell (p := ⟨w.heap.size + 1, 3, none⟩) (Nat.le_succ _) (.int .i64 n4)).setCell (p := ⟨w.heap.size + 1, 4, none⟩) (Nat.le_succ _) (.slice a1 m1 c1)).setCell (p := ⟨w.heap.size + 1, 5, none⟩) (Nat.le_succ _) (.slice a2 m2 c2)).setCell (p := ⟨w.heap.size + 1, 6, none⟩) (Nat.le_succ _) (.slice a3 m3 c3)
  obtain ⟨q0, q1, q2, q3, q4, q5, q6, _⟩ := R3
  clear V2 R2 B2
  go_wp2
  exact bodyPost_ret (v := .agg #[.int .i64 n1, .int .i64 n2, .int .i64 n3, .int .i64 n4, .slice a1 m1 c1, .slice a2 m2 c2, .slice a3 m3 c3]) (by simp [results, Tryz.results57, go_sem, q0, q1, q2, q3, q4, q5, q6]) rfl ⟨rfl, B3⟩
 ·have C := HC1.out (HK.out.1 rfl) w1 B
  clear HC1 HC2 HC3
  go_wp2_with fail
  refine C.mono ?_
  rintro e w3 ⟨rfl, hb⟩
  replace B := B.trans (hb.mono B.size)
  replace V := V.below hb
  replace R := R.below hb
  clear hb C k0 k1 k2 k3 k4 k5 k6 kf
  unfold bxV
  dsimp only
  have V2 := (((V.set0 (.int .i64 n1)).set1 (.int .i64 n2)).set2 (.int .i64 n3)).set3 (.int .i64 n4)
  have R2 := (((R.old (q := w.heap.size) (o := 0) (by omega) (.int .i64 n1)).old (q := w.heap.size) (o := 1) (by omega) (.int .i64 n2)).old (q := w.heap.size) (o := 2) (by omega) (.int .i64 n3)).old (q := w.heap.size) (o := 3) (by omega) (.int .i64 n4)
  have B2 : Below w.heap.size w ((((w3.setCell ⟨w.heap.size, 0, none⟩ (.int .i64 n1)).setCell ⟨w.heap.size, 1, none⟩ (.int .i64 n2)).setCell ⟨w.heap.size, 2, none⟩ (.int .i64 n3)).setCell ⟨w.heap.size, 3, none⟩ (.int .i64 n4)) := (((B.setCell (p := ⟨w.heap.size, 0, none⟩) (Nat.le_refl _) _).setCell (p := ⟨w.heap.size, 1, none⟩) (Nat.le_refl _) _).setCell (p := ⟨w.heap.size, 2, none⟩) (Nat.le_refl _) _).setCell (p := ⟨w.heap.size, 3, none⟩) (Nat.le_refl _) _
  obtain ⟨k0, k1, k2, k3, k4, k5, k6, kf⟩ := id V
  clear V R B
  go_upto_region 4 with fail
  clear k0 k1 k2 k3 k4 k5 k6 kf
  generalize ((((w3.setCell ⟨w.heap.size, 0, none⟩ (.int .i64 n1)).setCell ⟨w.heap.size, 1, none⟩ (.int .i64 n2)).setCell ⟨w.heap.size, 2, none⟩ (.int .i64 n3)).setCell ⟨w.heap.size, 3, none⟩ (.int .i64 n4)) = W3 at *
  obtain ⟨k0, k1, k2, k3, k4, k5, k6, kf⟩ := id V2
  obtain ⟨r0, r1, r2, r3, r4, r5, r6, rf⟩ := id R2
  have R3 := ((((((R2.set0 (.int .i64 n1)).set1 (.int .i64 n2)).set2 (.int .i64 n3)).set3 (.int .i64 n4)).set4 (.slice a1 m1 c1)).set5 (.slice a2 m2 c2)).set6 (.slice a3 m3 c3)
  have B3 := ((((((B2.setCell (p := ⟨w.heap.size + 1, 0, none⟩) (Nat.le_succ _) (.int .i64 n1)).setCell (p := ⟨w.heap.size + 1, 1, none⟩) (Nat.le_succ _) (.int .i64 n2)).setCell (p := ⟨w.heap.size + 1, 2, none⟩) (Nat.le_succ _) (.int .i64 n3)).setCell (p := ⟨w.heap.size + 1, 3, none⟩) (Nat.le_succ _) (.int .i64 n4)).setCell (p := ⟨w.heap.size + 1, 4, none⟩) (Nat.le_succ _) (.slice a1 m1 c1)).setCell (p := ⟨w.heap.size + 1, 5, none⟩) (Nat.le_succ _) (.slice a2 m2 c2)).setCell (p := ⟨w.heap.size + 1, 6, none⟩) (Nat.le_succ _) (.slice a3 m3 c3)
  obtain ⟨q0, q1, q2, q3, q4, q5, q6, _⟩ := R3
  clear V2 R2 B2
  go_wp2
  exact bodyPost_ret (v := .agg #[.int .i64 n1, .int .i64 n2, .int .i64 n3, .int .i64 n4, .slice a1 m1 c1, .slice a2 m2 c2, .slice a3 m3 c3]) (by simp [results, Tryz.results57, go_sem, q0, q1, q2, q3, q4, q5, q6]) rfl ⟨rfl, B3⟩
end Go.Proofs.YtinlomcaagdbiaaGreat

/- The mathematics of TreeBuild: levels of at most four, up to one node. -/
namespace Go.Proofs.YtinlomcaagdbiaaGreat
open Go.RowKit

def ch4 {α : Type} (l : List α) (i : Nat) : List α := (l.drop (4 * i)).take 4
theorem ch4_len {α : Type} (l : List α) (i : Nat) : (ch4 l i).length ≤ 4 := by unfold ch4; rw [List.length_take]; omega
theorem ch4_len' {α : Type} (l : List α) (i : Nat) : (ch4 l i).length = min 4 (l.length - 4 * i) := by unfold ch4; rw [List.length_take, List.length_drop]
theorem take_ch4 {α : Type} (l : List α) (k : Nat) : l.take (4 * (k + 1)) = l.take (4 * k) ++ ch4 l k := by
 unfold ch4
 rw [show 4 * (k + 1) = 4 * k + 4 by omega, List.take_add]
theorem ch4_mem {α : Type} {l : List α} {i : Nat} {x : α} (h : x ∈ ch4 l i) : x ∈ l := List.mem_of_mem_drop (List.mem_of_mem_take h)
def lfK (bs : List Bx) (is : List Int) (k : Nat) : List Nd := (List.range k).map fun i => clS (.mk (0, 0, 0, 0) (ch4 bs i) (ch4 is i) [])
def upK (L : List Nd) (k : Nat) : List Nd := (List.range k).map fun i => clS (.mk (0, 0, 0, 0) [] [] (ch4 L i))
theorem lfK_len (bs : List Bx) (is : List Int) (k : Nat) : (lfK bs is k).length = k := by simp [lfK]
theorem upK_len (L : List Nd) (k : Nat) : (upK L k).length = k := by simp [upK]
theorem lfK_succ (bs : List Bx) (is : List Int) (k : Nat) : lfK bs is (k + 1) = lfK bs is k ++ [clS (.mk (0, 0, 0, 0) (ch4 bs k) (ch4 is k) [])] := by simp [lfK, List.range_succ]
theorem upK_succ (L : List Nd) (k : Nat) : upK L (k + 1) = upK L k ++ [clS (.mk (0, 0, 0, 0) [] [] (ch4 L k))] := by simp [upK, List.range_succ]
def lfs (bs : List Bx) (is : List Int) : List Nd := lfK bs is ((bs.length + 3) / 4)
def ups (L : List Nd) : List Nd := upK L ((L.length + 3) / 4)
theorem ups_len (L : List Nd) : (ups L).length = (L.length + 3) / 4 := upK_len ..
theorem lfs_len (bs : List Bx) (is : List Int) : (lfs bs is).length = (bs.length + 3) / 4 := lfK_len ..
def topOf (L : List Nd) : Nd := if L.length ≤ 1 then ndA L 0 else topOf (ups L)
termination_by L.length
decreasing_by rw [ups_len]; omega
theorem topOf_one {L : List Nd} (h : L.length ≤ 1) : topOf L = ndA L 0 := by rw [topOf, if_pos h]
theorem topOf_up {L : List Nd} (h : 1 < L.length) : topOf L = topOf (ups L) := by conv => lhs; rw [topOf, if_neg (by omega)]
def bldT (bs : List Bx) (is : List Int) : Nd := topOf (lfs bs is)
def okN (L : List Nd) : Prop := ∀ k ∈ L, okX k.b = true
theorem clS_b (t : Nd) : (clS t).b = bxS t := by cases t; rfl
theorem clS_bs (t : Nd) : (clS t).bs = t.bs := by cases t; rfl
theorem clS_is (t : Nd) : (clS t).is = t.is := by cases t; rfl
theorem clS_ks (t : Nd) : (clS t).ks = t.ks := by cases t; rfl
theorem allOk_mem {bs : List Bx} (h : ∀ b ∈ bs, okX b = true) : allOk bs bs.length = true := by
 rw [allOk_iff]
 intro i hi
 unfold bxAt
 rw [List.getElem?_eq_getElem hi]
 exact h _ (List.getElem_mem hi)
theorem bxS_lf {bs : List Bx} (is : List Int) (h : ∀ b ∈ bs, okX b = true) (c : Bx) : bxS (.mk c bs is []) = jnI bs := by
 exact (if_pos (show (Nd.mk c bs is []).ks = [] from rfl)).trans (jnI_jnS (allOk_mem h)).symm
theorem bxS_up {ks : List Nd} (h : okN ks) (c : Bx) (h0 : ks ≠ []) : bxS (.mk c [] [] ks) = jnI (ks.map Nd.b) := by
 exact (if_neg (show ¬ (Nd.mk c [] [] ks).ks = [] from h0)).trans (jnI_jnS (kids_ok h)).symm
theorem okX_lf {bs : List Bx} (is : List Int) (h : ∀ b ∈ bs, okX b = true) (c : Bx) (h0 : bs ≠ []) : okX (bxS (.mk c bs is [])) = true := by
 rw [bxS_lf is h]
 exact jnI_ok (allOk_mem h) (by simpa using h0)
theorem okX_up {ks : List Nd} (h : okN ks) (c : Bx) (h0 : ks ≠ []) : okX (bxS (.mk c [] [] ks)) = true := by
 rw [bxS_up h c h0]
 exact jnI_ok (kids_ok h) (by simpa using h0)
theorem ch4_ne {α : Type} {l : List α} {i : Nat} (h : i < (l.length + 3) / 4) : ch4 l i ≠ [] := by
 intro e
 have := congrArg List.length e
 rw [ch4_len'] at this
 simp at this
 omega
theorem okN_lfK {bs : List Bx} (is : List Int) (h : ∀ b ∈ bs, okX b = true) {k : Nat} (hk : k ≤ (bs.length + 3) / 4) : okN (lfK bs is k) := by
 intro t ht
 unfold lfK at ht
 obtain ⟨i, hi, rfl⟩ := List.mem_map.1 ht
 rw [List.mem_range] at hi
 rw [clS_b]
 exact okX_lf _ (fun b hb => h b (ch4_mem hb)) _ (ch4_ne (by omega))
theorem okN_upK {L : List Nd} (h : okN L) {k : Nat} (hk : k ≤ (L.length + 3) / 4) : okN (upK L k) := by
 intro t ht
 unfold upK at ht
 obtain ⟨i, hi, rfl⟩ := List.mem_map.1 ht
 rw [List.mem_range] at hi
 rw [clS_b]
 exact okX_up (fun b hb => h b (ch4_mem hb)) _ (ch4_ne (by omega))
theorem szApp : ∀ (a b : List Nd), ndSz.ndsSz (a ++ b) = ndSz.ndsSz a + ndSz.ndsSz b
 | [], b => by simp [ndSz.ndsSz]
 | t :: ts, b => by simp [ndSz.ndsSz, szApp ts]; omega
theorem ndSz_cl (t : Nd) : ndSz (clS t) = ndSz t := by cases t; simp [clS, ndSz, Nd.bs, Nd.is, Nd.ks]
theorem sz_upK (L : List Nd) : ∀ k, ndSz.ndsSz (upK L k) = ndSz.ndsSz (L.take (4 * k)) + (L.take (4 * k)).length
 | 0 => by simp [upK, ndSz.ndsSz]
 | k + 1 => by
  rw [upK_succ, szApp, sz_upK L k, take_ch4, szApp, List.length_append]
  simp only [ndSz.ndsSz, ndSz_cl, ndSz, List.length_nil]
  omega
theorem sz_lfK (bs : List Bx) (is : List Int) (hl : bs.length = is.length) : ∀ k, ndSz.ndsSz (lfK bs is k) = 2 * (bs.take (4 * k)).length
 | 0 => by simp [lfK, ndSz.ndsSz]
 | k + 1 => by
  rw [lfK_succ, szApp, sz_lfK bs is hl k, take_ch4, List.length_append]
  have e : (ch4 is k).length = (ch4 bs k).length := by rw [ch4_len', ch4_len', hl]
  simp only [ndSz.ndsSz, ndSz_cl, ndSz, List.length_nil, e]
  omega
theorem sz_ups (L : List Nd) : ndSz.ndsSz (ups L) = ndSz.ndsSz L + L.length := by
 unfold ups
 rw [sz_upK, List.take_of_length_le (by omega)]
theorem sz_top : ∀ (n : Nat) (L : List Nd), L.length ≤ n → ndSz (topOf L) ≤ ndSz.ndsSz L + 2 * L.length
 | 0, L, h => by
  have : L = [] := List.eq_nil_of_length_eq_zero (by omega)
  subst this
  rw [topOf_one (by simp)]
  simp [ndA, default, ndSz, ndSz.ndsSz]
 | n + 1, L, h => by
  by_cases c : L.length ≤ 1
  ·rw [topOf_one c]
   cases L with
   | nil => simp [ndA, default, ndSz, ndSz.ndsSz]
   | cons t l => simp [ndA, ndSz.ndsSz]; omega
  ·rw [topOf_up (by omega)]
   have := sz_top n (ups L) (by rw [ups_len]; omega)
   rw [sz_ups, ups_len] at this
   omega
theorem sz_bld {bs : List Bx} {is : List Int} (hl : bs.length = is.length) : ndSz (bldT bs is) ≤ 4 * bs.length + 2 := by
 have := sz_top _ (lfs bs is) (Nat.le_refl _)
 rw [lfs_len] at this
 unfold lfs at this
 rw [sz_lfK bs is hl, List.take_of_length_le (by omega)] at this
 unfold bldT lfs
 omega
def ndM : Nd → Nat
 | .mk _ _ _ ks => 1 + ndsM ks
where ndsM : List Nd → Nat
 | [] => 0
 | k :: ks => ndM k + ndsM ks
theorem ndsM_app : ∀ (a b : List Nd), ndM.ndsM (a ++ b) = ndM.ndsM a + ndM.ndsM b
 | [], b => by simp [ndM.ndsM]
 | t :: ts, b => by simp [ndM.ndsM, ndsM_app ts]; omega
theorem ndM_le : ∀ t, ndM t ≤ ndSz t + 1 := by
 refine Nd.ind ?_
 intro b bs is ks ih
 have key : ∀ l : List Nd, (∀ k ∈ l, ndM k ≤ ndSz k + 1) → ndM.ndsM l ≤ ndSz.ndsSz l + l.length := by
  intro l
  induction l with
  | nil => intro _; simp [ndM.ndsM]
  | cons k l ih2 =>
   intro hk
   have h1 := hk k (by simp)
   have h2 := ih2 (fun x hx => hk x (by simp [hx]))
   simp only [ndM.ndsM, ndSz.ndsSz, List.length_cons]
   omega
 have := key ks ih
 simp only [ndM, ndSz]
 omega
theorem ndM_pos : ∀ t, 0 < ndM t := by rintro ⟨b, bs, is, ks⟩; simp only [ndM]; omega
theorem ndsM_len : ∀ l : List Nd, l.length ≤ ndM.ndsM l
 | [] => Nat.le_refl _
 | t :: ts => by have := ndM_pos t; have := ndsM_len ts; simp only [ndM.ndsM, List.length_cons]; omega
end Go.Proofs.YtinlomcaagdbiaaGreat

/- The least number of which something holds: the measure of a loop that has none in its slots. -/
namespace Go.Proofs.YtinlomcaagdbiaaGreat

noncomputable def lstN (p : Nat → Prop) : Nat := Classical.epsilon (fun k => p k ∧ ∀ j, p j → k ≤ j)
theorem least_ex {p : Nat → Prop} : ∀ k, p k → ∃ m, p m ∧ ∀ j, p j → m ≤ j := by
 intro k
 induction k using Nat.strongRecOn with
 | ind k ih =>
  intro h
  by_cases c : ∃ j, j < k ∧ p j
  ·obtain ⟨j, hj, hp⟩ := c
   exact ih j hj hp
  ·exact ⟨k, h, fun j hj => Nat.le_of_not_lt (fun e => c ⟨j, e, hj⟩)⟩
theorem least_at {p : Nat → Prop} (h : ∃ k, p k) : p (lstN p) ∧ ∀ j, p j → lstN p ≤ j := by
 obtain ⟨k, hk⟩ := h
 exact Classical.epsilon_spec (least_ex k hk)
theorem least_lt {p q : Nat → Prop} {k : Nat} (h : q k) (hk : k < lstN p) : lstN q < lstN p := Nat.lt_of_le_of_lt ((least_at ⟨k, h⟩).2 k h) hk

end Go.Proofs.YtinlomcaagdbiaaGreat
