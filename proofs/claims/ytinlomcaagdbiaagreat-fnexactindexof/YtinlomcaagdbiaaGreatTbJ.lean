import Derived.Test.YtinlomcaagdbiaaGreatTbQ
import Derived.Test.YtinlomcaagdbiaaGreatTrZ
import Derived.Test.YtinlomcaagdbiaaGreatIntsL
import Derived.Test.YtinlomcaagdbiaaGreatTrH
/- The law's marks on a tree whose rows lie in blocks of their own: what stands in it then. -/
namespace Go.Proofs.YtinlomcaagdbiaaGreat
open Go.RowKit

structure NsF (w : World) (F : Nat → Prop) (a : Option Addr) (c q3 : Nat) (G : Nat → Nat → Prop) (g1 g2 g3 : Nat → Value) (ks : List Nd) : Prop where
 fits : ks.length ≤ c
 max : c ≤ maxLen
 i3 : In1 w F ks.length a q3
 k3 : ∀ i, i < ks.length → ¬ G i q3
 kk : ∀ i j q, i < ks.length → j < ks.length → i ≠ j → G i q → ¬ G j q
 hG : ∀ i q, i < ks.length → G i q → F q
 hS : ∀ i, i < ks.length → Sev w q3 (i * 7) (ndA ks i).b (g1 i) (g2 i) (g3 i)
 hN : ∀ i, i < ks.length → NdFp w (G i) (ndA ks i) (g1 i) (g2 i) (g3 i)
theorem NdFp.open {w : World} {F : Nat → Prop} {t : Nd} {v1 v2 v3 : Value} (h : NdFp w F t v1 v2 v3) : ∃ a1 c1 a2 c2 a3 c3 q1 q2 q3 G g1 g2 g3, ∃ F3 : Nat → Prop, v1 = .slice a1 t.bs.length c1 ∧ v2 = .slice a2 t.is.length c2 ∧ v3 = .slice a3 t.ks.length c3 ∧ SeesX w a1 c1 t.bs ∧ SeesI w a2 c2 t.is ∧ In1 w F t.bs.length a1 q1 ∧ In1 w F t.is.length a2 q2 ∧ NsF w F3 a3 c3 q3 G g1 g2 g3 t.ks ∧ (0 < t.bs.length → 0 < t.is.length → q1 ≠ q2) ∧ (0 < t.bs.length → ¬ F3 q1) ∧ (0 < t.is.length → ¬ F3 q2) ∧ ∀ q, F3 q → F q := by
 cases h with
 | @mk _ b bs is ks a1 a2 a3 c1 c2 c3 q1 q2 q3 G g1 g2 g3 s1 s2 h3 m3 i1 i2 i3 A hG hS hN =>
  refine ⟨a1, c1, a2, c2, a3, c3, q1, q2, q3, G, g1, g2, g3, fun q => (0 < ks.length ∧ q = q3) ∨ ∃ i, i < ks.length ∧ G i q, rfl, rfl, rfl, s1, s2, i1, i2, ⟨h3, m3, ⟨i3.ad, fun hn => .inl ⟨hn, rfl⟩, i3.lt, i3.fr⟩, A.k3, A.kk, fun i q hi g => .inr ⟨i, hi, g⟩, hS, hN⟩, A.d12, ?_, ?_, ?_⟩
  ·rintro hn (⟨h0, e⟩ | ⟨i, hi, g⟩)
   ·exact A.d13 hn h0 e
   ·exact A.k1 hn i hi g
  ·rintro hn (⟨h0, e⟩ | ⟨i, hi, g⟩)
   ·exact A.d23 hn h0 e
   ·exact A.k2 hn i hi g
  ·rintro q (⟨h0, e⟩ | ⟨i, hi, g⟩)
   ·rw [e]; exact i3.mem h0
   ·exact hG i q hi g
theorem NdFp.shut {w : World} {F F3 : Nat → Prop} {b : Bx} {bs : List Bx} {is : List Int} {ks : List Nd} {a1 a2 a3 : Option Addr} {c1 c2 c3 q1 q2 q3 : Nat} {G : Nat → Nat → Prop} {g1 g2 g3 : Nat → Value} (s1 : SeesX w a1 c1 bs) (s2 : SeesI w a2 c2 is) (i1 : In1 w F bs.length a1 q1) (i2 : In1 w F is.length a2 q2) (N : NsF w F3 a3 c3 q3 G g1 g2 g3 ks) (d12 : 0 < bs.length → 0 < is.length → q1 ≠ q2) (n1 : 0 < bs.length → ¬ F3 q1) (n2 : 0 < is.length → ¬ F3 q2) (hs : ∀ q, F3 q → F q) : NdFp w F (.mk b bs is ks) (.slice a1 bs.length c1) (.slice a2 is.length c2) (.slice a3 ks.length c3) :=
 .mk s1 s2 N.fits N.max i1 i2 (N.i3.mono hs) ⟨d12, fun h1 h3 e => n1 h1 (by rw [e]; exact N.i3.mem h3), fun h2 h3 e => n2 h2 (by rw [e]; exact N.i3.mem h3), fun h1 i hi g => n1 h1 (N.hG i _ hi g), fun h2 i hi g => n2 h2 (N.hG i _ hi g), N.k3, N.kk⟩ (fun i q hi g => hs q (N.hG i q hi g)) N.hS N.hN
theorem NsF.chg {w w' : World} {F H : Nat → Prop} {a : Option Addr} {c q3 : Nat} {G : Nat → Nat → Prop} {g1 g2 g3 : Nat → Value} {ks : List Nd} (h : NsF w F a c q3 G g1 g2 g3 ks) (C : Chg H w w') (hf : ∀ q, F q → ¬ H q) : NsF w' F a c q3 G g1 g2 g3 ks :=
 ⟨h.fits, h.max, h.i3.chg C, h.k3, h.kk, h.hG, fun i hi => (h.hS i hi).chg C (hf _ (h.i3.mem (by omega))), fun i hi => NdFp.chg C _ (fun q g => hf q (h.hG i q hi g)) (h.hN i hi)⟩

theorem four_put4 {w : World} {g o k : Nat} {x y : Bx} (h : Four w g k y) (hd : k + 4 ≤ o ∨ o + 4 ≤ k) : Four (put4 w g o x) g k y := by
 unfold put4
 obtain ⟨f0, f1, f2, f3⟩ := h
 have q : ∀ (j : Nat) (v : Value), k ≤ j → j < k + 4 → w.cell? ⟨g, j, none⟩ = some v → (put4 w g o x).cell? ⟨g, j, none⟩ = some v := fun j v h1 h2 e => (cell_other (.inr (by omega)) _).trans ((cell_other (.inr (by omega)) _).trans ((cell_other (.inr (by omega)) _).trans ((cell_other (.inr (by omega)) _).trans e)))
 exact ⟨q _ _ (by omega) (by omega) f0, q _ _ (by omega) (by omega) f1, q _ _ (by omega) (by omega) f2, q _ _ (by omega) (by omega) f3⟩
theorem Chg.put4 {F : Nat → Prop} {w w' : World} (h : Chg F w w') {p o : Nat} (hp : F p) (x : Bx) : Chg F w (put4 w' p o x) := (((h.put hp _).put hp _).put hp _).put hp _
structure MkX (w wr : World) (q n j : Nat) (bs : List Bx) (k : Int) : Prop where
 c : ∀ i, i < j → Four wr q (i * 4) (k + 4 * (i : Int), k + 4 * (i : Int) + 1, k + 4 * (i : Int) + 1 + 1, k + 4 * (i : Int) + 1 + 1 + 1)
 u : ∀ i, j ≤ i → i < n → Four wr q (i * 4) (bxAt bs i)
 g : Chg (fun p => 0 < n ∧ p = q) w wr
theorem MkX.step {w wr : World} {q n j : Nat} {bs : List Bx} {k : Int} (h : MkX w wr q n j bs k) (hj : j < n) : MkX w (put4 wr q (j * 4) (k + 4 * (j : Int), k + 4 * (j : Int) + 1, k + 4 * (j : Int) + 1 + 1, k + 4 * (j : Int) + 1 + 1 + 1)) q n (j + 1) bs k := by
 refine ⟨fun i hi => ?_, fun i hi hn => four_put4 (h.u i (by omega) hn) (by omega), h.g.put4 ⟨by omega, rfl⟩ _⟩
 by_cases e : i = j
 ·subst e
  refine put4_at (fun m hm => ?_)
  obtain ⟨f0, f1, f2, f3⟩ := h.u i (Nat.le_refl _) hj
  rcases (show m = 0 ∨ m = 1 ∨ m = 2 ∨ m = 3 by omega) with rfl | rfl | rfl | rfl
  ·exact ⟨_, f0⟩
  ·exact ⟨_, f1⟩
  ·exact ⟨_, f2⟩
  ·exact ⟨_, f3⟩
 ·exact four_put4 (h.c i (by omega)) (by omega)

set_option maxRecDepth 20000 in
set_option maxHeartbeats 1000000 in
theorem markBoxF (a : Option Addr) (c q : Nat) (F : Nat → Prop) (bs : List Bx) (k : Int) (w : World) (S : SeesX w a c bs) (i1 : In1 w F bs.length a q) (h0 : 0 ≤ k) (hk : k + 4 * (bs.length : Int) ≤ 100000000) :
  Calls Tryz.prog 27 #[.slice a bs.length c, .int .i64 k] w fun e w' => e = .returned (.int .i64 (k + 4 * bs.length)) ∧ SeesX w' a c (mkBs k bs.length) ∧ Chg (fun p => 0 < bs.length ∧ p = q) w w' := by
 have hm := S.max
 have hf := S.fits
 unfold maxLen at hm
 have HS : Hid (MkX w w q bs.length 0 bs k) := by
  refine ⟨fun i hi => absurd hi (by omega), fun i _ hi => ?_, Chg.refl _ _⟩
  obtain ⟨b, off, ea, hc⟩ := S.cells (by intro e; simp [e] at hi)
  have e := i1.ad (by omega)
  rw [ea] at e
  injection e with e
  injection e with e1 e2
  subst e1 e2
  have := hc i hi
  rw [Nat.zero_add] at this
  exact this
 have HSX := S.max
 generalize hn : bs.length = n at *
 go_enter Tryz.func27, Tryz.ntmps27
 go_wp2
 go_loopw [1, 5] (fun s1 i wr => ∃ j : Nat, j ≤ n ∧ i = .int .i64 j ∧ s1 = .int .i64 (k + 4 * (j : Int)) ∧ Hid (MkX w wr q n j bs k)) (fun _ i _ => n - (intOf i).toNat)
 case atStart => exact ⟨0, Nat.zero_le _, rfl, by simp, HS⟩
 case round =>
  clear HS
  obtain ⟨j, hj, rfl, rfl, I⟩ := hrel
  rename World => wr
  by_cases hlt : j < n
  ·have ea := i1.ad (by omega)
   obtain ⟨c0, c1, c2, c3⟩ := I.out.u j (Nat.le_refl _) hlt
   have cf : ∀ o, wr.frozen? ⟨q, o, none⟩ = false := fun o => I.out.g.fr q o (i1.lt (by omega)) (i1.fr (by omega) o)
   subst ea
   have I2 : Hid (MkX w (put4 wr q (j * 4) (k + 4 * (j : Int), k + 4 * (j : Int) + 1, k + 4 * (j : Int) + 1 + 1, k + 4 * (j : Int) + 1 + 1 + 1)) q n (j + 1) bs k) := I.out.step hlt
   clear I i1
   go_wp2
   go_roundw
   case rel => exact ⟨j + 1, by omega, by go_num, by go_num, I2⟩
   case measure => simp [intOf]; omega
  ·obtain rfl : j = n := by omega
   have HR : Hid (SeesX wr a c (mkBs k j)) := ⟨by rw [mkBs_len]; exact hf, HSX, fun hne => by
    have hp : 0 < j := by have := List.length_pos_iff.2 hne; rw [mkBs_len] at this; exact this
    refine ⟨q, 0, i1.ad hp, fun i hi => ?_⟩
    rw [mkBs_len] at hi
    rw [mkBs_at hi, Nat.zero_add]
    exact I.out.c i hi⟩
   clear i1 S
   go_wp2
   go_ret
   exact ⟨rfl, HR.out, I.out.g⟩

structure MkI (w wr : World) (q n j : Nat) (is : List Int) (k : Int) : Prop where
 c : ∀ i, i < j → wr.cell? ⟨q, i, none⟩ = some (.int .i64 (k + (i : Int)))
 u : ∀ i, j ≤ i → i < n → wr.cell? ⟨q, i, none⟩ = some (.int .i64 (is[i]?.getD 0))
 g : Chg (fun p => 0 < n ∧ p = q) w wr
theorem MkI.step {w wr : World} {q n j : Nat} {is : List Int} {k : Int} (h : MkI w wr q n j is k) (hj : j < n) : MkI w (wr.setCell ⟨q, j, none⟩ (.int .i64 (k + (j : Int)))) q n (j + 1) is k := by
 refine ⟨fun i hi => ?_, fun i hi hn => (cell_other (.inr (by omega)) _).trans (h.u i (by omega) hn), h.g.put ⟨by omega, rfl⟩ _⟩
 by_cases e : i = j
 ·subst e
  exact cell_same (h.u i (Nat.le_refl _) hj) _
 ·exact (cell_other (.inr (by omega)) _).trans (h.c i (by omega))

set_option maxRecDepth 20000 in
set_option maxHeartbeats 1000000 in
theorem markIntF (a : Option Addr) (c q : Nat) (F : Nat → Prop) (is : List Int) (k : Int) (w : World) (S : SeesI w a c is) (i1 : In1 w F is.length a q) (h0 : 0 ≤ k) (hk : k + (is.length : Int) ≤ 100000000) :
  Calls Tryz.prog 28 #[.slice a is.length c, .int .i64 k] w fun e w' => e = .returned (.int .i64 (k + is.length)) ∧ SeesI w' a c (mkIs k is.length) ∧ Chg (fun p => 0 < is.length ∧ p = q) w w' := by
 have hm := S.max
 have hf := S.fits
 unfold maxLen at hm
 have HS : Hid (MkI w w q is.length 0 is k) := by
  refine ⟨fun i hi => absurd hi (by omega), fun i _ hi => ?_, Chg.refl _ _⟩
  obtain ⟨b, off, ea, hc⟩ := S.cells (by intro e; simp [e] at hi)
  have e := i1.ad (by omega)
  rw [ea] at e
  injection e with e
  injection e with e1 e2
  subst e1 e2
  have := hc i hi
  rw [Nat.zero_add] at this
  exact this
 have HSX := S.max
 generalize hn : is.length = n at *
 go_enter Tryz.func28, Tryz.ntmps28
 go_wp2
 go_loopw [1, 5] (fun s1 i wr => ∃ j : Nat, j ≤ n ∧ i = .int .i64 j ∧ s1 = .int .i64 (k + (j : Int)) ∧ Hid (MkI w wr q n j is k)) (fun _ i _ => n - (intOf i).toNat)
 case atStart => exact ⟨0, Nat.zero_le _, rfl, by simp, HS⟩
 case round =>
  clear HS
  obtain ⟨j, hj, rfl, rfl, I⟩ := hrel
  rename World => wr
  by_cases hlt : j < n
  ·have ea := i1.ad (by omega)
   have c0 := I.out.u j (Nat.le_refl _) hlt
   have cf : ∀ o, wr.frozen? ⟨q, o, none⟩ = false := fun o => I.out.g.fr q o (i1.lt (by omega)) (i1.fr (by omega) o)
   subst ea
   have I2 : Hid (MkI w (wr.setCell ⟨q, j, none⟩ (.int .i64 (k + (j : Int)))) q n (j + 1) is k) := I.out.step hlt
   clear I i1
   go_wp2
   go_roundw
   case rel => exact ⟨j + 1, by omega, by go_num, by go_num, I2⟩
   case measure => simp [intOf]; omega
  ·obtain rfl : j = n := by omega
   have HR : Hid (SeesI wr a c (mkIs k j)) := ⟨by rw [mkIs_len]; exact hf, HSX, fun hne => by
    have hp : 0 < j := by have := List.length_pos_iff.2 hne; rw [mkIs_len] at this; exact this
    refine ⟨q, 0, i1.ad hp, fun i hi => ?_⟩
    rw [mkIs_len] at hi
    rw [mkIs_at hi, Nat.zero_add]
    exact I.out.c i hi⟩
   clear i1 S
   go_wp2
   go_ret
   exact ⟨rfl, HR.out, I.out.g⟩

theorem NdFp.marks {w w5 w6 w7 : World} {F F3 : Nat → Prop} {t : Nd} {a1 a2 a3 : Option Addr} {c1 c2 c3 q1 q2 q3 : Nat} {G : Nat → Nat → Prop} {g1 g2 g3 : Nat → Value} (b : Bx) (k : Int) (i1 : In1 w F t.bs.length a1 q1) (i2 : In1 w F t.is.length a2 q2) (d12 : 0 < t.bs.length → 0 < t.is.length → q1 ≠ q2) (n1 : 0 < t.bs.length → ¬ F3 q1) (n2 : 0 < t.is.length → ¬ F3 q2) (hs : ∀ q, F3 q → F q)
  (s5 : SeesX w5 a1 c1 (mkBs k t.bs.length)) (C5 : Chg (fun p => 0 < t.bs.length ∧ p = q1) w w5) (s6 : SeesI w6 a2 c2 (mkIs (k + 4 * t.bs.length) t.is.length)) (C6 : Chg (fun p => 0 < t.is.length ∧ p = q2) w5 w6) (N7 : NsF w7 F3 a3 c3 q3 G g1 g2 g3 (mkN.mkNs t.ks (k + 4 * t.bs.length + t.is.length))) (C7 : Chg F3 w6 w7) :
  NdFp w7 F (mkN t b k) (.slice a1 t.bs.length c1) (.slice a2 t.is.length c2) (.slice a3 t.ks.length c3) ∧ Chg F w w7 := by
 obtain ⟨b0, bs, is, ks⟩ := t
 dsimp only [Nd.bs, Nd.is, Nd.ks] at *
 constructor
 ·have r := NdFp.shut (b := b) (F := F) (q1 := q1) (q2 := q2) ((s5.chg C6 (q := q1) (fun hn => i1.ad (by rw [mkBs_len] at hn; exact hn)) (fun hn hh => d12 (by rw [mkBs_len] at hn; exact hn) hh.1 hh.2)).chg C7 (q := q1) (fun hn => i1.ad (by rw [mkBs_len] at hn; exact hn)) (fun hn => n1 (by rw [mkBs_len] at hn; exact hn))) (s6.chg C7 (q := q2) (fun hn => i2.ad (by rw [mkIs_len] at hn; exact hn)) (fun hn => n2 (by rw [mkIs_len] at hn; exact hn))) (by rw [mkBs_len]; exact ((i1.chg C5).chg C6).chg C7) (by rw [mkIs_len]; exact ((i2.chg C5).chg C6).chg C7) N7 (by rw [mkBs_len, mkIs_len]; exact d12) (by rw [mkBs_len]; exact n1) (by rw [mkIs_len]; exact n2) hs
  rw [mkBs_len, mkIs_len, mkNs_len] at r
  exact r
 ·exact ((C5.mono (by rintro q ⟨hn, rfl⟩; exact i1.mem hn)).trans (C6.mono (by rintro q ⟨hn, rfl⟩; exact i2.mem hn))).trans (C7.mono hs)

structure MkS (w wr : World) (F : Nat → Prop) (q3 : Nat) (G : Nat → Nat → Prop) (g1 g2 g3 : Nat → Value) (ks : List Nd) (k : Int) (j : Nat) : Prop where
 c : ∀ i, i < j → Sev wr q3 (i * 7) (ndA (mkN.mkNs ks k) i).b (g1 i) (g2 i) (g3 i) ∧ NdFp wr (G i) (ndA (mkN.mkNs ks k) i) (g1 i) (g2 i) (g3 i)
 u : ∀ i, j ≤ i → i < ks.length → Sev wr q3 (i * 7) (ndA ks i).b (g1 i) (g2 i) (g3 i) ∧ NdFp wr (G i) (ndA ks i) (g1 i) (g2 i) (g3 i)
 g : Chg F w wr
theorem mkN_b (t : Nd) (b : Bx) (k : Int) : (mkN t b k).b = b := by cases t; rfl
theorem sev_put4 {w : World} {p o k : Nat} {x y : Bx} {v1 v2 v3 : Value} (h : Sev w p o x v1 v2 v3) (hd : o + 7 ≤ k ∨ k + 4 ≤ o) : Sev (put4 w p k y) p o x v1 v2 v3 := by
 unfold put4
 exact (((h.put (by omega) _).put (by omega) _).put (by omega) _).put (by omega) _
theorem sev_own4 {w : World} {p o : Nat} {x y : Bx} {v1 v2 v3 : Value} (h : Sev w p o x v1 v2 v3) : Sev (put4 w p o y) p o y v1 v2 v3 := by
 obtain ⟨⟨f0, f1, f2, f3⟩, f4, f5, f6⟩ := h
 have q : ∀ (j : Nat) (v : Value), o + 4 ≤ j → w.cell? ⟨p, j, none⟩ = some v → (put4 w p o y).cell? ⟨p, j, none⟩ = some v := fun j v h1 e => (cell_other (.inr (by omega)) _).trans ((cell_other (.inr (by omega)) _).trans ((cell_other (.inr (by omega)) _).trans ((cell_other (.inr (by omega)) _).trans e)))
 refine ⟨put4_at (fun m hm => ?_), q _ _ (by omega) f4, q _ _ (by omega) f5, q _ _ (by omega) f6⟩
 rcases (show m = 0 ∨ m = 1 ∨ m = 2 ∨ m = 3 by omega) with rfl | rfl | rfl | rfl
 ·exact ⟨_, f0⟩
 ·exact ⟨_, f1⟩
 ·exact ⟨_, f2⟩
 ·exact ⟨_, f3⟩
theorem MkS.step {w wr w7 : World} {F : Nat → Prop} {q3 : Nat} {G : Nat → Nat → Prop} {g1 g2 g3 : Nat → Value} {ks : List Nd} {k : Int} {j : Nat} (h : MkS w wr F q3 G g1 g2 g3 ks k j) (hj : j < ks.length) (f3 : F q3) (k3 : ∀ i, i < ks.length → ¬ G i q3) (kk : ∀ i j q, i < ks.length → j < ks.length → i ≠ j → G i q → ¬ G j q) (hG : ∀ i q, i < ks.length → G i q → F q)
  (C7 : Chg (G j) (put4 wr q3 (j * 7) (ndA (mkN.mkNs ks k) j).b) w7) (N7 : NdFp w7 (G j) (ndA (mkN.mkNs ks k) j) (g1 j) (g2 j) (g3 j)) : MkS w w7 F q3 G g1 g2 g3 ks k (j + 1) := by
 have X : ∀ i, i < ks.length → Chg (fun q => q = q3 ∨ G j q) wr w7 := fun i hi => ((Chg.refl (fun q => q = q3 ∨ G j q) wr).put4 (.inl rfl) _).trans (C7.mono (fun q g => .inr g))
 refine ⟨fun i hi => ?_, fun i hi hn => ?_, (h.g.put4 f3 _).trans (C7.mono (fun q g => hG j q hj g))⟩
 ·by_cases e : i = j
  ·subst e
   exact ⟨(sev_own4 (h.u i (Nat.le_refl _) hj).1).chg C7 (k3 i hj), N7⟩
  ·obtain ⟨S, N⟩ := h.c i (by omega)
   refine ⟨(sev_put4 S (by omega)).chg C7 (k3 j hj), NdFp.chg (X j hj) _ (fun q g => ?_) N⟩
   rintro (rfl | g')
   ·exact k3 i (by omega) g
   ·exact kk i j q (by omega) hj e g g'
 ·obtain ⟨S, N⟩ := h.u i (by omega) hn
  refine ⟨(sev_put4 S (by omega)).chg C7 (k3 j hj), NdFp.chg (X j hj) _ (fun q g => ?_) N⟩
  rintro (rfl | g')
  ·exact k3 i hn g
  ·exact kk i j q hn hj (by omega) g g'
def MkFC (ks : List Nd) : Prop := ∀ (F : Nat → Prop) (a : Option Addr) (c q3 : Nat) (G : Nat → Nat → Prop) (g1 g2 g3 : Nat → Value) (k : Int) (w : World), NsF w F a c q3 G g1 g2 g3 ks → 0 ≤ k → k + ndC.ndsC ks ≤ 100000000 →
 Calls Tryz.prog 29 #[.slice a ks.length c, .int .i64 k] w fun e w' => e = .returned (.int .i64 (k + ndC.ndsC ks)) ∧ NsF w' F a c q3 G g1 g2 g3 (mkN.mkNs ks k) ∧ Chg F w w'

set_option maxRecDepth 20000 in
set_option maxHeartbeats 4000000 in
theorem markNodeS_stepF {ks : List Nd} (ih : ∀ t ∈ ks, MkFC t.ks) : MkFC ks := by
 intro F a c q3 G g1 g2 g3 k w N h0 hk
 have IH : Hid (∀ t ∈ ks, MkFC t.ks) := ih
 have hm := N.max
 have hf := N.fits
 unfold maxLen at hm
 have HSZ : Hid (∀ j, j ≤ ks.length → ndC.ndsC (ks.take j) ≤ ndC.ndsC ks) := fun j _ => ndsC_le ks j
 have NN : Hid (NsF w F a c q3 G g1 g2 g3 ks) := N
 have HS : Hid (MkS w w F q3 G g1 g2 g3 ks k 0) := ⟨fun i hi => absurd hi (by omega), fun i _ hi => ⟨N.hS i hi, N.hN i hi⟩, Chg.refl _ _⟩
 clear ih N
 go_enter Tryz.func29, Tryz.ntmps29
 go_wp2
 go_loopw [1, 5] (fun s1 i wr => ∃ (j : Nat) (z : Int), j ≤ ks.length ∧ i = .int .i64 j ∧ s1 = .int .i64 z ∧ Hid (z = k + ndC.ndsC (ks.take j)) ∧ Hid (MkS w wr F q3 G g1 g2 g3 ks k j)) (fun _ i _ => ks.length - (intOf i).toNat)
 case atStart => exact ⟨0, k, Nat.zero_le _, rfl, rfl, by show k = _; simp [ndC.ndsC], HS⟩
 case round =>
  clear HS
  obtain ⟨j, z, hj, rfl, rfl, HZ, I⟩ := hrel
  rename World => wr
  by_cases hlt : j < ks.length
  ·have ea := NN.out.i3.ad (by omega)
   have cf : ∀ o, wr.frozen? ⟨q3, o, none⟩ = false := fun o => I.out.g.fr q3 o (NN.out.i3.lt (by omega)) (NN.out.i3.fr (by omega) o)
   obtain ⟨S, ND⟩ := I.out.u j (Nat.le_refl _) hlt
   have HMB : Hid (ndA (mkN.mkNs ks k) j = mkN (ndA ks j) (z, z + 1, z + 1 + 1, z + 1 + 1 + 1) (z + 1 + 1 + 1 + 1)) := by show _ = _; rw [HZ.out]; exact mkNs_at ks k j hlt
   have NX : Hid (NdFp (put4 wr q3 (j * 7) (z, z + 1, z + 1 + 1, z + 1 + 1 + 1)) (G j) (ndA ks j) (g1 j) (g2 j) (g3 j)) := NdFp.chg ((Chg.refl (fun q => q = q3) wr).put4 rfl _) _ (fun q g e => NN.out.k3 j hlt (by rw [← e]; exact g)) ND
   have SX := sev_own4 (y := (z, z + 1, z + 1 + 1, z + 1 + 1 + 1)) S
   have SH : Hid (Sev (put4 wr q3 (j * 7) (z, z + 1, z + 1 + 1, z + 1 + 1 + 1)) q3 (j * 7) (z, z + 1, z + 1 + 1, z + 1 + 1 + 1) (g1 j) (g2 j) (g3 j)) := SX
   clear SX ND
   obtain ⟨⟨c0, c1, c2, c3⟩, f4, f5, f6⟩ := S
   have hs1 := HSZ.out (j + 1) (by omega)
   have hsz : Hid (ndC.ndsC (ks.take (j + 1)) = ndC.ndsC (ks.take j) + (4 + ndC (ndA ks j))) := ndsC_at hlt
   have hsn : Hid (ndC (ndA ks j) = 4 * (ndA ks j).bs.length + (ndA ks j).is.length + ndC.ndsC (ndA ks j).ks) := by show _ = _; cases ndA ks j; rfl
   have HZ2 : Hid (z + 1 + 1 + 1 + 1 + 4 * (ndA ks j).bs.length + (ndA ks j).is.length + ndC.ndsC (ndA ks j).ks = k + ndC.ndsC (ks.take (j + 1))) := by show _ = _; rw [hsz.out, hsn.out, HZ.out]; omega
   have hzb : z + 1 + 1 + 1 + 1 + 4 * ((ndA ks j).bs.length : Int) + (ndA ks j).is.length + ndC.ndsC (ndA ks j).ks ≤ 100000000 := by rw [HZ2.out]; omega
   have hz0 : 0 ≤ z := by rw [HZ.out]; omega
   have CK : MkFC (ndA ks j).ks := IH.out _ (ndA_mem hlt)
   unfold MkFC at CK
   subst ea
   clear hsz hsn hs1
   have HT : Hid ((ndA ks j) = (ndA ks j)) := rfl
   go_upto_region 12 with fail
   have HWX : Hid ((((wr.setCell ⟨q3, j * 7, none⟩ (.int .i64 z)).setCell ⟨q3, j * 7 + 1, none⟩ (.int .i64 (z + 1))).setCell ⟨q3, j * 7 + 2, none⟩ (.int .i64 (z + 1 + 1))).setCell ⟨q3, j * 7 + 3, none⟩ (.int .i64 (z + 1 + 1 + 1)) = put4 wr q3 (j * 7) (z, z + 1, z + 1 + 1, z + 1 + 1 + 1)) := rfl
   rw [HWX.out]
   generalize hwx : put4 wr q3 (j * 7) (z, z + 1, z + 1 + 1, z + 1 + 1 + 1) = wx at *
   have HX : Hid (put4 wr q3 (j * 7) (z, z + 1, z + 1 + 1, z + 1 + 1 + 1) = wx) := hwx
   clear hwx HWX c0 c1 c2 c3 cf f4 f5 f6
   obtain ⟨b1, d1, b2, d2, b3, d3, p1, p2, p3, G', r1, r2, r3, F3, ev1, ev2, ev3, s1, s2, i1, i2, NK, d12, n1, n2, hs⟩ := NX.out.open
   have HP : Hid ((0 < (ndA ks j).bs.length → 0 < (ndA ks j).is.length → p1 ≠ p2) ∧ (0 < (ndA ks j).bs.length → ¬ F3 p1) ∧ (0 < (ndA ks j).is.length → ¬ F3 p2) ∧ ∀ q, F3 q → G j q) := ⟨d12, n1, n2, hs⟩
   have HE : Hid (g1 j = .slice b1 (ndA ks j).bs.length d1 ∧ g2 j = .slice b2 (ndA ks j).is.length d2 ∧ g3 j = .slice b3 (ndA ks j).ks.length d3) := ⟨ev1, ev2, ev3⟩
   rw [ev1, ev2, ev3] at SH
   obtain ⟨k4, k5, k6⟩ : _ ∧ _ ∧ _ := ⟨SH.out.c4, SH.out.c5, SH.out.c6⟩
   clear NX ev1 ev2 ev3 d12 n1 n2 hs
   generalize ndA ks j = t at *
   go_wp2_with fail
   refine (markBoxF b1 d1 p1 (G j) t.bs _ wx s1 i1 (by omega) (by omega)).mono ?_
   rintro e w5 ⟨rfl, s5, C5⟩
   have hp3 : Hid (¬ G j q3) := NN.out.k3 j hlt
   replace k5 := C5.at (fun hh => hp3.out (by rw [hh.2]; exact i1.mem hh.1)) k5
   replace k6 := C5.at (fun hh => hp3.out (by rw [hh.2]; exact i1.mem hh.1)) k6
   have s2' := s2.chg C5 (q := p2) i2.ad (fun hn hh => HP.out.1 hh.1 hn hh.2.symm)
   have i2' := i2.chg C5
   have NK5 := NK.chg C5 (by rintro q f ⟨hn, rfl⟩; exact HP.out.2.1 hn f)
   have HC5 : Hid (Chg (fun p => 0 < t.bs.length ∧ p = p1) wx w5) := C5
   have hs5 : Hid (SeesX w5 b1 d1 (mkBs (z + 1 + 1 + 1 + 1) t.bs.length)) := s5
   have hi1 : Hid (In1 wx (G j) t.bs.length b1 p1) := i1
   have hi2 : Hid (In1 wx (G j) t.is.length b2 p2) := i2
   clear k4 s1 i1 s2 i2 NK C5 s5
   go_wp2_with fail
   refine (markIntF b2 d2 p2 (G j) t.is _ w5 s2' i2' (by omega) (by omega)).mono ?_
   rintro e w6 ⟨rfl, s6, C6⟩
   replace k6 := C6.at (fun hh => hp3.out (by rw [hh.2]; exact i2'.mem hh.1)) k6
   have NK6 := NK5.chg C6 (by rintro q f ⟨hn, rfl⟩; exact HP.out.2.2.1 hn f)
   have HC6 : Hid (Chg (fun p => 0 < t.is.length ∧ p = p2) w5 w6) := C6
   have hs6 : Hid (SeesI w6 b2 d2 (mkIs (z + 1 + 1 + 1 + 1 + 4 * t.bs.length) t.is.length)) := s6
   clear k5 s2' i2' NK5 C6 s6
   go_wp2_with fail
   refine (CK F3 b3 d3 p3 G' r1 r2 r3 _ w6 NK6 (by omega) (by omega)).mono ?_
   rintro e w7 ⟨rfl, N7, C7⟩
   have HM : Hid (MkS w w7 F q3 G g1 g2 g3 ks k (j + 1)) := by
    have M := NdFp.marks (w := wx) (t := t) (z, z + 1, z + 1 + 1, z + 1 + 1 + 1) (z + 1 + 1 + 1 + 1) hi1.out hi2.out HP.out.1 HP.out.2.1 HP.out.2.2.1 HP.out.2.2.2 hs5.out HC5.out hs6.out HC6.out N7 C7
    rw [← HE.out.1, ← HE.out.2.1, ← HE.out.2.2, ← HMB.out, ← HX.out] at M
    refine MkS.step I.out hlt (NN.out.i3.mem (by omega)) NN.out.k3 NN.out.kk NN.out.hG ?_ M.1
    ·rw [HMB.out, mkN_b]
     exact M.2
   clear k6 NK6 N7 C7 CK I HE SH
   go_wp2
   go_roundw
   case rel => exact ⟨j + 1, _, by omega, by go_num, rfl, HZ2, HM⟩
   case measure => simp [intOf]; omega
  ·obtain rfl : j = ks.length := by omega
   have HE : Hid (z = k + ndC.ndsC ks) := by have := HZ.out; rw [List.take_length] at this; exact this
   have HR : Hid (NsF wr F a c q3 G g1 g2 g3 (mkN.mkNs ks k)) := by
    refine ⟨by rw [mkNs_len]; exact hf, NN.out.max, by rw [mkNs_len]; exact NN.out.i3.chg I.out.g, by rw [mkNs_len]; exact NN.out.k3, by rw [mkNs_len]; exact NN.out.kk, by rw [mkNs_len]; exact NN.out.hG, ?_, ?_⟩
    ·rw [mkNs_len]; exact fun i hi => (I.out.c i hi).1
    ·rw [mkNs_len]; exact fun i hi => (I.out.c i hi).2
   clear HZ
   have hz := HE.out
   clear HE
   subst hz
   go_wp2
   go_ret
   exact ⟨rfl, HR.out, I.out.g⟩
theorem markNodeS_F : ∀ ks : List Nd, MkFC ks := by
 have key : ∀ t : Nd, MkFC t.ks := Nd.ind (fun _ _ _ ks ih => markNodeS_stepF ih)
 exact fun ks => key (.mk (0, 0, 0, 0) [] [] ks)

set_option maxRecDepth 20000 in
set_option maxHeartbeats 4000000 in
theorem markNode_F (F : Nat → Prop) (t : Nd) (v1 v2 v3 : Value) (w : World) (N : NdFp w F t v1 v2 v3) (hs : ndSz t ≤ 1048576) (hF : ¬ F w.heap.size) :
  Calls Tryz.prog 11 #[ndV t v1 v2 v3, .int .i64 1] w fun e w' => e = .returned (.int .i64 (1 + ndC t)) ∧ NdFp w' F (mkN t t.b 1) v1 v2 v3 ∧ Chg F w w' := by
 obtain ⟨b1, d1, b2, d2, b3, d3, p1, p2, p3, G', r1, r2, r3, F3, rfl, rfl, rfl, s1, s2, i1, i2, NK, d12, n1, n2, hs3⟩ := N.open
 have HP : Hid ((0 < t.bs.length → 0 < t.is.length → p1 ≠ p2) ∧ (0 < t.bs.length → ¬ F3 p1) ∧ (0 < t.is.length → ¬ F3 p2) ∧ ∀ q, F3 q → F q) := ⟨d12, n1, n2, hs3⟩
 have hsn : Hid (ndC t = 4 * t.bs.length + t.is.length + ndC.ndsC t.ks) := by show _ = _; cases t; rfl
 have hs2 : 4 * t.bs.length + t.is.length + ndC.ndsC t.ks ≤ 4194304 := by have := ndC_sz t; rw [← hsn.out]; omega
 have HZ : Hid ((1 : Int) + ndC t = 1 + 4 * (t.bs.length : Int) + t.is.length + ndC.ndsC t.ks) := by show _ = _; rw [hsn.out]; omega
 rw [HZ.out]
 have CK : MkFC t.ks := markNodeS_F t.ks
 unfold MkFC at CK
 unfold ndV
 obtain ⟨⟨x1, x2, x3, x4⟩, ux⟩ : ∃ x, Hid (t.b = x) := ⟨_, rfl⟩
 rw [ux.out]
 dsimp only
 have h1 := s1.max
 have h1' := s1.fits
 have h2 := s2.max
 have h2' := s2.fits
 have h3 := NK.max
 have h3' := NK.fits
 unfold maxLen at h1 h2 h3
 have V := Sev.new w x1 x2 x3 x4 (.slice b1 t.bs.length d1) (.slice b2 t.is.length d2) (.slice b3 t.ks.length d3) 32
 have bn := below1 w (.cells #[.int .i64 x1, .int .i64 x2, .int .i64 x3, .int .i64 x4, .slice b1 t.bs.length d1, .slice b2 t.is.length d2, .slice b3 t.ks.length d3] 32)
 have C0 : Hid (Chg F w (w.alloc (.cells #[.int .i64 x1, .int .i64 x2, .int .i64 x3, .int .i64 x4, .slice b1 t.bs.length d1, .slice b2 t.is.length d2, .slice b3 t.ks.length d3] 32))) := Chg.of bn
 replace s1 := s1.below bn
 replace s2 := s2.below bn
 replace i1 := i1.chg (H := F) (Chg.of bn)
 replace i2 := i2.chg (H := F) (Chg.of bn)
 replace NK := NK.chg (H := fun _ => False) (Chg.of bn) (fun _ _ h => h)
 have hFq : Hid (¬ F w.heap.size) := hF
 clear N hs d12 n1 n2 hs3 hsn bn hF
 go_enter Tryz.func11, Tryz.ntmps11
 go_upto_region 1 with fail
 generalize w.alloc (.cells #[.int .i64 x1, .int .i64 x2, .int .i64 x3, .int .i64 x4, .slice b1 t.bs.length d1, .slice b2 t.is.length d2, .slice b3 t.ks.length d3] 32) = wx at *
 obtain ⟨_, k4, k5, k6⟩ := id V
 simp only [Nat.zero_add] at k4 k5 k6
 clear V
 go_wp2_with fail
 refine (markBoxF b1 d1 p1 F t.bs 1 wx s1 i1 (by omega) (by omega)).mono ?_
 rintro e w5 ⟨rfl, s5, C5⟩
 replace k5 := C5.at (fun hh => hFq.out (by rw [hh.2]; exact i1.mem hh.1)) k5
 replace k6 := C5.at (fun hh => hFq.out (by rw [hh.2]; exact i1.mem hh.1)) k6
 have s2' := s2.chg C5 (q := p2) i2.ad (fun hn hh => HP.out.1 hh.1 hn hh.2.symm)
 have i2' := i2.chg C5
 have NK5 := NK.chg C5 (by rintro q f ⟨hn, rfl⟩; exact HP.out.2.1 hn f)
 have HC5 : Hid (Chg (fun p => 0 < t.bs.length ∧ p = p1) wx w5) := C5
 have hs5 : Hid (SeesX w5 b1 d1 (mkBs 1 t.bs.length)) := s5
 have hi1 : Hid (In1 wx F t.bs.length b1 p1) := i1
 have hi2 : Hid (In1 wx F t.is.length b2 p2) := i2
 clear k4 s1 i1 s2 i2 NK C5 s5
 go_wp2_with fail
 refine (markIntF b2 d2 p2 F t.is _ w5 s2' i2' (by omega) (by omega)).mono ?_
 rintro e w6 ⟨rfl, s6, C6⟩
 replace k6 := C6.at (fun hh => hFq.out (by rw [hh.2]; exact i2'.mem hh.1)) k6
 have NK6 := NK5.chg C6 (by rintro q f ⟨hn, rfl⟩; exact HP.out.2.2.1 hn f)
 have HC6 : Hid (Chg (fun p => 0 < t.is.length ∧ p = p2) w5 w6) := C6
 have hs6 : Hid (SeesI w6 b2 d2 (mkIs (1 + 4 * t.bs.length) t.is.length)) := s6
 clear k5 s2' i2' NK5 C6 s6
 go_wp2_with fail
 refine (CK F3 b3 d3 p3 G' r1 r2 r3 _ w6 NK6 (by omega) (by omega)).mono ?_
 rintro e w7 ⟨rfl, N7, C7⟩
 have HM : Hid (NdFp w7 F (mkN t (x1, x2, x3, x4) 1) (.slice b1 t.bs.length d1) (.slice b2 t.is.length d2) (.slice b3 t.ks.length d3) ∧ Chg F wx w7) := NdFp.marks (w := wx) (t := t) (x1, x2, x3, x4) 1 hi1.out hi2.out HP.out.1 HP.out.2.1 HP.out.2.2.1 HP.out.2.2.2 hs5.out HC5.out hs6.out HC6.out N7 C7
 clear k6 NK6 N7 C7 CK
 go_wp2
 go_ret
 exact ⟨rfl, HM.out.1, C0.out.trans HM.out.2⟩
end Go.Proofs.YtinlomcaagdbiaaGreat

/- The levels of a tree, of the program (levelsOf over *Node). -/
namespace Go.Proofs.YtinlomcaagdbiaaGreat
open Go.RowKit

end Go.Proofs.YtinlomcaagdbiaaGreat

/- Trees at work, of the program: kidsOf, kidsOfAll over *node[int]. -/
namespace Go.Proofs.YtinlomcaagdbiaaGreat
open Go.RowKit

inductive WkAt (w : World) : Nat → Nd → Prop where
 | mk {p : Nat} {b : Bx} {bs : List Bx} {is : List Int} {ks : List Nd} {a1 a2 : Option Addr} {c1 c2 : Nat} {qs : List Ptr} (K : Wk6 w p b (.slice a1 bs.length c1) (.slice a2 ks.length c2)) (I : SeesIt w a1 c1 bs is) (Q : SeesTp w a2 c2 qs) (hl : qs.length = ks.length) (hz : ks.length = 0 → a2 = none ∧ c2 = 0) (h0 : ∀ i, i < ks.length → (ptAt qs i).2 = 0) (hlt : ∀ i, i < ks.length → (ptAt qs i).1 < p) (hN : ∀ i, i < ks.length → WkAt w (ptAt qs i).1 (ndA ks i)) : WkAt w p (.mk b bs is ks)
def WkL (w : World) (qs : List Ptr) (ts : List Nd) : Prop := qs.length = ts.length ∧ ∀ i, i < ts.length → (ptAt qs i).2 = 0 ∧ WkAt w (ptAt qs i).1 (ndA ts i)
theorem WkAt.open {w : World} {p : Nat} {t : Nd} (h : WkAt w p t) : ∃ a1 c1 a2 c2 qs, Wk6 w p t.b (.slice a1 t.bs.length c1) (.slice a2 t.ks.length c2) ∧ SeesIt w a1 c1 t.bs t.is ∧ SeesTp w a2 c2 qs ∧ WkL w qs t.ks ∧ (∀ i, i < t.ks.length → (ptAt qs i).1 < p) ∧ (t.ks.length = 0 → a2 = none ∧ c2 = 0) := by
 cases h with
 | mk K I Q hl hz h0 hlt hN => exact ⟨_, _, _, _, _, K, I, Q, ⟨hl, fun i hi => ⟨h0 i hi, hN i hi⟩⟩, hlt, hz⟩
theorem WkAt.keep {w w' : World} (hb : Below w.heap.size w w') : ∀ (t : Nd) {p : Nat}, WkAt w p t → WkAt w' p t := by
 refine Nd.ind (P := fun t => ∀ {p : Nat}, WkAt w p t → WkAt w' p t) ?_
 intro b bs is ks ih p h
 cases h with
 | mk K I Q hl hz h0 hlt hN => exact .mk (K.below hb) (I.below hb) (Q.below hb) hl hz h0 hlt (fun i hi => ih _ (ndA_mem hi) (hN i hi))
theorem WkL.below {w w' : World} {qs : List Ptr} {ts : List Nd} (h : WkL w qs ts) (hb : Below w.heap.size w w') : WkL w' qs ts := ⟨h.1, fun i hi => ⟨(h.2 i hi).1, WkAt.keep hb _ (h.2 i hi).2⟩⟩
theorem WkL.app {w : World} {qs rs : List Ptr} {ts ks : List Nd} (h : WkL w qs ts) (k : WkL w rs ks) : WkL w (qs ++ rs) (ts ++ ks) := by
 refine ⟨by rw [List.length_append, List.length_append, h.1, k.1], fun i hi => ?_⟩
 rw [ptAt_append, ndA_append, h.1]
 by_cases c : i < ts.length
 ·rw [if_pos c, if_pos c]
  exact h.2 i c
 ·rw [if_neg c, if_neg c]
  rw [List.length_append] at hi
  exact k.2 (i - ts.length) (by omega)
end Go.Proofs.YtinlomcaagdbiaaGreat
