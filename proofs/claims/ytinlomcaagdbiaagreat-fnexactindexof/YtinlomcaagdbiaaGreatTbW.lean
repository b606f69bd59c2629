import Derived.Test.YtinlomcaagdbiaaGreatTbJ
import Derived.Test.YtinlomcaagdbiaaGreatTrZ
import Derived.Test.YtinlomcaagdbiaaGreatSBox
/- A tree that is told bit by bit, into places that are still open: what is told when none is open any more. -/
namespace Go.Proofs.YtinlomcaagdbiaaGreat
open Go.RowKit

def Spot (ls : List Ptr) (b k : Nat) : Prop := ∃ i, i < ls.length ∧ b = (ptAt ls i).1 ∧ (ptAt ls i).2 ≤ k ∧ k < (ptAt ls i).2 + 7
structure Out (R : Option Nat) (ls : List Ptr) (w w' : World) : Prop where
 size : w.heap.size ≤ w'.heap.size
 at' : ∀ b k v, w.cell? ⟨b, k, none⟩ = some v → some b ≠ R → ¬ Spot ls b k → w'.cell? ⟨b, k, none⟩ = some v
 fr : ∀ b o, b < w.heap.size → some b ≠ R → w.frozen? ⟨b, o, none⟩ = false → w'.frozen? ⟨b, o, none⟩ = false
theorem grown_fr {w w' : World} {R : Option Nat} (g : w.grownBy w' R) {b : Nat} (hb : b < w.heap.size) (ne : some b ≠ R) (o : Nat) : w'.frozen? ⟨b, o, none⟩ = w.frozen? ⟨b, o, none⟩ := World.frozen?_of_block (a := ⟨b, o, none⟩) (g.block b hb ne)
theorem sev_grown {w w' : World} {p o : Nat} {x : Bx} {v1 v2 v3 : Value} {row : Option Nat} (h : Sev w p o x v1 v2 v3) (g : w.grownBy w' row) (ne : some p ≠ row) : Sev w' p o x v1 v2 v3 := by
 obtain ⟨⟨f0, f1, f2, f3⟩, f4, f5, f6⟩ := h
 have q : ∀ k, w'.cell? ⟨p, k, none⟩ = w.cell? ⟨p, k, none⟩ := fun k => World.cell?_of_block (a := ⟨p, k, none⟩) (g.block p (World.block_lt_of_cell? w _ f6) ne)
 exact ⟨⟨(q _).trans f0, (q _).trans f1, (q _).trans f2, (q _).trans f3⟩, (q _).trans f4, (q _).trans f5, (q _).trans f6⟩
def NdAt (w : World) (F : Nat → Prop) (l : Ptr) (t : Nd) : Prop := ∃ v1 v2 v3, Sev w l.1 l.2 t.b v1 v2 v3 ∧ NdFp w F t v1 v2 v3
def Wand (w : World) (base : Nat) (R : Option Nat) (ls : List Ptr) (ts : List Nd) (l0 : Ptr) (t0 : Nd) : Prop :=
 ∀ (w' : World) (Fs : Nat → Nat → Prop), Out R ls w w' → (∀ i, i < ts.length → NdAt w' (Fs i) (ptAt ls i) (ndA ts i)) → (∀ i q, i < ts.length → Fs i q → w.heap.size ≤ q) → (∀ i j q, i < ts.length → j < ts.length → i ≠ j → Fs i q → ¬ Fs j q) → ∃ F, NdAt w' F l0 t0 ∧ ∀ q, F q → base ≤ q
structure Opn (w : World) (base : Nat) (R : Option Nat) (ls : List Ptr) : Prop where
 z : ∀ i, i < ls.length → Sev w (ptAt ls i).1 (ptAt ls i).2 (0, 0, 0, 0) (.slice none 0 0) (.slice none 0 0) (.slice none 0 0)
 fr : ∀ i o, i < ls.length → w.frozen? ⟨(ptAt ls i).1, o, none⟩ = false
 ge : ∀ i, i < ls.length → base ≤ (ptAt ls i).1
 ne : ∀ i, i < ls.length → R ≠ some (ptAt ls i).1
 ap : ∀ i j, i < ls.length → j < ls.length → i ≠ j → (ptAt ls i).1 ≠ (ptAt ls j).1 ∨ (ptAt ls i).2 + 7 ≤ (ptAt ls j).2 ∨ (ptAt ls j).2 + 7 ≤ (ptAt ls i).2
theorem ptAt_app (a b : List Ptr) (i : Nat) : ptAt (a ++ b) i = if i < a.length then ptAt a i else ptAt b (i - a.length) := ptAt_append a b i
theorem Wand.start (w : World) (R : Option Nat) (l0 : Ptr) (t0 : Nd) (base : Nat) (hb : base ≤ w.heap.size) : Wand w base R [l0] [t0] l0 t0 := by
 intro w' Fs _ hA hge _
 exact ⟨Fs 0, hA 0 (by simp), fun q f => Nat.le_trans hb (hge 0 q (by simp) f)⟩
theorem Wand.done {w : World} {base : Nat} {R : Option Nat} {l0 : Ptr} {t0 : Nd} (h : Wand w base R [] [] l0 t0) : ∃ F, NdAt w F l0 t0 ∧ ∀ q, F q → base ≤ q :=
 h w (fun _ _ => False) ⟨Nat.le_refl _, fun _ _ _ e _ _ => e, fun _ _ _ _ e => e⟩ (fun i hi => absurd hi (by simp)) (fun i q hi => absurd hi (by simp)) (fun i j q hi => absurd hi (by simp))
structure Told (w w2 : World) (l : Ptr) (t : Nd) (q3 : Nat) : Prop where
 size : w.heap.size ≤ w2.heap.size
 at' : ∀ b k v, w.cell? ⟨b, k, none⟩ = some v → ¬ (b = l.1 ∧ l.2 ≤ k ∧ k < l.2 + 7) → w2.cell? ⟨b, k, none⟩ = some v
 fr : ∀ b o, b < w.heap.size → w.frozen? ⟨b, o, none⟩ = false → w2.frozen? ⟨b, o, none⟩ = false
 n3 : w.heap.size ≤ q3
 l3 : 0 < t.ks.length → q3 < w2.heap.size
 f3 : 0 < t.ks.length → ∀ o, w2.frozen? ⟨q3, o, none⟩ = false
 node : ∃ a1 c1 a2 c2 a3 c3 q1 q2, Sev w2 l.1 l.2 t.b (.slice a1 t.bs.length c1) (.slice a2 t.is.length c2) (.slice a3 t.ks.length c3) ∧ SeesX w2 a1 c1 t.bs ∧ SeesI w2 a2 c2 t.is ∧ In1 w2 (fun q => w.heap.size ≤ q) t.bs.length a1 q1 ∧ In1 w2 (fun q => w.heap.size ≤ q) t.is.length a2 q2 ∧ t.ks.length ≤ c3 ∧ c3 ≤ maxLen ∧ (0 < t.ks.length → a3 = some ⟨q3, 0, none⟩) ∧ (0 < t.bs.length → 0 < t.is.length → q1 ≠ q2) ∧ (0 < t.bs.length → q1 ≠ q3) ∧ (0 < t.is.length → q2 ≠ q3)
 kids : ∀ i, i < t.ks.length → Sev w2 q3 (i * 7) (0, 0, 0, 0) (.slice none 0 0) (.slice none 0 0) (.slice none 0 0)
def spots (q3 n : Nat) : List Ptr := (List.range n).map fun i => (q3, i * 7)
theorem spots_len (q3 n : Nat) : (spots q3 n).length = n := by simp [spots]
theorem spots_at {q3 n i : Nat} (h : i < n) : ptAt (spots q3 n) i = (q3, i * 7) := by simp [ptAt, spots, h]
theorem ndA_app (a b : List Nd) (i : Nat) : ndA (a ++ b) i = if i < a.length then ndA a i else ndA b (i - a.length) := ndA_append a b i
theorem In1.out {R : Option Nat} {ls : List Ptr} {w w' : World} {F F' : Nat → Prop} {n q : Nat} {a : Option Addr} (h : In1 w F n a q) (O : Out R ls w w') (nR : 0 < n → some q ≠ R) (hs : 0 < n → F' q) : In1 w' F' n a q := ⟨h.ad, hs, fun hn => Nat.lt_of_lt_of_le (h.lt hn) O.size, fun hn o => O.fr q o (h.lt hn) (nR hn) (h.fr hn o)⟩
theorem SeesX.out {R : Option Nat} {ls : List Ptr} {w w' : World} {a : Option Addr} {c q : Nat} {bs : List Bx} (h : SeesX w a c bs) (O : Out R ls w w') (ha : 0 < bs.length → a = some ⟨q, 0, none⟩) (nR : 0 < bs.length → some q ≠ R) (nS : 0 < bs.length → ∀ k, ¬ Spot ls q k) : SeesX w' a c bs :=
 ⟨h.fits, h.max, fun hn => by
  have hp := List.length_pos_iff.2 hn
  obtain ⟨b, off, ea, hc⟩ := h.cells hn
  have e := ha hp
  rw [ea] at e
  injection e with e
  injection e with e1 e2
  subst e1 e2
  have nR := nR hp
  have nS := nS hp
  exact ⟨b, 0, ea, fun i hi => ⟨O.at' _ _ _ (hc i hi).1 nR (nS _), O.at' _ _ _ (hc i hi).2.1 nR (nS _), O.at' _ _ _ (hc i hi).2.2.1 nR (nS _), O.at' _ _ _ (hc i hi).2.2.2 nR (nS _)⟩⟩⟩
theorem SeesI.out {R : Option Nat} {ls : List Ptr} {w w' : World} {a : Option Addr} {c q : Nat} {is : List Int} (h : SeesI w a c is) (O : Out R ls w w') (ha : 0 < is.length → a = some ⟨q, 0, none⟩) (nR : 0 < is.length → some q ≠ R) (nS : 0 < is.length → ∀ k, ¬ Spot ls q k) : SeesI w' a c is :=
 ⟨h.fits, h.max, fun hn => by
  have hp := List.length_pos_iff.2 hn
  obtain ⟨b, off, ea, hc⟩ := h.cells hn
  have e := ha hp
  rw [ea] at e
  injection e with e
  injection e with e1 e2
  subst e1 e2
  have nR := nR hp
  have nS := nS hp
  exact ⟨b, 0, ea, fun i hi => O.at' _ _ _ (hc i hi) nR (nS _)⟩⟩
theorem Sev.out {R : Option Nat} {ls : List Ptr} {w w' : World} {p o : Nat} {x : Bx} {v1 v2 v3 : Value} (h : Sev w p o x v1 v2 v3) (O : Out R ls w w') (nR : some p ≠ R) (nS : ∀ k, o ≤ k → k < o + 7 → ¬ Spot ls p k) : Sev w' p o x v1 v2 v3 :=
 ⟨⟨O.at' _ _ _ h.four.1 nR (nS _ (by omega) (by omega)), O.at' _ _ _ h.four.2.1 nR (nS _ (by omega) (by omega)), O.at' _ _ _ h.four.2.2.1 nR (nS _ (by omega) (by omega)), O.at' _ _ _ h.four.2.2.2 nR (nS _ (by omega) (by omega))⟩, O.at' _ _ _ h.c4 nR (nS _ (by omega) (by omega)), O.at' _ _ _ h.c5 nR (nS _ (by omega) (by omega)), O.at' _ _ _ h.c6 nR (nS _ (by omega) (by omega))⟩
theorem Wand.step {w w2 w3 : World} {base q3 : Nat} {R R' : Option Nat} {ls : List Ptr} {ts : List Nd} {l l0 : Ptr} {t t0 : Nd} (K : Wand w base R (ls ++ [l]) (ts ++ [t]) l0 t0) (O : Opn w base R (ls ++ [l])) (hl : ls.length = ts.length) (T : Told w w2 l t q3) (g : w2.grownBy w3 R) (hR' : R' = R ∨ ∀ k, R' = some k → w2.heap.size ≤ k) (hRl : ∀ k, R = some k → k < w.heap.size) :
  Wand w3 base R' (ls ++ spots q3 t.ks.length) (ts ++ t.ks) l0 t0 := by
 intro w' Fs O' hA hge hdj
 have lt : ∀ {i}, i < ls.length → i < (ls ++ [l]).length := fun h => by rw [List.length_append]; omega
 have hlast : ptAt (ls ++ [l]) ls.length = l := by rw [ptAt_app, if_neg (by omega), Nat.sub_self]; rfl
 have hold : ∀ {i}, i < ls.length → ptAt (ls ++ [l]) i = ptAt ls i := fun h => by rw [ptAt_app, if_pos h]
 have hold' : ∀ {i}, i < ls.length → ptAt (ls ++ spots q3 t.ks.length) i = ptAt ls i := fun h => by rw [ptAt_app, if_pos h]
 have hnew : ∀ {i}, i < t.ks.length → ptAt (ls ++ spots q3 t.ks.length) (ts.length + i) = (q3, i * 7) := fun h => by rw [ptAt_app, if_neg (by omega), hl, Nat.add_sub_cancel_left, spots_at h]
 have hndo : ∀ {i}, i < ts.length → ndA (ts ++ t.ks) i = ndA ts i := fun h => by rw [ndA_app, if_pos h]
 have hndn : ∀ {i}, ndA (ts ++ t.ks) (ts.length + i) = ndA t.ks i := fun {i} => by rw [ndA_app, if_neg (by omega), Nat.add_sub_cancel_left]
 have blt : ∀ {i}, i < ls.length → (ptAt ls i).1 < w.heap.size := fun {i} h => by
  have := World.block_lt_of_cell? w _ (O.z i (lt h)).c6
  rw [hold h] at this
  exact this
 have bll : l.1 < w.heap.size := by
  have := World.block_lt_of_cell? w _ (O.z ls.length (by rw [List.length_append]; simp)).c6
  rw [hlast] at this
  exact this
 have nR'' : ∀ {b}, b < w2.heap.size → some b ≠ R → some b ≠ R' := fun {b} hb nR => by
  rcases hR' with c | c
  ·rw [c]; exact nR
  ·intro e'
   have := c b e'.symm
   omega
 -- no new place lies in the old memory, and no old one in the new memory
 have spot_old : ∀ {b k}, b < w.heap.size → Spot (ls ++ spots q3 t.ks.length) b k → Spot ls b k := by
  rintro b k hb ⟨i, hi, e1, e2, e3⟩
  rw [List.length_append, spots_len] at hi
  by_cases c : i < ls.length
  ·rw [hold' c] at e1 e2 e3
   exact ⟨i, c, e1, e2, e3⟩
  ·have hq := T.n3
   obtain ⟨j, rfl⟩ : ∃ j, i = ts.length + j := ⟨i - ts.length, by omega⟩
   rw [hnew (by omega)] at e1
   dsimp only at e1
   omega
 have spot_new : ∀ {b k}, w.heap.size ≤ b → b ≠ q3 → ¬ Spot (ls ++ spots q3 t.ks.length) b k := by
  rintro b k hb nq ⟨i, hi, e1, e2, e3⟩
  rw [List.length_append, spots_len] at hi
  by_cases c : i < ls.length
  ·rw [hold' c] at e1
   have := blt c
   omega
  ·obtain ⟨j, rfl⟩ : ∃ j, i = ts.length + j := ⟨i - ts.length, by omega⟩
   rw [hnew (by omega)] at e1
   exact nq e1
 have O2 : Out R (ls ++ [l]) w w' := by
  refine ⟨Nat.le_trans T.size (Nat.le_trans g.size O'.size), fun b k v e nR nS => ?_, fun b o hb nR e => ?_⟩
  ·have hb : b < w.heap.size := World.block_lt_of_cell? w _ e
   have h2 := T.at' b k v e (fun ⟨e1, e2, e3⟩ => nS ⟨ls.length, by rw [List.length_append]; simp, by rw [hlast]; exact e1, by rw [hlast]; exact e2, by rw [hlast]; exact e3⟩)
   have h3 := (World.cell?_of_block (a := ⟨b, k, none⟩) (g.block b (Nat.lt_of_lt_of_le hb T.size) nR)).trans h2
   refine O'.at' b k v h3 ?_ (fun s => ?_)
   ·exact nR'' (Nat.lt_of_lt_of_le hb T.size) nR
   ·obtain ⟨i, hi, e1, e2, e3⟩ := spot_old hb s
    exact nS ⟨i, lt hi, by rw [hold hi]; exact e1, by rw [hold hi]; exact e2, by rw [hold hi]; exact e3⟩
  ·have hb2 : b < w2.heap.size := Nat.lt_of_lt_of_le hb T.size
   exact O'.fr b o (Nat.lt_of_lt_of_le hb2 g.size) (nR'' hb2 nR) ((grown_fr g hb2 nR o).trans (T.fr b o hb e))
 have O3 : Out R (ls ++ spots q3 t.ks.length) w2 w' := by
  refine ⟨Nat.le_trans g.size O'.size, fun b k v e nR nS => ?_, fun b o hb nR e => O'.fr b o (Nat.lt_of_lt_of_le hb g.size) (nR'' hb nR) ((grown_fr g hb nR o).trans e)⟩
  have hb : b < w2.heap.size := World.block_lt_of_cell? w2 _ e
  exact O'.at' b k v ((World.cell?_of_block (a := ⟨b, k, none⟩) (g.block b hb nR)).trans e) (nR'' hb nR) nS
 obtain ⟨a1, c1, a2, c2, a3, c3, q1, q2, S, s1, s2, i1, i2, h3, m3, e3, d12, d13, d23⟩ := T.node
 have nRq : ∀ {q}, w.heap.size ≤ q → some q ≠ R := fun {q} hq e => by have := hRl q e.symm; omega
 have FK : ∀ i q, i < t.ks.length → Fs (ts.length + i) q → w3.heap.size ≤ q := fun i q hi f => hge (ts.length + i) q (by rw [List.length_append]; omega) f
 have sz23 : w2.heap.size ≤ w3.heap.size := g.size
 have N : ∃ g1 g2 g3 : Nat → Value, ∀ i, i < t.ks.length → Sev w' q3 (i * 7) (ndA t.ks i).b (g1 i) (g2 i) (g3 i) ∧ NdFp w' (Fs (ts.length + i)) (ndA t.ks i) (g1 i) (g2 i) (g3 i) := by
  have h : ∀ i, ∃ v1 v2 v3, i < t.ks.length → Sev w' q3 (i * 7) (ndA t.ks i).b v1 v2 v3 ∧ NdFp w' (Fs (ts.length + i)) (ndA t.ks i) v1 v2 v3 := fun i => by
   by_cases hi : i < t.ks.length
   ·obtain ⟨v1, v2, v3, h1, h2⟩ := hA (ts.length + i) (by rw [List.length_append]; omega)
    rw [hnew hi, hndn] at h1
    rw [hndn] at h2
    exact ⟨v1, v2, v3, fun _ => ⟨h1, h2⟩⟩
   ·exact ⟨.bool false, .bool false, .bool false, fun q => absurd q hi⟩
  exact ⟨fun i => (h i).choose, fun i => (h i).choose_spec.choose, fun i => (h i).choose_spec.choose_spec.choose, fun i hi => (h i).choose_spec.choose_spec.choose_spec hi⟩
 obtain ⟨g1, g2, g3, hg⟩ := N
 have n1 : 0 < t.bs.length → ∀ k, ¬ Spot (ls ++ spots q3 t.ks.length) q1 k := fun hn k => spot_new (i1.mem hn) (d13 hn)
 have n2 : 0 < t.is.length → ∀ k, ¬ Spot (ls ++ spots q3 t.ks.length) q2 k := fun hn k => spot_new (i2.mem hn) (d23 hn)
 have M : ∃ F, NdAt w' F l t ∧ ∀ q, F q → (w.heap.size ≤ q ∧ q < w3.heap.size) ∨ ∃ i, i < t.ks.length ∧ Fs (ts.length + i) q := by
  refine ⟨fun q => (w.heap.size ≤ q ∧ q < w3.heap.size) ∨ ∃ i, i < t.ks.length ∧ Fs (ts.length + i) q, ⟨_, _, _, S.out O3 ?_ (fun k h1 h2 => ?_), ?_⟩, fun q f => f⟩
  ·have := O.ne ls.length (by rw [List.length_append]; simp)
   rw [hlast] at this
   exact fun e => this e.symm
  ·intro s
   obtain ⟨i, hi, e1, e2, e3⟩ := spot_old bll s
   have ap := O.ap ls.length i (by rw [List.length_append]; simp) (lt hi) (by omega)
   rw [hlast, hold hi] at ap
   rcases ap with c | c | c
   ·exact c e1
   ·omega
   ·omega
  ·obtain ⟨b, bs, is, ks⟩ := t
   dsimp only [Nd.b, Nd.bs, Nd.is, Nd.ks] at *
   refine .mk (q1 := q1) (q2 := q2) (q3 := q3) (G := fun i => Fs (ts.length + i)) (g1 := g1) (g2 := g2) (g3 := g3) (s1.out O3 i1.ad (fun hn => nRq (i1.mem hn)) n1) (s2.out O3 i2.ad (fun hn => nRq (i2.mem hn)) n2) h3 m3 (i1.out O3 (fun hn => nRq (i1.mem hn)) (fun hn => .inl ⟨i1.mem hn, Nat.lt_of_lt_of_le (i1.lt hn) sz23⟩)) (i2.out O3 (fun hn => nRq (i2.mem hn)) (fun hn => .inl ⟨i2.mem hn, Nat.lt_of_lt_of_le (i2.lt hn) sz23⟩)) ⟨e3, fun hn => .inl ⟨T.n3, Nat.lt_of_lt_of_le (T.l3 hn) sz23⟩, fun hn => Nat.lt_of_lt_of_le (T.l3 hn) O3.size, fun hn o => O3.fr q3 o (T.l3 hn) (nRq T.n3) (T.f3 hn o)⟩ ⟨d12, fun h1 _ => d13 h1, fun h1 _ => d23 h1, fun h1 i hi f => ?_, fun h1 i hi f => ?_, fun i hi f => ?_, fun i j q hi hj ne f => hdj (ts.length + i) (ts.length + j) q (by rw [List.length_append]; omega) (by rw [List.length_append]; omega) (by omega) f⟩ (fun i q hi f => .inr ⟨i, hi, f⟩) (fun i hi => (hg i hi).1) (fun i hi => (hg i hi).2)
   ·have := FK i q1 hi f
    have := i1.lt h1
    omega
   ·have := FK i q2 hi f
    have := i2.lt h1
    omega
   ·have := FK i q3 hi f
    have := T.l3 (by show 0 < ks.length; omega)
    omega
 obtain ⟨F, hF, hFs⟩ := M
 refine K w' (fun i => if i < ts.length then Fs i else F) O2 (fun i hi => ?_) (fun i q hi f => ?_) (fun i j q hi hj ne f1 f2 => ?_)
 ·rw [List.length_append] at hi
  by_cases c : i < ts.length
  ·have h := hA i (by rw [List.length_append]; omega)
   rw [hold' (by omega), hndo c] at h
   rw [hold (by omega), ndA_app, if_pos c]
   simp only [if_pos c]
   exact h
  ·obtain rfl : i = ts.length := by simp at hi; omega
   rw [ndA_app, if_neg (by omega), Nat.sub_self, ← hl, hlast]
   simp only [hl, Nat.lt_irrefl, if_false]
   exact hF
 ·rw [List.length_append] at hi
  by_cases c : i < ts.length
  ·simp only [if_pos c] at f
   have := hge i q (by rw [List.length_append]; omega) f
   have := T.size
   omega
  ·simp only [if_neg c] at f
   rcases hFs q f with h | ⟨j, hj, h⟩
   ·exact h.1
   ·have := FK j q hj h
    have := T.size
    omega
 ·rw [List.length_append] at hi hj
  simp at hi hj
  by_cases c : i < ts.length
  ·by_cases d : j < ts.length
   ·simp only [if_pos c] at f1
    simp only [if_pos d] at f2
    exact hdj i j q (by rw [List.length_append]; omega) (by rw [List.length_append]; omega) ne f1 f2
   ·simp only [if_pos c] at f1
    simp only [if_neg d] at f2
    rcases hFs q f2 with h | ⟨m, hm, h⟩
    ·have := hge i q (by rw [List.length_append]; omega) f1
     omega
    ·exact hdj i (ts.length + m) q (by rw [List.length_append]; omega) (by rw [List.length_append]; omega) (by omega) f1 h
  ·by_cases d : j < ts.length
   ·simp only [if_neg c] at f1
    simp only [if_pos d] at f2
    rcases hFs q f1 with h | ⟨m, hm, h⟩
    ·have := hge j q (by rw [List.length_append]; omega) f2
     omega
    ·exact hdj j (ts.length + m) q (by rw [List.length_append]; omega) (by rw [List.length_append]; omega) (by omega) f2 h
   ·omega
theorem Opn.step {w w2 w3 : World} {base q3 : Nat} {R R' : Option Nat} {ls : List Ptr} {l : Ptr} {t : Nd} (O : Opn w base R (ls ++ [l])) (T : Told w w2 l t q3) (g : w2.grownBy w3 R) (hR' : R' = R ∨ ∀ k, R' = some k → w2.heap.size ≤ k) (hRl : ∀ k, R = some k → k < w.heap.size) (hb : base ≤ w.heap.size) :
  Opn w3 base R' (ls ++ spots q3 t.ks.length) := by
 have lt : ∀ {i}, i < ls.length → i < (ls ++ [l]).length := fun h => by rw [List.length_append]; omega
 have hlast : ptAt (ls ++ [l]) ls.length = l := by rw [ptAt_app, if_neg (by omega), Nat.sub_self]; rfl
 have hold : ∀ {i}, i < ls.length → ptAt (ls ++ [l]) i = ptAt ls i := fun h => by rw [ptAt_app, if_pos h]
 have hold' : ∀ {i}, i < ls.length → ptAt (ls ++ spots q3 t.ks.length) i = ptAt ls i := fun h => by rw [ptAt_app, if_pos h]
 have hnew : ∀ {i}, i < t.ks.length → ptAt (ls ++ spots q3 t.ks.length) (ls.length + i) = (q3, i * 7) := fun h => by rw [ptAt_app, if_neg (by omega), Nat.add_sub_cancel_left, spots_at h]
 have blt : ∀ {i}, i < ls.length → (ptAt ls i).1 < w.heap.size := fun {i} h => by
  have := World.block_lt_of_cell? w _ (O.z i (lt h)).c6
  rw [hold h] at this
  exact this
 have split : ∀ {i}, i < (ls ++ spots q3 t.ks.length).length → i < ls.length ∨ ∃ j, j < t.ks.length ∧ i = ls.length + j := fun {i} hi => by
  rw [List.length_append, spots_len] at hi
  by_cases c : i < ls.length
  ·exact .inl c
  ·exact .inr ⟨i - ls.length, by omega, by omega⟩
 have Sg : ∀ {p o x v1 v2 v3}, Sev w2 p o x v1 v2 v3 → some p ≠ R → Sev w3 p o x v1 v2 v3 := fun {p o x v1 v2 v3} h ne => sev_grown h g ne
 refine ⟨fun i hi => ?_, fun i o hi => ?_, fun i hi => ?_, fun i hi => ?_, fun i j hi hj ne => ?_⟩
 ·rcases split hi with c | ⟨j, hj, rfl⟩
  ·have z := O.z i (lt c)
   have ap := O.ap i ls.length (lt c) (by rw [List.length_append]; simp) (by omega)
   have nr := O.ne i (lt c)
   rw [hold c] at z ap nr
   rw [hlast] at ap
   rw [hold' c]
   have q : ∀ k v, (ptAt ls i).2 ≤ k → k < (ptAt ls i).2 + 7 → w.cell? ⟨(ptAt ls i).1, k, none⟩ = some v → w2.cell? ⟨(ptAt ls i).1, k, none⟩ = some v := fun k v h1 h2 e => T.at' _ _ _ e (by
    rintro ⟨e1, e2, e3⟩
    rcases ap with c | c | c
    ·exact c e1
    ·omega
    ·omega)
   exact Sg ⟨⟨q _ _ (by omega) (by omega) z.four.1, q _ _ (by omega) (by omega) z.four.2.1, q _ _ (by omega) (by omega) z.four.2.2.1, q _ _ (by omega) (by omega) z.four.2.2.2⟩, q _ _ (by omega) (by omega) z.c4, q _ _ (by omega) (by omega) z.c5, q _ _ (by omega) (by omega) z.c6⟩ (fun e => nr e.symm)
  ·rw [hnew hj]
   exact Sg (T.kids j hj) (fun e => by have := hRl q3 e.symm; have := T.n3; omega)
 ·rcases split hi with c | ⟨j, hj, rfl⟩
  ·rw [hold' c]
   have f := O.fr i o (lt c)
   rw [hold c] at f
   have nr := O.ne i (lt c)
   rw [hold c] at nr
   exact (grown_fr g (Nat.lt_of_lt_of_le (blt c) T.size) (fun e => nr e.symm) o).trans (T.fr _ o (blt c) f)
  ·rw [hnew hj]
   exact (grown_fr g (T.l3 (by omega)) (fun e => by have := hRl q3 e.symm; have := T.n3; omega) o).trans (T.f3 (by omega) o)
 ·rcases split hi with c | ⟨j, hj, rfl⟩
  ·have f := O.ge i (lt c)
   rw [hold c] at f
   rw [hold' c]
   exact f
  ·rw [hnew hj]
   have := T.n3
   dsimp only
   omega
 ·rcases split hi with c | ⟨j, hj, rfl⟩
  ·have f := O.ne i (lt c)
   rw [hold c] at f
   rw [hold' c]
   rcases hR' with d | d
   ·rw [d]; exact f
   ·intro e
    have := d _ e
    have := blt c
    have := T.size
    omega
  ·rw [hnew hj]
   have h3 := T.l3 (by omega)
   rcases hR' with d | d
   ·rw [d]
    intro e
    have := hRl _ e
    have := T.n3
    dsimp only at *
    omega
   ·intro e
    have := d _ e
    dsimp only at *
    omega
 ·rcases split hi with c | ⟨m, hm, rfl⟩
  ·rcases split hj with d | ⟨n, hn, rfl⟩
   ·have ap := O.ap i j (lt c) (lt d) ne
    rw [hold c, hold d] at ap
    rw [hold' c, hold' d]
    exact ap
   ·rw [hold' c, hnew hn]
    have := blt c
    have := T.n3
    left
    dsimp only
    omega
  ·rcases split hj with d | ⟨n, hn, rfl⟩
   ·rw [hold' d, hnew hm]
    have := blt d
    have := T.n3
    left
    dsimp only
    omega
   ·rw [hnew hm, hnew hn]
    right
    dsimp only
    omega
end Go.Proofs.YtinlomcaagdbiaaGreat

/- Trees copied (toIntS, toNode, toNodeS). -/
namespace Go.Proofs.YtinlomcaagdbiaaGreat
open Go.RowKit

theorem infoN : (Tryz.prog.info? 32).map (fun i => (i.zero, i.size, i.bytes)) = some (some (.agg #[.int .i64 0, .int .i64 0, .int .i64 0, .int .i64 0, .slice none 0 0, .slice none 0 0, .slice none 0 0]), 7, 104) := by kernel_rfl
structure Bx7 (w : World) (p : Nat) (u0 u1 u2 u3 u4 u5 u6 : Value) : Prop where
 c0 : w.cell? ⟨p, 0, none⟩ = some u0
 c1 : w.cell? ⟨p, 1, none⟩ = some u1
 c2 : w.cell? ⟨p, 2, none⟩ = some u2
 c3 : w.cell? ⟨p, 3, none⟩ = some u3
 c4 : w.cell? ⟨p, 4, none⟩ = some u4
 c5 : w.cell? ⟨p, 5, none⟩ = some u5
 c6 : w.cell? ⟨p, 6, none⟩ = some u6
 fr : ∀ o, w.frozen? ⟨p, o, none⟩ = false
theorem Bx7.new (w : World) (u0 u1 u2 u3 u4 u5 u6 : Value) (T : TypeId) : Bx7 (w.alloc (.cells #[u0, u1, u2, u3, u4, u5, u6] T)) w.heap.size u0 u1 u2 u3 u4 u5 u6 :=
 ⟨cell_new w _ T 0 rfl, cell_new w _ T 1 rfl, cell_new w _ T 2 rfl, cell_new w _ T 3 rfl, cell_new w _ T 4 rfl, cell_new w _ T 5 rfl, cell_new w _ T 6 rfl, fun o => frozen_new _ _ _ o⟩
theorem Bx7.lt {w : World} {p : Nat} {u0 u1 u2 u3 u4 u5 u6 : Value} (h : Bx7 w p u0 u1 u2 u3 u4 u5 u6) : p < w.heap.size := World.block_lt_of_cell? _ _ h.c0
theorem Bx7.below {w w' : World} {p : Nat} {u0 u1 u2 u3 u4 u5 u6 : Value} (h : Bx7 w p u0 u1 u2 u3 u4 u5 u6) (hb : Below w.heap.size w w') : Bx7 w' p u0 u1 u2 u3 u4 u5 u6 :=
 ⟨bat hb h.c0, bat hb h.c1, bat hb h.c2, bat hb h.c3, bat hb h.c4, bat hb h.c5, bat hb h.c6, fun o => (hb.frozen (p := ⟨p, o, none⟩) h.lt).trans (h.fr o)⟩
theorem Bx7.old {w : World} {p q o : Nat} {u0 u1 u2 u3 u4 u5 u6 : Value} (h : Bx7 w p u0 u1 u2 u3 u4 u5 u6) (ne : p ≠ q) (x : Value) : Bx7 (w.setCell ⟨q, o, none⟩ x) p u0 u1 u2 u3 u4 u5 u6 :=
 ⟨(cell_other (.inl (Ne.symm ne)) x).trans h.c0, (cell_other (.inl (Ne.symm ne)) x).trans h.c1, (cell_other (.inl (Ne.symm ne)) x).trans h.c2, (cell_other (.inl (Ne.symm ne)) x).trans h.c3, (cell_other (.inl (Ne.symm ne)) x).trans h.c4, (cell_other (.inl (Ne.symm ne)) x).trans h.c5, (cell_other (.inl (Ne.symm ne)) x).trans h.c6, fun o => (World.frozen?_setCell ..).trans (h.fr o)⟩
theorem Bx7.set0 {w : World} {p : Nat} {u0 u1 u2 u3 u4 u5 u6 : Value} (h : Bx7 w p u0 u1 u2 u3 u4 u5 u6) (x : Value) : Bx7 (w.setCell ⟨p, 0, none⟩ x) p x u1 u2 u3 u4 u5 u6 := ⟨cell_same h.c0 x, (cell_other (.inr (by omega)) x).trans h.c1, (cell_other (.inr (by omega)) x).trans h.c2, (cell_other (.inr (by omega)) x).trans h.c3, (cell_other (.inr (by omega)) x).trans h.c4, (cell_other (.inr (by omega)) x).trans h.c5, (cell_other (.inr (by omega)) x).trans h.c6, fun o => (World.frozen?_setCell ..).trans (h.fr o)⟩
theorem Bx7.set1 {w : World} {p : Nat} {u0 u1 u2 u3 u4 u5 u6 : Value} (h : Bx7 w p u0 u1 u2 u3 u4 u5 u6) (x : Value) : Bx7 (w.setCell ⟨p, 1, none⟩ x) p u0 x u2 u3 u4 u5 u6 := ⟨(cell_other (.inr (by omega)) x).trans h.c0, cell_same h.c1 x, (cell_other (.inr (by omega)) x).trans h.c2, (cell_other (.inr (by omega)) x).trans h.c3, (cell_other (.inr (by omega)) x).trans h.c4, (cell_other (.inr (by omega)) x).trans h.c5, (cell_other (.inr (by omega)) x).trans h.c6, fun o => (World.frozen?_setCell ..).trans (h.fr o)⟩
theorem Bx7.set2 {w : World} {p : Nat} {u0 u1 u2 u3 u4 u5 u6 : Value} (h : Bx7 w p u0 u1 u2 u3 u4 u5 u6) (x : Value) : Bx7 (w.setCell ⟨p, 2, none⟩ x) p u0 u1 x u3 u4 u5 u6 := ⟨(cell_other (.inr (by omega)) x).trans h.c0, (cell_other (.inr (by omega)) x).trans h.c1, cell_same h.c2 x, (cell_other (.inr (by omega)) x).trans h.c3, (cell_other (.inr (by omega)) x).trans h.c4, (cell_other (.inr (by omega)) x).trans h.c5, (cell_other (.inr (by omega)) x).trans h.c6, fun o => (World.frozen?_setCell ..).trans (h.fr o)⟩
theorem Bx7.set3 {w : World} {p : Nat} {u0 u1 u2 u3 u4 u5 u6 : Value} (h : Bx7 w p u0 u1 u2 u3 u4 u5 u6) (x : Value) : Bx7 (w.setCell ⟨p, 3, none⟩ x) p u0 u1 u2 x u4 u5 u6 := ⟨(cell_other (.inr (by omega)) x).trans h.c0, (cell_other (.inr (by omega)) x).trans h.c1, (cell_other (.inr (by omega)) x).trans h.c2, cell_same h.c3 x, (cell_other (.inr (by omega)) x).trans h.c4, (cell_other (.inr (by omega)) x).trans h.c5, (cell_other (.inr (by omega)) x).trans h.c6, fun o => (World.frozen?_setCell ..).trans (h.fr o)⟩
theorem Bx7.set4 {w : World} {p : Nat} {u0 u1 u2 u3 u4 u5 u6 : Value} (h : Bx7 w p u0 u1 u2 u3 u4 u5 u6) (x : Value) : Bx7 (w.setCell ⟨p, 4, none⟩ x) p u0 u1 u2 u3 x u5 u6 := ⟨(cell_other (.inr (by omega)) x).trans h.c0, (cell_other (.inr (by omega)) x).trans h.c1, (cell_other (.inr (by omega)) x).trans h.c2, (cell_other (.inr (by omega)) x).trans h.c3, cell_same h.c4 x, (cell_other (.inr (by omega)) x).trans h.c5, (cell_other (.inr (by omega)) x).trans h.c6, fun o => (World.frozen?_setCell ..).trans (h.fr o)⟩
theorem Bx7.set5 {w : World} {p : Nat} {u0 u1 u2 u3 u4 u5 u6 : Value} (h : Bx7 w p u0 u1 u2 u3 u4 u5 u6) (x : Value) : Bx7 (w.setCell ⟨p, 5, none⟩ x) p u0 u1 u2 u3 u4 x u6 := ⟨(cell_other (.inr (by omega)) x).trans h.c0, (cell_other (.inr (by omega)) x).trans h.c1, (cell_other (.inr (by omega)) x).trans h.c2, (cell_other (.inr (by omega)) x).trans h.c3, (cell_other (.inr (by omega)) x).trans h.c4, cell_same h.c5 x, (cell_other (.inr (by omega)) x).trans h.c6, fun o => (World.frozen?_setCell ..).trans (h.fr o)⟩
theorem Bx7.set6 {w : World} {p : Nat} {u0 u1 u2 u3 u4 u5 u6 : Value} (h : Bx7 w p u0 u1 u2 u3 u4 u5 u6) (x : Value) : Bx7 (w.setCell ⟨p, 6, none⟩ x) p u0 u1 u2 u3 u4 u5 x := ⟨(cell_other (.inr (by omega)) x).trans h.c0, (cell_other (.inr (by omega)) x).trans h.c1, (cell_other (.inr (by omega)) x).trans h.c2, (cell_other (.inr (by omega)) x).trans h.c3, (cell_other (.inr (by omega)) x).trans h.c4, (cell_other (.inr (by omega)) x).trans h.c5, cell_same h.c6 x, fun o => (World.frozen?_setCell ..).trans (h.fr o)⟩
theorem Bx7.sev {w : World} {p : Nat} {x1 x2 x3 x4 : Int} {v1 v2 v3 : Value} (h : Bx7 w p (.int .i64 x1) (.int .i64 x2) (.int .i64 x3) (.int .i64 x4) v1 v2 v3) : Sev w p 0 (x1, x2, x3, x4) v1 v2 v3 := ⟨⟨h.c0, h.c1, h.c2, h.c3⟩, h.c4, h.c5, h.c6⟩
theorem ndsSz_mem {k : Nd} : ∀ {ks : List Nd}, k ∈ ks → ndSz k ≤ ndSz.ndsSz ks
 | [], h => by cases h
 | q :: ks, h => by
  simp only [ndSz.ndsSz]
  rcases List.mem_cons.1 h with rfl | h
  ·omega
  ·have := ndsSz_mem h
   omega
end Go.Proofs.YtinlomcaagdbiaaGreat
