/- A row of fractions of a call's own; the least of them, as both sides take it. -/
import Derived.Test.YtnjbedhealpgcaaGreatDivI
import Derived.Test.YtnjbedhealpgcaaGreatGapM
import Derived.Test.YtnjbedhealpgcaaGreatGapN
import Derived.Test.YtnjbedhealpgcaaGreatSeg
namespace Go.Proofs.YtnjbedhealpgcaaGreat
open Go.RowKit

def FrIn (lo : Nat) (w : World) (o : Option Nat) (u : Value) (n d : Int) : Prop :=
 ∃ a1 c1 qs a2 c2 rs, u = .agg #[.bool (decide (n < 0)), .slice a1 qs.length c1, .bool (decide (d < 0)), .slice a2 rs.length c2] ∧ Own lo w a1 c1 qs ∧ Own lo w a2 c2 rs ∧ Nrm qs ∧ Nrm rs ∧ val qs = mg n ∧ val rs = mg d ∧ Apart a1 qs a2 rs ∧ (∀ b off, a1 = some ⟨b, off, none⟩ → qs ≠ [] → o ≠ some b) ∧ (∀ b off, a2 = some ⟨b, off, none⟩ → rs ≠ [] → o ≠ some b)
theorem FrIn.of {lo b : Nat} {w : World} {o : Option Nat} {u : Value} {n d : Int} (h : IsFrac b w u n d) (hl : lo ≤ b) (ho : ∀ k, o = some k → k < b) : FrIn lo w o u n d := by
 obtain ⟨a1, c1, qs, a2, c2, rs, e, o1, o2, n1, n2, v1, v2, ap⟩ := h
 exact ⟨a1, c1, qs, a2, c2, rs, e, o1.base_le hl, o2.base_le hl, n1, n2, v1, v2, ap, fun q off ha hn e => by have := ho q e; have := (o1.new q off ha hn).1; omega, fun q off ha hn e => by have := ho q e; have := (o2.new q off ha hn).1; omega⟩
theorem FrIn.below {lo : Nat} {w w' : World} {o : Option Nat} {u : Value} {n d : Int} (h : FrIn lo w o u n d) (hb : Below w.heap.size w w') : FrIn lo w' o u n d := by
 obtain ⟨a1, c1, qs, a2, c2, rs, e, o1, o2, r⟩ := h
 exact ⟨a1, c1, qs, a2, c2, rs, e, o1.below hb, o2.below hb, r⟩
theorem FrIn.step {lo : Nat} {w w' : World} {o o' : Option Nat} {u : Value} {n d : Int} (h : FrIn lo w o u n d) (g : w.grownBy w' o) (at' : o' = o ∨ o' = some w.heap.size) : FrIn lo w' o' u n d := by
 obtain ⟨a1, c1, qs, a2, c2, rs, e, o1, o2, n1, n2, v1, v2, ap, k1, k2⟩ := h
 refine ⟨a1, c1, qs, a2, c2, rs, e, o1.kept g k1, o2.kept g k2, n1, n2, v1, v2, ap, fun q off ha hn => ?_, fun q off ha hn => ?_⟩
 ·rcases at' with e | e
  ·rw [e]; exact k1 q off ha hn
  ·rw [e]; intro e2; injection e2 with e2; have := o1.toCame.lt ha hn; omega
 ·rcases at' with e | e
  ·rw [e]; exact k2 q off ha hn
  ·rw [e]; intro e2; injection e2 with e2; have := o2.toCame.lt ha hn; omega

def frC : List Value → List Value
 | [] => []
 | v :: vs => v.cells.toList ++ frC vs
theorem frC_snoc (vs : List Value) (u : Value) : frC (vs ++ [u]) = frC vs ++ u.cells.toList := by
 induction vs with
 | nil => simp [frC]
 | cons v vs ih => simp [frC, ih, List.append_assoc]
def zN (zs : List (Int × Int)) (i : Nat) : Int × Int := zs[i]?.getD (0, 1)
structure FrL (lo : Nat) (w : World) (v : Value) (vs : List Value) (zs : List (Int × Int)) : Prop where
 own : w.ownsRow lo 32 4 v vs.length (frC vs)
 len : Hid (vs.length = zs.length)
 frs : ∀ i u, vs[i]? = some u → FrIn lo w v.ownBlock u (zN zs i).1 (zN zs i).2
theorem FrL.nil (lo : Nat) (w : World) : FrL lo w (.slice none 0 0) [] [] := ⟨⟨rfl, .inl ⟨rfl, rfl⟩⟩, rfl, fun i u h => by simp at h⟩
theorem FrL.below {lo : Nat} {w w' : World} {v : Value} {vs : List Value} {zs : List (Int × Int)} (h : FrL lo w v vs zs) (hb : Below w.heap.size w w') : FrL lo w' v vs zs :=
 ⟨owns_below h.own hb, h.len, fun i u hu => (h.frs i u hu).below hb⟩
theorem FrL.shape {lo : Nat} {w : World} {v : Value} {vs : List Value} {zs : List (Int × Int)} (h : FrL lo w v vs zs) : ∃ a cap, v = .slice a zs.length cap ∧ zs.length ≤ cap ∧ cap ≤ maxLen := by
 rw [← h.len.out]
 rcases h.own.2 with ⟨hv, h0⟩ | ⟨q, cap', cur, hv, _, _, hf, hm, _⟩
 ·exact ⟨none, 0, by rw [h0]; exact hv, by omega, by simp [maxLen]⟩
 ·exact ⟨_, _, hv, hf, hm⟩
theorem FrL.snoc {lo : Nat} {w w' : World} {v v' u : Value} {vs : List Value} {zs : List (Int × Int)} {n d : Int} (h : FrL lo w v vs zs) (hu : FrIn lo w v.ownBlock u n d)
  (own : w'.ownsRow lo 32 4 v' (vs.length + 1) (frC vs ++ u.cells.toList)) (g : w.grownBy w' v.ownBlock) (at' : v'.ownBlock = v.ownBlock ∨ v'.ownBlock = some w.heap.size) : FrL lo w' v' (vs ++ [u]) (zs ++ [(n, d)]) := by
 have hl := h.len.out
 refine ⟨by rw [List.length_append, frC_snoc]; exact own, (by show _ = _; rw [List.length_append, List.length_append, hl]; rfl), fun i x hx => ?_⟩
 by_cases hi : i < vs.length
 ·rw [List.getElem?_append_left hi] at hx
  have e : zN (zs ++ [(n, d)]) i = zN zs i := by unfold zN; rw [List.getElem?_append_left (by omega)]
  rw [e]
  exact (h.frs i x hx).step g at'
 ·have hi2 : i = vs.length := by
   have := (List.getElem?_eq_some_iff.mp hx).1
   rw [List.length_append] at this
   simp at this
   omega
  subst hi2
  rw [List.getElem?_append_right (Nat.le_refl _), Nat.sub_self] at hx
  simp at hx
  subst hx
  have e : zN (zs ++ [(n, d)]) vs.length = (n, d) := by unfold zN; rw [List.getElem?_append_right (by omega), hl, Nat.sub_self]; rfl
  rw [e]
  exact hu.step g at'
theorem frC_at (vs : List Value) : ∀ i u, vs[i]? = some u → (∀ x ∈ vs, x.cells.size = 4) → ∀ k, k < 4 → (frC vs)[4 * i + k]? = u.cells.toList[k]? := by
 induction vs with
 | nil => intro i u h; simp at h
 | cons v vs ih =>
  intro i u h hc k hk
  have h4 : v.cells.toList.length = 4 := by rw [Array.length_toList]; exact hc v (List.mem_cons_self ..)
  cases i with
  | zero =>
   simp at h
   subst h
   simp only [frC, Nat.mul_zero, Nat.zero_add]
   rw [List.getElem?_append_left (by omega)]
  | succ i =>
   rw [List.getElem?_cons_succ] at h
   simp only [frC]
   rw [List.getElem?_append_right (by omega), h4, show 4 * (i + 1) + k - 4 = 4 * i + k by omega]
   exact ih i u h (fun x hx => hc x (List.mem_cons_of_mem _ hx)) k hk
structure FrO (lo : Nat) (w : World) (z : Int × Int) (a1 : Option Addr) (c1 : Nat) (qs : List Int) (a2 : Option Addr) (c2 : Nat) (rs : List Int) : Prop where
 o1 : Own lo w a1 c1 qs
 o2 : Own lo w a2 c2 rs
 n1 : Nrm qs
 n2 : Nrm rs
 v1 : val qs = mg z.1
 v2 : val rs = mg z.2
 ap : Apart a1 qs a2 rs
theorem FrO.below {lo : Nat} {w w' : World} {z : Int × Int} {a1 a2 : Option Addr} {c1 c2 : Nat} {qs rs : List Int} (h : FrO lo w z a1 c1 qs a2 c2 rs) (hb : Below w.heap.size w w') : FrO lo w' z a1 c1 qs a2 c2 rs := ⟨h.o1.below hb, h.o2.below hb, h.n1, h.n2, h.v1, h.v2, h.ap⟩
theorem FrO.is {lo : Nat} {w : World} {z : Int × Int} {a1 a2 : Option Addr} {c1 c2 : Nat} {qs rs : List Int} (h : FrO lo w z a1 c1 qs a2 c2 rs) : IsFrac lo w (.agg #[.bool (decide (z.1 < 0)), .slice a1 qs.length c1, .bool (decide (z.2 < 0)), .slice a2 rs.length c2]) z.1 z.2 :=
 ⟨a1, c1, qs, a2, c2, rs, rfl, h.o1, h.o2, h.n1, h.n2, h.v1, h.v2, h.ap⟩
theorem IsFrac.parts {lo : Nat} {w : World} {v : Value} {z : Int × Int} (h : IsFrac lo w v z.1 z.2) : ∃ a1 c1 qs a2 c2 rs, v = .agg #[.bool (decide (z.1 < 0)), .slice a1 (List.length qs) c1, .bool (decide (z.2 < 0)), .slice a2 (List.length rs) c2] ∧ FrO lo w z a1 c1 qs a2 c2 rs := by
 obtain ⟨a1, c1, qs, a2, c2, rs, e, o1, o2, n1, n2, v1, v2, ap⟩ := h
 exact ⟨a1, c1, qs, a2, c2, rs, e, o1, o2, n1, n2, v1, v2, ap⟩
theorem FrL.at {lo : Nat} {w : World} {a : Option Addr} {c : Nat} {vs : List Value} {zs : List (Int × Int)} (h : FrL lo w (.slice a zs.length c) vs zs) {i : Nat} (hi : i < zs.length) :
  ∃ b a1 c1 qs a2 c2 rs, a = some ⟨b, 0, none⟩ ∧ w.cell? ⟨b, 0 + i * 4, none⟩ = some (.bool (decide ((zN zs i).1 < 0))) ∧ w.cell? ⟨b, 0 + i * 4 + 1, none⟩ = some (.slice a1 (List.length qs) c1) ∧ w.cell? ⟨b, 0 + i * 4 + 2, none⟩ = some (.bool (decide ((zN zs i).2 < 0))) ∧ w.cell? ⟨b, 0 + i * 4 + 3, none⟩ = some (.slice a2 (List.length rs) c2)
   ∧ FrO lo w (zN zs i) a1 c1 qs a2 c2 rs ∧ b < w.heap.size := by
 have hl := h.len.out
 have hi2 : i < vs.length := by omega
 have h4 : ∀ x ∈ vs, x.cells.size = 4 := fun x hx => by
  obtain ⟨j, hj, e⟩ := List.mem_iff_getElem.1 hx
  obtain ⟨a1, c1, qs, a2, c2, rs, e2, _⟩ := h.frs j x (by rw [List.getElem?_eq_getElem hj, e])
  rw [e2]; rfl
 have F := h.frs i vs[i] (List.getElem?_eq_getElem hi2)
 obtain ⟨a1, c1, qs, a2, c2, rs, e, o1, o2, n1, n2, v1, v2, ap, k1, k2⟩ := F
 rcases h.own.2 with ⟨hv, h0⟩ | ⟨q, cap', cur, hv, hb, hh, hf, hm, hs, ht⟩
 ·omega
 ·injection hv with q1 q2 q3
  subst q1 q3
  have cc : ∀ k u, (frC vs)[k]? = some u → w.cell? ⟨q, 0 + k, none⟩ = some u := by
   intro k u hk
   rw [← ht] at hk
   have hk2 : k < vs.length * 4 := by
    have := (List.getElem?_eq_some_iff.mp hk).1
    rw [List.length_take] at this
    omega
   rw [List.getElem?_take_of_lt hk2] at hk
   rw [Nat.zero_add]
   exact (cell_of_row w q k _ _ _ hh).trans (by simpa using hk)
  have g := fun k (hk : k < 4) => frC_at vs i vs[i] (List.getElem?_eq_getElem hi2) h4 k hk
  rw [e] at g
  have r0 := cc _ _ (g 0 (by omega))
  have r1 := cc _ _ (g 1 (by omega))
  have r2 := cc _ _ (g 2 (by omega))
  have r3 := cc _ _ (g 3 (by omega))
  have m4 : i * 4 = 4 * i := by omega
  refine ⟨q, a1, c1, qs, a2, c2, rs, rfl, ?_, ?_, ?_, ?_, ⟨o1, o2, n1, n2, v1, v2, ap⟩, World.block_lt_of_cell? _ _ r0⟩
  ·rw [m4]; exact r0
  ·rw [m4, Nat.add_assoc]; exact r1
  ·rw [m4, Nat.add_assoc]; exact r2
  ·rw [m4, Nat.add_assoc]; exact r3

def gpZ (e : Sg) (p : Int × Int) : Int × Int := (gN (e.2.1 - e.1.1) (e.2.2 - e.1.2) (p.1 - e.1.1) (p.2 - e.1.2), gD (e.2.1 - e.1.1) (e.2.2 - e.1.2) (p.1 - e.1.1) (p.2 - e.1.2))
def dsF (zs : List (Int × Int)) : Nat → Int × Int
 | 0 => zN zs 0
 | j + 1 => if (zN zs (j + 1)).1 * (dsF zs j).2 < (dsF zs j).1 * (zN zs (j + 1)).2 then zN zs (j + 1) else dsF zs j
theorem dsF_mem {zs : List (Int × Int)} : ∀ j, ∃ i, i ≤ j ∧ dsF zs j = zN zs i
 | 0 => ⟨0, Nat.le_refl _, rfl⟩
 | j + 1 => by
  obtain ⟨i, hi, e⟩ := dsF_mem (zs := zs) j
  simp only [dsF]
  split
  ·exact ⟨j + 1, Nat.le_refl _, rfl⟩
  ·exact ⟨i, by omega, e⟩
def FrB (z : Int × Int) : Prop := 0 < z.2 ∧ mg z.1 ≤ 640000000000000000000000000000 ∧ mg z.2 ≤ 640000000000000000000000000000
theorem FrB.len {z : Int × Int} (h : FrB z) {qs rs : List Int} (l1 : Lim qs) (n1 : Nrm qs) (v1 : val qs = mg z.1) (l2 : Lim rs) (n2 : Nrm rs) (v2 : val rs = mg z.2) : qs.length ≤ 24 ∧ rs.length ≤ 24 := by
 have e4 : (4294967296 : Int) ^ 4 = 340282366920938463463374607431768211456 := by decide
 obtain ⟨h0, h1, h2⟩ := h
 exact ⟨Nat.le_trans (len_le l1 n1 (k := 4) (by rw [v1, e4]; omega)) (by decide), Nat.le_trans (len_le l2 n2 (k := 4) (by rw [v2, e4]; omega)) (by decide)⟩
theorem gpZ_ok {e : Sg} {p : Int × Int} (h : (Crd e.1.1 ∧ Crd e.1.2) ∧ (Crd e.2.1 ∧ Crd e.2.2)) (hx : Crd p.1) (hy : Crd p.2) : FrB (gpZ e p) := by
 obtain ⟨⟨a, b⟩, ⟨c, d⟩⟩ := h
 have gb := g_bounds (c.dif a) (d.dif b) (hx.dif a) (hy.dif b) (by rw [show p.1 - e.1.1 - (e.2.1 - e.1.1) = p.1 - e.2.1 by omega]; exact hx.dif c) (by rw [show p.2 - e.1.2 - (e.2.2 - e.1.2) = p.2 - e.2.2 by omega]; exact hy.dif d)
 exact ⟨(g_pos _ _ _ _).2, gb.1, gb.2⟩
theorem frCmp {lo lo' : Nat} {w : World} {z z' : Int × Int} {a1 a2 b1 b2 : Option Addr} {c1 c2 d1 d2 : Nat} {qs rs qs' rs' : List Int} (h : FrO lo w z a1 c1 qs a2 c2 rs) (k : FrO lo' w z' b1 d1 qs' b2 d2 rs') (hz : FrB z) (hz' : FrB z') :
  Calls Tryz.prog 28 #[.agg #[.bool (decide (z.1 < 0)), .slice a1 qs.length c1, .bool (decide (z.2 < 0)), .slice a2 rs.length c2], .agg #[.bool (decide (z'.1 < 0)), .slice b1 qs'.length d1, .bool (decide (z'.2 < 0)), .slice b2 rs'.length d2]] w fun e w' => e = .returned (.int .i64 (cmpZ (z.1 * z'.2) (z'.1 * z.2))) ∧ Below w.heap.size w w' := by
 have l := hz.len h.o1.lim h.n1 h.v1 h.o2.lim h.n2 h.v2
 have l' := hz'.len k.o1.lim k.n1 k.v1 k.o2.lim k.n2 k.v2
 exact cmpFrac_is z.1 z.2 z'.1 z'.2 a1 a2 b1 b2 c1 c2 d1 d2 qs rs qs' rs' w h.o1.toSees h.o2.toSees k.o1.toSees k.o2.toSees ⟨h.n1, l.1, h.v1⟩ ⟨h.n2, l.2, h.v2⟩ ⟨k.n1, l'.1, k.v1⟩ ⟨k.n2, l'.2, k.v2⟩ hz.1 hz'.1
theorem cmpZ_lt (x y : Int) : cmpZ x y < 0 ↔ x < y := by unfold cmpZ; split <;> (try split) <;> omega
end Go.Proofs.YtnjbedhealpgcaaGreat
