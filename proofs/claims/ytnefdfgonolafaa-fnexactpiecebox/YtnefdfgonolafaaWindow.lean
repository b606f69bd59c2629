/- A part of a row that is written: what the row is then. And the arithmetic of a long division. No program is named here. -/
import Derived.Test.YtnefdfgonolafaaDivA
namespace Go.Proofs.Ytnefdfgonolafaa
open Go.RowKit

theorem Lim.drop {xs : List Int} (h : Lim xs) (n : Nat) : Lim (xs.drop n) := fun x hx => h x (List.mem_of_mem_drop hx)
theorem get_window (rs : List Int) (i m j : Nat) (h : j < m) : ((rs.drop i).take m)[j]?.getD 0 = rs[i + j]?.getD 0 := by
  rw [List.getElem?_take, if_pos h, List.getElem?_drop]

theorem Own.window {base : Nat} {w : World} {b off c : Nat} {rs : List Int} (h : Own base w (some ⟨b, off, none⟩) c rs) {i m : Nat} (hm : i + m ≤ rs.length) : Own base w (some ⟨b, off + i, none⟩) (c - i) ((rs.drop i).take m) := by
  have hf := h.fits
  have hl : ((rs.drop i).take m).length = m := by simp; omega
  refine ⟨⟨⟨(h.lim.drop i).take m, by omega, by have := h.max; omega, fun hne => ⟨b, off + i, rfl, fun j hj => ?_⟩⟩, .inr ⟨b, off + i, rfl⟩⟩, fun b1 off1 e hne => ?_⟩
  · rw [hl] at hj
    have hn : rs ≠ [] := by intro e; simp [e] at hm; omega
    obtain ⟨b', off', e, hc⟩ := h.cells hn
    simp only [Option.some.injEq, Addr.mk.injEq] at e
    obtain ⟨rfl, rfl, _⟩ := e
    rw [get_window rs i m j hj, Nat.add_assoc]
    exact hc (i + j) (by omega)
  · simp only [Option.some.injEq, Addr.mk.injEq] at e
    obtain ⟨rfl, rfl, _⟩ := e
    have hn : rs ≠ [] := by intro e; simp [e] at hne
    obtain ⟨h1, h2⟩ := h.new _ _ rfl hn
    refine ⟨h1, fun j hj => ?_⟩
    rw [hl] at hj
    rw [Nat.add_assoc]
    exact h2 (i + j) (by omega)

/-- The row when its window reads otherwise. -/
def patch (rs us : List Int) (i m : Nat) : List Int := rs.take i ++ (us ++ rs.drop (i + m))
theorem patch_length {rs us : List Int} {i m : Nat} (hl : us.length = m) (hm : i + m ≤ rs.length) : (patch rs us i m).length = rs.length := by simp [patch]; omega
theorem patch_get {rs us : List Int} {i m : Nat} (hl : us.length = m) (hm : i + m ≤ rs.length) (j : Nat) :
    (patch rs us i m)[j]?.getD 0 = if j < i then rs[j]?.getD 0 else if j < i + m then us[j - i]?.getD 0 else rs[j]?.getD 0 := by
  have h1 : (rs.take i).length = i := by simp; omega
  unfold patch
  by_cases c1 : j < i
  · rw [if_pos c1, List.getElem?_append_left (by omega), List.getElem?_take, if_pos c1]
  · rw [if_neg c1, List.getElem?_append_right (by omega), h1]
    by_cases c2 : j < i + m
    · rw [if_pos c2, List.getElem?_append_left (by omega)]
    · rw [if_neg c2, List.getElem?_append_right (by omega), List.getElem?_drop, hl, show i + m + (j - i - m) = j by omega]
theorem Own.patch {base : Nat} {w w' : World} {b off c c' : Nat} {rs us : List Int} {i m : Nat} (h : Own base w (some ⟨b, off, none⟩) c rs) (hm : i + m ≤ rs.length) (k : Own base w' (some ⟨b, off + i, none⟩) c' us) (hl : us.length = m)
    (hs : Still w w' (some ⟨b, off + i, none⟩) m) : Own base w' (some ⟨b, off, none⟩) c (patch rs us i m) := by
  have hpl := patch_length hl hm
  refine ⟨⟨⟨?_, by rw [hpl]; exact h.fits, h.max, fun hne => ⟨b, off, rfl, fun j hj => ?_⟩⟩, .inr ⟨b, off, rfl⟩⟩, fun b1 off1 e hne => ?_⟩
  · exact (h.lim.take i).append (k.lim.append (h.lim.drop _))
  · rw [hpl] at hj
    have hn : rs ≠ [] := by intro e; simp [e] at hj
    obtain ⟨b', off', e, hc⟩ := h.cells hn
    simp only [Option.some.injEq, Addr.mk.injEq] at e
    obtain ⟨rfl, rfl, _⟩ := e
    rw [patch_get hl hm]
    by_cases c1 : j < i
    · rw [if_pos c1, (hs b _ rfl (off + j) (.inl (by omega))).1]
      exact hc j hj
    · rw [if_neg c1]
      by_cases c2 : j < i + m
      · rw [if_pos c2]
        obtain ⟨b2, off2, e, hc2⟩ := k.cells (by intro e; simp [e] at hl; omega)
        simp only [Option.some.injEq, Addr.mk.injEq] at e
        obtain ⟨rfl, rfl, _⟩ := e
        have := hc2 (j - i) (by omega)
        rw [show off + i + (j - i) = off + j by omega] at this
        exact this
      · rw [if_neg c2, (hs b _ rfl (off + j) (.inr (by omega))).1]
        exact hc j hj
  · simp only [Option.some.injEq, Addr.mk.injEq] at e
    obtain ⟨rfl, rfl, _⟩ := e
    have hn : rs ≠ [] := by intro e; have : (Go.Proofs.Ytnefdfgonolafaa.patch rs us i m).length = 0 := by rw [hpl, e]; rfl
                            exact hne (List.eq_nil_of_length_eq_zero this)
    obtain ⟨h1, h2⟩ := h.new _ _ rfl hn
    refine ⟨h1, fun j hj => ?_⟩
    rw [hpl] at hj
    by_cases c1 : j < i
    · rw [(hs b _ rfl (off + j) (.inl (by omega))).2]
      exact h2 j hj
    · by_cases c2 : j < i + m
      · have hk := (k.new _ _ rfl (by intro e; simp [e] at hl; omega)).2 (j - i) (by omega)
        rw [show off + i + (j - i) = off + j by omega] at hk
        exact hk
      · rw [(hs b _ rfl (off + j) (.inr (by omega))).2]
        exact h2 j hj

/-- A row in three parts. -/
theorem val_parts (rs us : List Int) (i m : Nat) (hl : us.length = m) (hi : i ≤ rs.length) : val (patch rs us i m) = val (rs.take i) + 4294967296 ^ i * (val us + 4294967296 ^ m * val (rs.drop (i + m))) := by
  unfold patch
  rw [val_append, val_append, hl, List.length_take, Nat.min_eq_left hi]
theorem patch_self (rs : List Int) (i m : Nat) : patch rs ((rs.drop i).take m) i m = rs := by
  unfold patch
  rw [← List.drop_drop, List.take_append_drop, List.take_append_drop]

/-- What holds of a long division with j limbs of the quotient still to come. -/
def LongAt (X V : Int) (K j : Nat) (qs rs : List Int) : Prop := qs.length = K ∧ val qs * V + val rs = X ∧ val rs < V * 4294967296 ^ j ∧ ∀ p, p < j → qs[p]?.getD 0 = 0

theorem LongAt.window {X V : Int} {K i m : Nat} {qs rs : List Int} (h : LongAt X V K (i + 1) qs rs) (hr : Lim rs) (hV : V < 4294967296 ^ m) (hl : i + m + 1 ≤ rs.length) :
    val (rs.drop (i + (m + 1))) = 0 ∧ val ((rs.drop i).take (m + 1)) < 4294967296 * V := by
  have hw : ((rs.drop i).take (m + 1)).length = m + 1 := by simp; omega
  have e := val_parts rs ((rs.drop i).take (m + 1)) i (m + 1) hw (by omega)
  rw [patch_self] at e
  have h1 := h.2.2.1
  have t0 := val_nonneg (hr.take i)
  have u0 := val_nonneg ((hr.drop i).take (m + 1))
  have d0 := val_nonneg (hr.drop (i + (m + 1)))
  have hp := p_pos i
  have hq := p_pos (m + 1)
  generalize val ((rs.drop i).take (m + 1)) = U at *
  generalize val (rs.drop (i + (m + 1))) = D at *
  generalize val (rs.take i) = T at *
  rw [Int.pow_succ] at h1
  have a1 : 4294967296 ^ i * (U + 4294967296 ^ (m + 1) * D) < 4294967296 ^ i * (4294967296 * V) := by
    have : V * (4294967296 ^ i * 4294967296) = 4294967296 ^ i * (4294967296 * V) := by
      rw [Int.mul_comm V, Int.mul_assoc]
    omega
  have a2 := Int.lt_of_mul_lt_mul_left a1 (by omega)
  have a3 : 4294967296 * V < 4294967296 ^ (m + 1) := by rw [Int.pow_succ]; omega
  have dz : D = 0 := by
    by_cases hd : D ≤ 0
    · omega
    · have : 4294967296 ^ (m + 1) * 1 ≤ 4294967296 ^ (m + 1) * D := Int.mul_le_mul_of_nonneg_left (by omega) (by omega)
      omega
  rw [dz] at a2
  exact ⟨dz, by simpa using a2⟩

theorem LongAt.step {X V : Int} {K i m : Nat} {qs rs us : List Int} (h : LongAt X V K (i + 1) qs rs) (hr : Lim rs) (hV0 : 0 < V) (hl : i + m + 1 ≤ rs.length) (hi : i < K) (hul : us.length = m + 1)
    (hz : val (rs.drop (i + (m + 1))) = 0) (hu : val us = val ((rs.drop i).take (m + 1)) % V) : LongAt X V K i (qs.set i (val ((rs.drop i).take (m + 1)) / V)) (patch rs us i (m + 1)) := by
  have hw : ((rs.drop i).take (m + 1)).length = m + 1 := by simp; omega
  have e := val_parts rs ((rs.drop i).take (m + 1)) i (m + 1) hw (by omega)
  have e2 := val_parts rs us i (m + 1) hul (by omega)
  rw [patch_self, hz, Int.mul_zero, Int.add_zero] at e
  rw [hz, Int.mul_zero, Int.add_zero] at e2
  obtain ⟨h1, h2, h3, h4⟩ := h
  have hd := Int.mul_ediv_add_emod (val ((rs.drop i).take (m + 1))) V
  have hlt := Int.emod_lt_of_pos (val ((rs.drop i).take (m + 1))) hV0
  have t1 := val_lt (hr.take i)
  rw [List.length_take, Nat.min_eq_left (by omega)] at t1
  refine ⟨by rw [List.length_set]; exact h1, ?_, ?_, fun p hp => ?_⟩
  · rw [val_set (by omega), h4 i (by omega), Int.sub_zero, Int.add_mul, e2, hu, ← h2, e]
    generalize val ((rs.drop i).take (m + 1)) / V = t at *
    generalize val ((rs.drop i).take (m + 1)) % V = r at *
    rw [← hd, Int.mul_add, Int.mul_comm V t, Int.mul_assoc]
    omega
  · rw [e2, hu]
    generalize val ((rs.drop i).take (m + 1)) % V = r at *
    have hp := p_pos i
    have : 4294967296 ^ i * r ≤ 4294967296 ^ i * (V - 1) := Int.mul_le_mul_of_nonneg_left (by omega) (by omega)
    rw [Int.mul_sub, Int.mul_one, Int.mul_comm _ V] at this
    omega
  · rw [get_set_ne (by omega)]
    exact h4 p (by omega)
theorem LongAt.done {X V : Int} {K : Nat} {qs rs : List Int} (h : LongAt X V K 0 qs rs) (hr : 0 ≤ val rs) (hV : 0 < V) : val qs = X / V ∧ val rs = X % V := by
  obtain ⟨_, h2, h3, _⟩ := h
  simp at h3
  have := (Int.ediv_emod_unique (a := X) (b := V) (r := val rs) (q := val qs) hV).2 ⟨by rw [Int.mul_comm]; omega, hr, h3⟩
  exact ⟨this.1.symm, this.2.symm⟩
/-- Both shifted up: the same quotient, and the rest shifted up. -/
theorem shift_div {x y f : Int} (hf : 0 < f) (hy : 0 < y) : x * f / (y * f) = x / y ∧ x * f % (y * f) / f = x % y := by
  have e := Int.mul_ediv_add_emod x y
  have r0 := Int.emod_nonneg x (show y ≠ 0 by omega)
  have r1 := Int.emod_lt_of_pos x hy
  have r2 : x % y * f < y * f := Int.mul_lt_mul_of_pos_right r1 hf
  have key := (Int.ediv_emod_unique (a := x * f) (b := y * f) (r := x % y * f) (q := x / y) (Int.mul_pos hy hf)).2 ⟨by
    rw [Int.mul_comm y f, Int.mul_assoc, Int.mul_comm (x % y), ← Int.mul_add, Int.mul_comm x f, Int.add_comm, e], Int.mul_nonneg r0 (by omega), r2⟩
  refine ⟨key.1, ?_⟩
  rw [key.2, Int.mul_ediv_cancel _ (by omega)]

/-- Another row is written. -/
theorem Own.other {base : Nat} {w : World} {a : Option Addr} {cap : Nat} {xs : List Int} (h : Own base w a cap xs) {p : Addr} (u : Value) (hp : ∀ b off, a = some ⟨b, off, none⟩ → b ≠ p.block) : Own base (w.setCell p u) a cap xs :=
  h.kept (grownBy_setCell (grownBy_refl w (some p.block)) rfl u) (fun b off ha _ e => by simp at e; exact hp b off ha e.symm)

/-- The quotient's row and the rest's. -/
structure Divs (B : Nat) (w : World) (qb rb : Nat) (qs rs : List Int) (N M : Nat) : Prop where
  q : Own B w (some ⟨qb, 0, none⟩) N qs
  r : Own B w (some ⟨rb, 0, none⟩) M rs
  ql : qs.length = N
  rl : rs.length = M
  ne : qb ≠ rb

theorem Divs.cellR {B : Nat} {w : World} {qb rb : Nat} {qs rs : List Int} {N M : Nat} (h : Divs B w qb rb qs rs N M) {j : Nat} (hj : j < M) :
    w.cell? ⟨rb, j, none⟩ = some (.int .u32 (rs[j]?.getD 0)) ∧ w.frozen? ⟨rb, j, none⟩ = false := by
  have hne : rs ≠ [] := by intro e; have := h.rl; rw [e] at this; simp at this; omega
  obtain ⟨b, off, e, hc⟩ := h.r.cells hne
  simp only [Option.some.injEq, Addr.mk.injEq] at e
  obtain ⟨rfl, rfl, _⟩ := e
  have h1 := hc j (by rw [h.rl]; exact hj)
  have h2 := (h.r.new _ _ rfl hne).2 j (by rw [h.rl]; exact hj)
  rw [Nat.zero_add] at h1 h2
  exact ⟨h1, h2⟩
theorem Divs.cellQ {B : Nat} {w : World} {qb rb : Nat} {qs rs : List Int} {N M : Nat} (h : Divs B w qb rb qs rs N M) {j : Nat} (hj : j < N) :
    w.cell? ⟨qb, j, none⟩ = some (.int .u32 (qs[j]?.getD 0)) ∧ w.frozen? ⟨qb, j, none⟩ = false := by
  have hne : qs ≠ [] := by intro e; have := h.ql; rw [e] at this; simp at this; omega
  obtain ⟨b, off, e, hc⟩ := h.q.cells hne
  simp only [Option.some.injEq, Addr.mk.injEq] at e
  obtain ⟨rfl, rfl, _⟩ := e
  have h1 := hc j (by rw [h.ql]; exact hj)
  have h2 := (h.q.new _ _ rfl hne).2 j (by rw [h.ql]; exact hj)
  rw [Nat.zero_add] at h1 h2
  exact ⟨h1, h2⟩
theorem Divs.setR {B : Nat} {w : World} {qb rb : Nat} {qs rs : List Int} {N M : Nat} (h : Divs B w qb rb qs rs N M) {j : Nat} (hj : j < M) {v : Int} (hv : 0 ≤ v ∧ v < 4294967296) :
    Divs B (w.setCell ⟨rb, j, none⟩ (.int .u32 v)) qb rb qs (rs.set j v) N M := by
  have := h.r.store (j := j) rfl (by rw [h.rl]; exact hj) hv
  rw [Nat.zero_add] at this
  exact ⟨h.q.other _ (by intro b off e; simp only [Option.some.injEq, Addr.mk.injEq] at e; rw [← e.1]; exact h.ne), this, h.ql, by rw [List.length_set]; exact h.rl, h.ne⟩
theorem Divs.setQ {B : Nat} {w : World} {qb rb : Nat} {qs rs : List Int} {N M : Nat} (h : Divs B w qb rb qs rs N M) {j : Nat} (hj : j < N) {v : Int} (hv : 0 ≤ v ∧ v < 4294967296) :
    Divs B (w.setCell ⟨qb, j, none⟩ (.int .u32 v)) qb rb (qs.set j v) rs N M := by
  have := h.q.store (j := j) rfl (by rw [h.ql]; exact hj) hv
  rw [Nat.zero_add] at this
  exact ⟨this, h.r.other _ (by intro b off e; simp only [Option.some.injEq, Addr.mk.injEq] at e; rw [← e.1]; exact h.ne.symm), by rw [List.length_set]; exact h.ql, h.rl, h.ne⟩
theorem Divs.drewN {B : Nat} {w : World} {qb rb : Nat} {qs rs : List Int} {N M : Nat} (h : Divs B w qb rb qs rs N M) (n : Nat) : Divs B (w.drewN n) qb rb qs rs N M :=
  ⟨h.q.below ((Below.refl _ _).trans ⟨rfl, rfl, rfl, Nat.le_refl _, fun _ _ => rfl⟩), h.r.below ((Below.refl _ _).trans ⟨rfl, rfl, rfl, Nat.le_refl _, fun _ _ => rfl⟩), h.ql, h.rl, h.ne⟩

theorem Divs.took {B : Nat} {w w' : World} {qb rb : Nat} {qs rs us : List Int} {N M i m c' : Nat} (h : Divs B w qb rb qs rs N M) (hm : i + m ≤ M) (k : Own B w' (some ⟨rb, i, none⟩) c' us) (hl : us.length = m)
    (hs : Wrote w w' (some ⟨rb, i, none⟩) m (some rb)) : Divs B w' qb rb qs (patch rs us i m) N M := by
  refine ⟨h.q.kept hs.1 ?_, ?_, h.ql, ?_, h.ne⟩
  · intro b off e _ e2
    simp only [Option.some.injEq, Addr.mk.injEq] at e e2
    exact h.ne (e.1.trans e2.symm)
  · have := h.r.patch (i := i) (m := m) (w' := w') (us := us) (c' := c') (by rw [h.rl]; exact hm) (by rw [Nat.zero_add]; exact k) hl (by rw [Nat.zero_add]; exact hs.2)
    exact this
  · rw [patch_length hl (by rw [h.rl]; exact hm)]; exact h.rl

/-! ### Lengths of rows -/
theorem top_pos {ys : List Int} {n : Nat} (hl : Lim ys) (hn : Nrm ys) (h : ys.length = n + 1) : 0 < ys[n]?.getD 0 := by
  have h1 := hl.get n
  have h2 : ys[n]?.getD 0 ≠ 0 := by
    have e : ys.getLast? = some (ys[n]?.getD 0) := by
      rw [List.getLast?_eq_getElem?, h, Nat.add_sub_cancel, List.getElem?_eq_getElem (by omega)]
      rfl
    exact last_of_Nrm hn _ e
  omega
theorem len_of_val {vs : List Int} {n : Nat} (hl : Lim vs) (hn : Nrm vs) (h1 : 4294967296 ^ n ≤ val vs) (h2 : val vs < 4294967296 ^ (n + 1)) : vs.length = n + 1 := by
  have hne : vs ≠ [] := by
    rintro rfl
    have := p_pos n
    simp only [val] at h1
    omega
  have a1 := val_lt hl
  have a2 := val_ge hl hn hne
  have hp : 0 < vs.length := List.length_pos_iff.2 hne
  by_cases c1 : vs.length ≤ n
  · have := p_mono vs.length (n - vs.length)
    rw [show vs.length + (n - vs.length) = n by omega] at this
    omega
  · by_cases c2 : n + 2 ≤ vs.length
    · have := p_mono (n + 1) (vs.length - 1 - (n + 1))
      rw [show n + 1 + (vs.length - 1 - (n + 1)) = vs.length - 1 by omega] at this
      omega
    · omega
theorem len_le_of_val {xs zs : List Int} (hx : Lim xs) (hz : Lim zs) (nz : Nrm zs) (h : val zs ≤ val xs) : zs.length ≤ xs.length := by
  by_cases c : zs.length ≤ xs.length
  · exact c
  · have := cmp_len hx hz nz (by omega)
    omega
/-- What is divided by, shifted up until its limb on top is full. -/
theorem by_bounds {ys : List Int} {n : Nat} {f : Int} (hl : Lim ys) (hn : Nrm ys) (h : ys.length = n + 1) (hf : 0 < f) (ht : (ys[n]?.getD 0 + 1) * f ≤ 4294967296) : 4294967296 ^ n * f ≤ val ys * f ∧ 4294967296 ^ n ≤ val ys * f ∧ val ys * f < 4294967296 ^ (n + 1) := by
  have hne : ys ≠ [] := by rintro rfl; simp at h
  have a2 := val_ge hl hn hne
  rw [h, Nat.add_sub_cancel] at a2
  have e := val_take_succ ys n
  rw [List.take_of_length_le (by omega)] at e
  have b1 := val_lt (hl.take n)
  rw [List.length_take, Nat.min_eq_left (by omega)] at b1
  have hp := p_pos n
  have m1 : 4294967296 ^ n * f ≤ val ys * f := Int.mul_le_mul_of_nonneg_right a2 (by omega)
  have m2 : (4294967296 : Int) ^ n * 1 ≤ 4294967296 ^ n * f := Int.mul_le_mul_of_nonneg_left (by omega) (by omega)
  refine ⟨m1, by omega, ?_⟩
  have m3 : val ys < 4294967296 ^ n * (ys[n]?.getD 0 + 1) := by rw [Int.mul_add, Int.mul_one]; omega
  have m4 : val ys * f < 4294967296 ^ n * (ys[n]?.getD 0 + 1) * f := Int.mul_lt_mul_of_pos_right m3 hf
  rw [Int.mul_assoc] at m4
  have m5 : (4294967296 : Int) ^ n * ((ys[n]?.getD 0 + 1) * f) ≤ 4294967296 ^ n * 4294967296 := Int.mul_le_mul_of_nonneg_left ht (by omega)
  rw [Int.pow_succ]
  omega
theorem LongAt.start {xs rs vs : List Int} {V f : Int} {n K : Nat} (hx : Lim xs) (hK : K + n = xs.length) (hr : val rs = val xs * f) (hf : 0 < f) (hV : 4294967296 ^ n * f ≤ V) (hv : val vs = V) : LongAt (val xs * f) (val vs) K K (List.replicate K 0) rs := by
  refine ⟨by simp, by rw [val_zeros, hr]; omega, ?_, fun p hp => ?_⟩
  · rw [hr, hv]
    have h1 := val_lt hx
    have h2 : val xs * f < 4294967296 ^ xs.length * f := Int.mul_lt_mul_of_pos_right h1 hf
    have h3 : 4294967296 ^ n * f * 4294967296 ^ K ≤ V * 4294967296 ^ K := Int.mul_le_mul_of_nonneg_right hV (by have := p_pos K; omega)
    have h4 : (4294967296 : Int) ^ n * f * 4294967296 ^ K = 4294967296 ^ xs.length * f := by
      rw [← hK, Int.pow_add, Int.mul_assoc, Int.mul_comm f, ← Int.mul_assoc, Int.mul_comm (4294967296 ^ n)]
    omega
  · rw [List.getElem?_replicate]
    split <;> rfl
end Go.Proofs.Ytnefdfgonolafaa
