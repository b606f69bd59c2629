/- Whether a tree is right, of the specification: l15Look, TreeOk. -/
import Derived.Test.YthompofbdjdloaaGreatTrK
import Derived.Laws.StructEq
namespace Go.Proofs.YthompofbdjdloaaGreat
open Go.RowKit

def okX (x : Bx) : Bool := boxOk x.1 x.2.1 x.2.2.1 x.2.2.2
def allOk (bs : List Bx) : Nat → Bool
  | 0 => true
  | j + 1 => allOk bs j && okX (bxAt bs j)
/-- A leaf is as it must be, but for its boxes. -/
def leafB (top : Bool) (b : Bx) (bs : List Bx) (is : List Int) : Bool := decide (bs.length = is.length) && (decide (is.length ≤ 4) && ((!decide (is.length = 0) || top) && decide (b = jnS bs)))
/-- An inner node is as it must be, but for its kids. -/
def innB (b : Bx) (bs : List Bx) (is : List Int) (ks : List Nd) : Bool := decide (ks.length ≤ 4) && (decide (bs.length = 0) && (decide (is.length = 0) && decide (b = jnS (ks.map Nd.b))))
/-- The depth and the number of the first kids, of their own depths and numbers. -/
def lkU (rs : List (Nat × Nat)) : Nat → Option (Nat × Nat)
  | 0 => some (0, 0)
  | j + 1 => match lkU rs j with
    | none => none
    | some p => if (rs[j]?.getD (0, 0)).1 = 0 ∨ (0 < j ∧ (rs[j]?.getD (0, 0)).1 ≠ p.1) then none else some ((rs[j]?.getD (0, 0)).1, p.2 + (rs[j]?.getD (0, 0)).2)
def lkO : Option (Nat × Nat) → Nat × Nat
  | none => (0, 0)
  | some p => (p.1 + 1, p.2)
/-- A tree's depth and how many numbers it has; depth 0: it is not right. -/
def lk : Nd → Bool → Nat × Nat
  | .mk b bs is ks, top => if ks.length = 0 then (if leafB top b bs is && allOk bs bs.length then (1, is.length) else (0, 0)) else if innB b bs is ks then lkO (lkU (lks ks) ks.length) else (0, 0)
where lks : List Nd → List (Nat × Nat)
  | [] => []
  | k :: ks => lk k false :: lks ks
theorem lks_at : ∀ (ks : List Nd) (i : Nat), i < ks.length → (lk.lks ks)[i]?.getD (0, 0) = lk (ndA ks i) false
  | [], i, h => absurd h (by simp)
  | k :: ks, 0, _ => by simp [lk.lks, ndA]
  | k :: ks, i + 1, h => by
    have := lks_at ks i (by simpa using h)
    have e : ndA (k :: ks) (i + 1) = ndA ks i := by simp [ndA]
    rw [e, ← this]
    simp [lk.lks]

set_option maxRecDepth 20000 in
theorem neqBx (x1 x2 x3 x4 y1 y2 y3 y4 : Int) (w : World) : (binOp .neq 28 (.agg #[.int .i64 x1, .int .i64 x2, .int .i64 x3, .int .i64 x4]) (.agg #[.int .i64 y1, .int .i64 y2, .int .i64 y3, .int .i64 y4])).run Tryz.prog w = .ok (.bool (!decide ((x1, x2, x3, x4) = (y1, y2, y3, y4)))) w := by
  have e : decide ((x1, x2, x3, x4) = (y1, y2, y3, y4)) = ((x1 == y1) && ((x2 == y2) && ((x3 == y3) && (x4 == y4)))) := by
    rw [Bool.eq_iff_iff]
    simp
  rw [e]
  cases e1 : (x1 == y1)
  · go_simp
  · cases e2 : (x2 == y2)
    · go_simp
    · cases e3 : (x3 == y3)
      · go_simp
      · cases e4 : (x4 == y4)
        · go_simp
        · go_simp
theorem l15Join_len {m : Nat} (a : Option Addr) (c : Nat) (bs : List Bx) (w : World) (h : SeesX w a c bs) (hm : m = bs.length) :
    Calls Tryz.prog 86 #[.slice a m c] w fun e w' => e = .returned (bxV (jnS bs)) ∧ Below w.heap.size w w' := by
  subst hm
  exact l15Join_any a c bs w h
theorem lkU_step {rs : List (Nat × Nat)} {j : Nat} {p : Nat × Nat} (h : lkU rs j = some p) : lkU rs (j + 1) = if (rs[j]?.getD (0, 0)).1 = 0 ∨ (0 < j ∧ (rs[j]?.getD (0, 0)).1 ≠ p.1) then none else some ((rs[j]?.getD (0, 0)).1, p.2 + (rs[j]?.getD (0, 0)).2) := by
  simp only [lkU, h]
theorem lkU_gone {rs : List (Nat × Nat)} {j : Nat} (h : lkU rs j = none) : ∀ m, j ≤ m → lkU rs m = none := by
  intro m hm
  induction m with
  | zero => obtain rfl : j = 0 := by omega
            exact h
  | succ m ih =>
    rcases Nat.lt_or_ge m j with c | c
    · obtain rfl : j = m + 1 := by omega
      exact h
    · simp only [lkU, ih c]
theorem allOk_no {bs : List Bx} {j : Nat} (h : allOk bs j = false) : ∀ m, j ≤ m → allOk bs m = false := by
  intro m hm
  induction m with
  | zero => obtain rfl : j = 0 := by omega
            exact h
  | succ m ih =>
    rcases Nat.lt_or_ge m j with c | c
    · obtain rfl : j = m + 1 := by omega
      exact h
    · simp only [allOk, ih c, Bool.false_and]
/-- Neither is greater than the tree. -/
theorem lk_le : ∀ t top, (lk t top).1 ≤ ndSz t + 1 ∧ (lk t top).2 ≤ ndSz t := by
  refine Nd.ind (P := fun t => ∀ top, (lk t top).1 ≤ ndSz t + 1 ∧ (lk t top).2 ≤ ndSz t) ?_
  intro b bs is ks ih top
  have key : ∀ j, j ≤ ks.length → ∀ p, lkU (lk.lks ks) j = some p → p.1 ≤ ndSz.ndsSz (ks.take j) + 1 ∧ p.2 ≤ ndSz.ndsSz (ks.take j) := by
    intro j
    induction j with
    | zero =>
      intro _ p hp
      simp only [lkU, Option.some.injEq] at hp
      subst hp
      exact ⟨Nat.zero_le _, Nat.zero_le _⟩
    | succ j ihj =>
      intro hj p hp
      cases hq : lkU (lk.lks ks) j with
      | none => simp only [lkU, hq] at hp; cases hp
      | some q =>
        rw [lkU_step hq] at hp
        split at hp
        · cases hp
        · injection hp with hp
          subst hp
          have h1 := ihj (by omega) q hq
          have h2 := ih (ndA ks j) (ndA_mem (by omega)) false
          rw [lks_at ks j (by omega), ndsSz_at (by omega)]
          dsimp only
          omega
  simp only [lk, ndSz]
  split
  · split
    · dsimp only; omega
    · dsimp only; omega
  · split
    · cases h : lkU (lk.lks ks) ks.length with
      | none => simp only [lkO]; omega
      | some p =>
        have := key ks.length (Nat.le_refl _) p h
        rw [List.take_length] at this
        simp only [lkO]
        omega
    · dsimp only; omega
theorem ndsSz_memQ {k : Nd} : ∀ {ks : List Nd}, k ∈ ks → ndSz k ≤ ndSz.ndsSz ks
  | [], h => by cases h
  | q :: ks, h => by
    simp only [ndSz.ndsSz]
    rcases List.mem_cons.1 h with rfl | h
    · omega
    · have := ndsSz_memQ h
      omega
theorem lkU_bd {ks : List Nd} {m : Nat} (hz : m + ndSz.ndsSz ks ≤ 1048576) {j : Nat} {p : Nat × Nat} (hj : j ≤ ks.length) (hp : lkU (lk.lks ks) j = some p) : p.1 ≤ 1048577 ∧ p.2 ≤ 1048576 := by
  have key : ∀ j, j ≤ ks.length → ∀ p, lkU (lk.lks ks) j = some p → p.1 ≤ ndSz.ndsSz (ks.take j) + 1 ∧ p.2 ≤ ndSz.ndsSz (ks.take j) := by
    intro j
    induction j with
    | zero =>
      intro _ p hp
      simp only [lkU, Option.some.injEq] at hp
      subst hp
      exact ⟨Nat.zero_le _, Nat.zero_le _⟩
    | succ j ihj =>
      intro hj p hp
      cases hq : lkU (lk.lks ks) j with
      | none => simp only [lkU, hq] at hp; cases hp
      | some q =>
        rw [lkU_step hq] at hp
        split at hp
        · cases hp
        · injection hp with hp
          subst hp
          have h1 := ihj (by omega) q hq
          have h2 := lk_le (ndA ks j) false
          rw [lks_at ks j (by omega), ndsSz_at (by omega)]
          dsimp only
          omega
  have h1 := key j hj p hp
  have h2 : ∀ i, ndSz.ndsSz (ks.take i) ≤ ndSz.ndsSz ks := fun i => by
    have : ∀ (l : List Nd) (i : Nat), ndSz.ndsSz (l.take i) ≤ ndSz.ndsSz l := by
      intro l
      induction l with
      | nil => intro i; simp
      | cons q l ih =>
        intro i
        cases i with
        | zero => simp [ndSz.ndsSz]
        | succ i =>
          simp only [List.take_succ_cons, ndSz.ndsSz]
          have := ih i
          omega
    exact this ks i
  have := h2 j
  omega
end Go.Proofs.YthompofbdjdloaaGreat
