import Derived.WalkKit
import Derived.ProofKit
import Derived.Deep.Draws
import Derived.Test.YtecjeomcbcpfiaaGreatPtG
import Derived.Test.YtecjeomcbcpfiaaGreatProg
import Derived.Deep.RegionHeld3
/- Limbs and their number; what a slice of limbs reads in memory. No program is named here. -/
namespace Go.Proofs.YtecjeomcbcpfiaaGreat
open Go.RowKit

/-- A number of its limbs, the lowest first. -/
def val : List Int → Int
  | [] => 0
  | x :: r => x + 4294967296 * val r

/-- Each is a limb. -/
def Lim (xs : List Int) : Prop := ∀ x ∈ xs, 0 ≤ x ∧ x < 4294967296

/-- The highest limb, if there is one, is not 0. -/
def Nrm : List Int → Prop
  | [] => True
  | [x] => x ≠ 0
  | _ :: y :: r => Nrm (y :: r)

theorem Lim.nil : Lim [] := by intro x h; cases h
theorem Lim.cons {x : Int} {r : List Int} (h : Lim (x :: r)) : (0 ≤ x ∧ x < 4294967296) ∧ Lim r :=
  ⟨h x (List.mem_cons_self), fun y hy => h y (List.mem_cons_of_mem _ hy)⟩
theorem Lim.mk {x : Int} {r : List Int} (h : 0 ≤ x ∧ x < 4294967296) (hr : Lim r) : Lim (x :: r) := by
  intro y hy
  rcases List.mem_cons.1 hy with rfl | hy
  · exact h
  · exact hr y hy

theorem val_nonneg : ∀ {xs : List Int}, Lim xs → 0 ≤ val xs
  | [], _ => by simp [val]
  | x :: r, h => by
    obtain ⟨hx, hr⟩ := h.cons
    have := val_nonneg hr
    simp only [val]; omega

theorem val_lt : ∀ {xs : List Int}, Lim xs → val xs < 4294967296 ^ xs.length
  | [], _ => by simp [val]
  | x :: r, h => by
    obtain ⟨hx, hr⟩ := h.cons
    have := val_lt hr
    simp only [val, List.length_cons, Int.pow_succ]
    omega

theorem val_pos : ∀ {xs : List Int}, Lim xs → Nrm xs → xs ≠ [] → 0 < val xs
  | [], _, _, h => absurd rfl h
  | [x], h, hn, _ => by
    obtain ⟨hx, _⟩ := h.cons
    simp only [Nrm] at hn
    simp only [val]; omega
  | x :: y :: r, h, hn, _ => by
    obtain ⟨hx, hr⟩ := h.cons
    have := val_pos hr hn (by simp)
    simp only [val] at this ⊢; omega

theorem val_inj : ∀ {xs ys : List Int}, Lim xs → Lim ys → Nrm xs → Nrm ys → val xs = val ys → xs = ys
  | [], [], _, _, _, _, _ => rfl
  | [], y :: s, _, h, _, hn, e => by
    have := val_pos h hn (by simp); simp only [val] at this e; omega
  | x :: r, [], h, _, hn, _, e => by
    have := val_pos h hn (by simp); simp only [val] at this e; omega
  | x :: r, y :: s, hx, hy, nx, ny, e => by
    obtain ⟨bx, lr⟩ := hx.cons
    obtain ⟨by', ls⟩ := hy.cons
    simp only [val] at e
    have e1 : x = y := by omega
    have e2 : val r = val s := by omega
    have nr : Nrm r := by cases r <;> simp_all [Nrm]
    have ns : Nrm s := by cases s <;> simp_all [Nrm]
    rw [e1, val_inj lr ls nr ns e2]

theorem val_append (xs ys : List Int) : val (xs ++ ys) = val xs + 4294967296 ^ xs.length * val ys := by
  induction xs with
  | nil => simp [val]
  | cons x r ih =>
    simp only [List.cons_append, val, ih, List.length_cons, Int.pow_succ]
    rw [Int.mul_add, ← Int.mul_assoc, Int.mul_comm 4294967296 (4294967296 ^ r.length), Int.add_assoc]

theorem Lim.take {xs : List Int} (h : Lim xs) (n : Nat) : Lim (xs.take n) := fun x hx => h x (List.mem_of_mem_take hx)
theorem Lim.append {xs ys : List Int} (h : Lim xs) (k : Lim ys) : Lim (xs ++ ys) := by
  intro x hx
  rcases List.mem_append.1 hx with hx | hx
  · exact h x hx
  · exact k x hx
theorem Lim.get {xs : List Int} (h : Lim xs) (i : Nat) : 0 ≤ xs[i]?.getD 0 ∧ xs[i]?.getD 0 < 4294967296 := by
  cases e : xs[i]? with
  | none => simp
  | some x => simpa using h x (List.mem_of_getElem? e)

/-- The limbs below the noughts on top. -/
theorem Nrm_of_last : ∀ {xs : List Int}, (∀ x, xs.getLast? = some x → x ≠ 0) → Nrm xs
  | [], _ => trivial
  | [x], h => h x (by simp)
  | x :: y :: r, h => Nrm_of_last (xs := y :: r) (fun z hz => h z (by simpa using hz))

theorem last_of_Nrm : ∀ {xs : List Int}, Nrm xs → ∀ x, xs.getLast? = some x → x ≠ 0
  | [], _, x, h => by simp at h
  | [y], hn, x, h => by simp only [List.getLast?_singleton, Option.some.injEq] at h; subst h; exact hn
  | _ :: y :: r, hn, x, h => last_of_Nrm (xs := y :: r) hn x (by simpa using h)

/-- Noughts on top do not count. -/
theorem val_take_zeros (xs : List Int) (n : Nat) (h : ∀ i, n ≤ i → xs[i]?.getD 0 = 0) : val (xs.take n) = val xs := by
  induction xs generalizing n with
  | nil => simp
  | cons x r ih =>
    cases n with
    | zero =>
      have hx : x = 0 := by simpa using h 0 (Nat.le_refl _)
      have := ih 0 (fun i hi => by simpa using h (i + 1) (by omega))
      simp only [List.take_zero, val] at this ⊢; omega
    | succ n =>
      have := ih n (fun i hi => by simpa using h (i + 1) (by omega))
      simp only [List.take_succ_cons, val, this]

/-! ### Memory -/

/-- A slice (its address, its capacity) that came in, whose elements read as the limbs xs. -/
structure Came (w : World) (a : Option Addr) (cap : Nat) (xs : List Int) : Prop where
  lim : Lim xs
  fits : xs.length ≤ cap
  max : cap ≤ maxLen
  cells : xs ≠ [] → ∃ b off, a = some ⟨b, off, none⟩ ∧ ∀ i, i < xs.length → w.cell? ⟨b, off + i, none⟩ = some (.int .u32 (xs[i]?.getD 0))

/-- .. and is nil without room, or leads to a plain place. -/
structure Sees (w : World) (a : Option Addr) (cap : Nat) (xs : List Int) : Prop extends Came w a cap xs where
  shape : (a = none ∧ cap = 0) ∨ ∃ b off, a = some ⟨b, off, none⟩

/-- .. that lies from block 'base' on, and may be written. -/
structure Own (base : Nat) (w : World) (a : Option Addr) (cap : Nat) (xs : List Int) : Prop extends Sees w a cap xs where
  new : ∀ b off, a = some ⟨b, off, none⟩ → xs ≠ [] → base ≤ b ∧ ∀ i, i < xs.length → w.frozen? ⟨b, off + i, none⟩ = false

theorem Came.below {w w' : World} {a : Option Addr} {cap : Nat} {xs : List Int} (h : Came w a cap xs) (hb : Below w.heap.size w w') : Came w' a cap xs := by
  refine ⟨h.lim, h.fits, h.max, fun hne => ?_⟩
  obtain ⟨b, off, ha, hc⟩ := h.cells hne
  exact ⟨b, off, ha, fun i hi => (hb.cell (World.block_lt_of_cell? _ _ (hc i hi))).trans (hc i hi)⟩
theorem Sees.below {w w' : World} {a : Option Addr} {cap : Nat} {xs : List Int} (h : Sees w a cap xs) (hb : Below w.heap.size w w') : Sees w' a cap xs := ⟨h.toCame.below hb, h.shape⟩

theorem Own.below {base : Nat} {w w' : World} {a : Option Addr} {cap : Nat} {xs : List Int} (h : Own base w a cap xs) (hb : Below w.heap.size w w') : Own base w' a cap xs := by
  refine ⟨h.toSees.below hb, fun b off ha hne => ?_⟩
  obtain ⟨h1, h2⟩ := h.new b off ha hne
  obtain ⟨b', off', ha', hc⟩ := h.cells hne
  rw [ha] at ha'
  simp only [Option.some.injEq, Addr.mk.injEq] at ha'
  obtain ⟨rfl, rfl, _⟩ := ha'
  exact ⟨h1, fun i hi => (hb.frozen (p := ⟨b, off + i, none⟩) (World.block_lt_of_cell? _ _ (hc i hi))).trans (h2 i hi)⟩

theorem Own.base_le {base base' : Nat} {w : World} {a : Option Addr} {cap : Nat} {xs : List Int} (h : Own base w a cap xs) (hb : base' ≤ base) : Own base' w a cap xs :=
  ⟨h.toSees, fun b off ha hne => ⟨Nat.le_trans hb (h.new b off ha hne).1, (h.new b off ha hne).2⟩⟩

/-! ### Writing into one row -/

/-- The block in which a slice's elements lie, if it has any. -/
def rowOf (a : Option Addr) (xs : List Int) : Option Nat := if xs = [] then none else a.map (·.block)

theorem grownBy_refl (w : World) (row : Option Nat) : w.grownBy w row := ⟨rfl, rfl, rfl, Nat.le_refl _, fun _ _ _ => rfl⟩
theorem grownBy_trans {a b c : World} {row : Option Nat} (h : a.grownBy b row) (k : b.grownBy c row) : a.grownBy c row :=
  ⟨k.os.trans h.os, k.tape.trans h.tape, k.output.trans h.output, Nat.le_trans h.size k.size,
    fun i hi hr => (k.block i (Nat.lt_of_lt_of_le hi h.size) hr).trans (h.block i hi hr)⟩
theorem grownBy_setCell {a w : World} {row : Option Nat} (h : a.grownBy w row) {p : Addr} (hp : row = some p.block) (u : Value) : a.grownBy (w.setCell p u) row :=
  grownBy_trans h ⟨rfl, rfl, rfl, by simp, fun k _ hr => Below.heap_setCell _ _ _ _ (fun e => hr (by rw [hp, e]))⟩
theorem grownBy_drewN {a w : World} {row : Option Nat} (h : a.grownBy w row) (n : Nat) : a.grownBy (w.drewN n) row :=
  grownBy_trans h ⟨rfl, rfl, rfl, Nat.le_refl _, fun _ _ _ => rfl⟩

theorem Came.kept {w w' : World} {a : Option Addr} {cap : Nat} {xs : List Int} {row : Option Nat} (h : Came w a cap xs) (hg : w.grownBy w' row)
    (hne : ∀ b off, a = some ⟨b, off, none⟩ → xs ≠ [] → row ≠ some b) : Came w' a cap xs := by
  refine ⟨h.lim, h.fits, h.max, fun hn => ?_⟩
  obtain ⟨b, off, ha, hc⟩ := h.cells hn
  refine ⟨b, off, ha, fun i hi => ?_⟩
  exact (World.cell?_of_block (hg.block b (World.block_lt_of_cell? _ _ (hc i hi)) (fun e => hne b off ha hn e.symm))).trans (hc i hi)

theorem Sees.kept {w w' : World} {a : Option Addr} {cap : Nat} {xs : List Int} {row : Option Nat} (h : Sees w a cap xs) (hg : w.grownBy w' row)
    (hne : ∀ b off, a = some ⟨b, off, none⟩ → xs ≠ [] → row ≠ some b) : Sees w' a cap xs := ⟨h.toCame.kept hg hne, h.shape⟩

theorem Own.kept {base : Nat} {w w' : World} {a : Option Addr} {cap : Nat} {xs : List Int} {row : Option Nat} (h : Own base w a cap xs) (hg : w.grownBy w' row)
    (hne : ∀ b off, a = some ⟨b, off, none⟩ → xs ≠ [] → row ≠ some b) : Own base w' a cap xs := by
  refine ⟨h.toSees.kept hg hne, fun b off ha hn => ?_⟩
  obtain ⟨h1, h2⟩ := h.new b off ha hn
  obtain ⟨b', off', ha', hc⟩ := h.cells hn
  rw [ha] at ha'
  simp only [Option.some.injEq, Addr.mk.injEq] at ha'
  obtain ⟨rfl, rfl, _⟩ := ha'
  exact ⟨h1, fun i hi => (World.frozen?_of_block (a := ⟨b, off + i, none⟩) (hg.block b (World.block_lt_of_cell? _ _ (hc i hi)) (fun e => hne b off ha hn e.symm))).trans (h2 i hi)⟩

theorem Came.lt {w : World} {a : Option Addr} {cap : Nat} {xs : List Int} (h : Came w a cap xs) {b off : Nat} (ha : a = some ⟨b, off, none⟩) (hn : xs ≠ []) : b < w.heap.size := by
  obtain ⟨b', off', ha', hc⟩ := h.cells hn
  rw [ha] at ha'
  simp only [Option.some.injEq, Addr.mk.injEq] at ha'
  obtain ⟨rfl, rfl, _⟩ := ha'
  have hp : 0 < xs.length := List.length_pos_iff.2 hn
  exact World.block_lt_of_cell? _ _ (hc 0 hp)

/-- What lay there before does not lie in a row that came later. -/
theorem apart_later {w w2 : World} {a a2 : Option Addr} {c c2 : Nat} {xs xs2 : List Int} (h : Came w a c xs) (k : Own w.heap.size w2 a2 c2 xs2) :
    ∀ b off, a = some ⟨b, off, none⟩ → xs ≠ [] → rowOf a2 xs2 ≠ some b := by
  intro b off ha hn e
  have hlt := h.lt ha hn
  unfold rowOf at e
  split at e
  · cases e
  · next hn2 =>
    obtain ⟨b2, off2, ha2, _⟩ := k.cells hn2
    have := (k.new b2 off2 ha2 hn2).1
    rw [ha2] at e
    simp at e
    omega
/-- .. nor what came later in a row that lay there before. -/
theorem apart_before {w w2 : World} {a a2 : Option Addr} {c c2 : Nat} {xs xs2 : List Int} (h : Came w a c xs) (k : Own w.heap.size w2 a2 c2 xs2) :
    ∀ b off, a2 = some ⟨b, off, none⟩ → xs2 ≠ [] → rowOf a xs ≠ some b := by
  intro b off ha hn e
  have h1 := (k.new b off ha hn).1
  unfold rowOf at e
  split at e
  · cases e
  · next hn2 =>
    obtain ⟨b2, off2, ha2, _⟩ := h.cells hn2
    have := h.lt ha2 hn2
    rw [ha2] at e
    simp at e
    omega

theorem below_of_grown {base : Nat} {w w' : World} {a : Option Addr} {c : Nat} {xs : List Int} (k : Own base w a c xs) (hg : w.grownBy w' (rowOf a xs)) (hb : base ≤ w.heap.size) : Below base w w' := by
  refine ⟨hg.os, hg.tape, hg.output, hg.size, fun i hi => ?_⟩
  refine hg.block i (by omega) (fun e => ?_)
  unfold rowOf at e
  split at e
  · cases e
  · next hn =>
    obtain ⟨b2, off2, ha2, _⟩ := k.cells hn
    have := (k.new b2 off2 ha2 hn).1
    rw [ha2] at e
    simp at e
    omega

theorem Own.store {base : Nat} {w : World} {a : Option Addr} {cap : Nat} {xs : List Int} (h : Own base w a cap xs) {b off j : Nat} (ha : a = some ⟨b, off, none⟩) (hj : j < xs.length)
    {v : Int} (hv : 0 ≤ v ∧ v < 4294967296) : Own base (w.setCell ⟨b, off + j, none⟩ (.int .u32 v)) a cap (xs.set j v) := by
  have hn : xs ≠ [] := by intro e; simp [e] at hj
  obtain ⟨b', off', ha', hc⟩ := h.cells hn
  have hnew := h.new b off ha hn
  rw [ha] at ha'
  simp only [Option.some.injEq, Addr.mk.injEq] at ha'
  obtain ⟨rfl, rfl, _⟩ := ha'
  refine ⟨⟨⟨?_, by simpa using h.fits, h.max, fun _ => ⟨b, off, ha, fun i hi => ?_⟩⟩, h.shape⟩, fun b1 off1 ha1 _ => ?_⟩
  · intro x hx
    rcases List.mem_or_eq_of_mem_set hx with hx | rfl
    · exact h.lim x hx
    · exact hv
  · rw [List.length_set] at hi
    by_cases e : j = i
    · subst e
      rw [World.cell?_setCell_same _ _ _ (hc j hj)]
      simp [hj]
    · rw [World.cell?_setCell_other _ _ _ _ (by simp), hc i hi]
      simp [List.getElem?_set_ne e]
  · rw [ha] at ha1
    simp only [Option.some.injEq, Addr.mk.injEq] at ha1
    obtain ⟨rfl, rfl, _⟩ := ha1
    exact ⟨hnew.1, fun i hi => by rw [World.frozen?_setCell]; exact hnew.2 i (by simpa using hi)⟩

theorem Own.setCell {base : Nat} {w : World} {a : Option Addr} {cap : Nat} {xs : List Int} (h : Own base w a cap xs) {p : Addr} (hp : p.block < base) (u : Value) : Own base (w.setCell p u) a cap xs :=
  h.kept (grownBy_setCell (grownBy_refl w (some p.block)) rfl u) (fun b off ha hn e => by have := (h.new b off ha hn).1; simp at e; omega)

/-! ### Writing into a part of a row -/
/-- Of the block where a slice of n limbs lies, what is not in the slice is as it was. -/
def Still (w w' : World) (a : Option Addr) (n : Nat) : Prop := ∀ b off, a = some ⟨b, off, none⟩ → ∀ j, (j < off ∨ off + n ≤ j) → w'.cell? ⟨b, j, none⟩ = w.cell? ⟨b, j, none⟩ ∧ w'.frozen? ⟨b, j, none⟩ = w.frozen? ⟨b, j, none⟩
/-- Nothing but the slice was written. -/
def Wrote (w w' : World) (a : Option Addr) (n : Nat) (row : Option Nat) : Prop := w.grownBy w' row ∧ Still w w' a n
theorem Wrote.refl (w : World) (a : Option Addr) (n : Nat) (row : Option Nat) : Wrote w w a n row := ⟨grownBy_refl _ _, fun _ _ _ _ _ => ⟨rfl, rfl⟩⟩
theorem Wrote.trans {w w1 w2 : World} {a : Option Addr} {n : Nat} {row : Option Nat} (h : Wrote w w1 a n row) (k : Wrote w1 w2 a n row) : Wrote w w2 a n row :=
  ⟨grownBy_trans h.1 k.1, fun b off ha j hj => ⟨(k.2 b off ha j hj).1.trans (h.2 b off ha j hj).1, (k.2 b off ha j hj).2.trans (h.2 b off ha j hj).2⟩⟩
theorem Wrote.setCell {w w1 : World} {b off n : Nat} {row : Option Nat} (h : Wrote w w1 (some ⟨b, off, none⟩) n row) {j : Nat} (hr : row = some b) (hj : j < n) (u : Value) : Wrote w (w1.setCell ⟨b, off + j, none⟩ u) (some ⟨b, off, none⟩) n row := by
  refine ⟨grownBy_setCell h.1 hr u, fun b1 off1 ha i hi => ?_⟩
  have ha' := ha
  simp only [Option.some.injEq, Addr.mk.injEq] at ha'
  obtain ⟨rfl, rfl, _⟩ := ha'
  have hne : off + j ≠ i := by omega
  exact ⟨(World.cell?_setCell_other _ _ _ _ (by simp)).trans (h.2 _ _ ha i hi).1, (World.frozen?_setCell ..).trans (h.2 _ _ ha i hi).2⟩
theorem Wrote.drewN {w w1 : World} {a : Option Addr} {n : Nat} {row : Option Nat} (h : Wrote w w1 a n row) (m : Nat) : Wrote w (w1.drewN m) a n row :=
  ⟨grownBy_drewN h.1 m, fun b off ha j hj => h.2 b off ha j hj⟩

/-! ### Blocks of a call's own -/
theorem below1 (w : World) (o1 : Obj) : Below w.heap.size w (w.alloc o1) := (Below.refl _ _).alloc (Nat.le_refl _) _
theorem below2 (w : World) (o1 o2 : Obj) : Below w.heap.size w ((w.alloc o1).alloc o2) := (below1 w o1).alloc (by simp) _
theorem below3 (w : World) (o1 o2 o3 : Obj) : Below w.heap.size w (((w.alloc o1).alloc o2).alloc o3) := (below2 w o1 o2).alloc (by simp; omega) _
theorem below4 (w : World) (o1 o2 o3 o4 : Obj) : Below w.heap.size w ((((w.alloc o1).alloc o2).alloc o3).alloc o4) := (below3 w o1 o2 o3).alloc (by simp; omega) _
theorem below5 (w : World) (o1 o2 o3 o4 o5 : Obj) : Below w.heap.size w (((((w.alloc o1).alloc o2).alloc o3).alloc o4).alloc o5) := (below4 w o1 o2 o3 o4).alloc (by simp; omega) _
theorem bcell {W w1 : World} (hb : Below W.heap.size W w1) : (∀ b o, b < W.heap.size → w1.cell? ⟨b, o, none⟩ = W.cell? ⟨b, o, none⟩) ∧ (∀ b o, b < W.heap.size → w1.frozen? ⟨b, o, none⟩ = W.frozen? ⟨b, o, none⟩) :=
  ⟨fun b o h => hb.cell (p := ⟨b, o, none⟩) h, fun b o h => hb.frozen (p := ⟨b, o, none⟩) h⟩

theorem at_block {W w1 : World} (hb : Below W.heap.size W w1) {b : Nat} (h : b < W.heap.size) : (∀ o, w1.cell? ⟨b, o, none⟩ = W.cell? ⟨b, o, none⟩) ∧ (∀ o, w1.frozen? ⟨b, o, none⟩ = W.frozen? ⟨b, o, none⟩) :=
  ⟨fun o => hb.cell (p := ⟨b, o, none⟩) h, fun o => hb.frozen (p := ⟨b, o, none⟩) h⟩
theorem bat {W W' : World} (hb : Below W.heap.size W W') {p : Addr} {v : Value} (h : W.cell? p = some v) : W'.cell? p = some v := (hb.cell (World.block_lt_of_cell? _ _ h)).trans h
theorem cell_new (w : World) (c : Array Value) (t : TypeId) (i : Nat) {v : Value} (h : c[i]? = some v) : (w.alloc (.cells c t)).cell? ⟨w.heap.size, i, none⟩ = some v := by
  simp only [World.cell?, heap_alloc_new]
  exact h

/-! ### Marks -/
def marks (k : Int) : Nat → List Int
  | 0 => []
  | n + 1 => k :: marks (k + 1) n
theorem marks_length (k : Int) (n : Nat) : (marks k n).length = n := by
  induction n generalizing k with
  | zero => rfl
  | succ n ih => simp [marks, ih]
theorem marks_get (k : Int) (n j : Nat) (h : j < n) : (marks k n)[j]?.getD 0 = k + j := by
  induction n generalizing k j with
  | zero => omega
  | succ n ih =>
    cases j with
    | zero => simp [marks]
    | succ j =>
      have := ih (k + 1) j (by omega)
      simp only [marks, List.getElem?_cons_succ, this]
      omega
theorem marks_snoc (k : Int) (n : Nat) : marks k n ++ [k + n] = marks k (n + 1) := by
  induction n generalizing k with
  | zero => simp [marks]
  | succ n ih =>
    have := ih (k + 1)
    simp only [marks, List.cons_append] at this ⊢
    rw [← this]
    congr 3
    omega
theorem marks_step (k : Int) (xs : List Int) (j : Nat) (h : j < xs.length) : (marks k j ++ xs.drop j).set j (k + j) = marks k (j + 1) ++ xs.drop (j + 1) := by
  rw [List.set_append, if_neg (by rw [marks_length]; omega), marks_length, Nat.sub_self, ← marks_snoc, List.append_assoc]
  congr 1
  rw [List.drop_eq_getElem_cons h, List.set_cons_zero]
  rfl

/-! ### Rows that were made -/
theorem Own.of_row {w : World} {base e g n cap : Nat} {xs : List Int} (h : w.ownsRow base e 1 (.slice (some ⟨g, 0, none⟩) n cap) n (xs.map (Value.int .u32))) (hl : Lim xs) : Own base w (some ⟨g, 0, none⟩) cap xs ∧ n = xs.length := by
  obtain ⟨h1, h2⟩ := h
  have hn : n = xs.length := by simpa using h1.symm
  refine ⟨?_, hn⟩
  rcases h2 with ⟨h2, _⟩ | ⟨g', cap', cur, hv, hb, hh, hc, hm, hs, ht⟩
  · cases h2
  simp only [Value.slice.injEq, Option.some.injEq, Addr.mk.injEq, and_true] at hv
  obtain ⟨rfl, _, rfl⟩ := hv
  refine ⟨⟨⟨hl, by omega, hm, fun _ => ⟨g, 0, rfl, fun i hi => ?_⟩⟩, .inr ⟨g, 0, rfl⟩⟩, fun b off ha _ => ?_⟩
  · rw [cell_of_row w g (0 + i) cur e (0, 0) hh]
    have : (cur.toList.take (n * 1))[i]? = (xs.map (Value.int .u32))[i]? := by rw [ht]
    rw [List.getElem?_take, if_pos (by omega), List.getElem?_map] at this
    simp only [Nat.zero_add]
    rw [Array.getElem?_toList] at this
    rw [this, List.getElem?_eq_getElem hi]
    rfl
  · simp only [Option.some.injEq, Addr.mk.injEq] at ha
    obtain ⟨rfl, rfl, _⟩ := ha
    exact ⟨hb, fun i _ => by simp [World.frozen?, hh]⟩

theorem Lim.zeros (n : Nat) : Lim (List.replicate n 0) := by
  intro x hx
  have := List.eq_of_mem_replicate hx
  omega

/-- The first j limbs, and noughts behind them. -/
def copied (xs : List Int) (j : Nat) : List Int := xs.take j ++ List.replicate (xs.length - j) 0
theorem copied_zero (xs : List Int) : copied xs 0 = List.replicate xs.length 0 := by simp [copied]
theorem copied_all (xs : List Int) : copied xs xs.length = xs := by simp [copied]
theorem copied_length (xs : List Int) (j : Nat) (h : j ≤ xs.length) : (copied xs j).length = xs.length := by simp [copied]; omega
theorem copied_step (xs : List Int) (j : Nat) (h : j < xs.length) : (copied xs j).set j (xs[j]?.getD 0) = copied xs (j + 1) := by
  unfold copied
  have hl : (xs.take j).length = j := by simp; omega
  rw [List.set_append, if_neg (by rw [hl]; omega), hl, Nat.sub_self, List.take_succ_eq_append_getElem h, List.append_assoc]
  congr 1
  rw [show xs.length - j = (xs.length - (j + 1)) + 1 by omega, List.replicate_succ, List.set_cons_zero, List.getElem?_eq_getElem h]
  rfl

/-! ### Noughts on top, cut off -/
theorem Nrm_take {xs : List Int} {j : Nat} (h0 : 0 < j) (hj : j ≤ xs.length) (h : xs[j - 1]?.getD 0 ≠ 0) : Nrm (xs.take j) := by
  refine Nrm_of_last (fun x hx => ?_)
  rw [List.getLast?_eq_getElem?] at hx
  have hl : (xs.take j).length = j := by simp; omega
  rw [hl, List.getElem?_take, if_pos (by omega)] at hx
  rw [hx] at h
  simpa using h

theorem Came.take {w : World} {a : Option Addr} {c : Nat} {xs : List Int} (h : Came w a c xs) {j d : Nat} (hj : j ≤ xs.length) (hd : j ≤ d) (hc : d ≤ c) : Came w a d (xs.take j) := by
  have hl : (xs.take j).length = j := by simp; omega
  refine ⟨h.lim.take j, by omega, Nat.le_trans hc h.max, fun hne => ?_⟩
  have hne' : xs ≠ [] := by intro e; simp [e] at hne
  obtain ⟨b, off, ha, hcell⟩ := h.cells hne'
  refine ⟨b, off, ha, fun i hi => ?_⟩
  rw [hcell i (by omega), List.getElem?_take, if_pos (by omega)]
theorem Sees.take {w : World} {a : Option Addr} {c : Nat} {xs : List Int} (h : Sees w a c xs) {j d : Nat} (hj : j ≤ xs.length) (hd : j ≤ d) (hc : d ≤ c) : Sees w a d (xs.take j) :=
  ⟨h.toCame.take hj hd hc, h.shape.imp (fun ⟨e, z⟩ => ⟨e, by omega⟩) id⟩
theorem Own.take {base : Nat} {w : World} {a : Option Addr} {c : Nat} {xs : List Int} (h : Own base w a c xs) {j d : Nat} (hj : j ≤ xs.length) (hd : j ≤ d) (hc : d ≤ c) : Own base w a d (xs.take j) := by
  have hl : (xs.take j).length = j := by simp; omega
  refine ⟨h.toSees.take hj hd hc, fun b off ha hne => ?_⟩
  have hne' : xs ≠ [] := by intro e; simp [e] at hne
  obtain ⟨h1, h2⟩ := h.new b off ha hne'
  exact ⟨h1, fun i hi => h2 i (by omega)⟩
theorem Own.nil (base : Nat) (w : World) : Own base w none 0 [] :=
  ⟨⟨⟨Lim.nil, by simp, by simp [maxLen], fun h => absurd rfl h⟩, .inl ⟨rfl, rfl⟩⟩, fun _ _ _ h => absurd rfl h⟩

theorem Own.empty (base : Nat) (w : World) (b off : Nat) : Own base w (some ⟨b, off, none⟩) 0 [] :=
  ⟨⟨⟨Lim.nil, by simp, by simp [maxLen], fun h => absurd rfl h⟩, .inr ⟨b, off, rfl⟩⟩, fun _ _ _ h => absurd rfl h⟩

theorem Own.cut {base : Nat} {w : World} {a a' : Option Addr} {c : Nat} {xs : List Int} (h : Own base w a c xs) {j : Nat} (hj : j ≤ xs.length) (ha : (j = 0 ∧ a' = none) ∨ a' = a) : Own base w a' j (xs.take j) := by
  rcases ha with ⟨rfl, rfl⟩ | rfl
  · exact Own.nil _ _
  · exact h.take hj (Nat.le_refl _) (Nat.le_trans hj h.fits)

/-- Cut at j: noughts from j on, and none right below. -/
theorem cut_facts {xs : List Int} {j : Nat} (hj : j ≤ xs.length) (hz : ∀ i, j ≤ i → xs[i]?.getD 0 = 0) (hn : j = 0 ∨ xs[j - 1]?.getD 0 ≠ 0) : Nrm (xs.take j) ∧ val (xs.take j) = val xs ∧ (xs.take j).length = j := by
  refine ⟨?_, val_take_zeros xs j hz, by simp; omega⟩
  by_cases h0 : j = 0
  · subst h0; simp [Nrm]
  · exact Nrm_take (by omega) hj (by rcases hn with h | h; exact absurd h h0; exact h)

theorem zeros_step {xs : List Int} {j : Nat} (hz : ∀ i, j ≤ i → xs[i]?.getD 0 = 0) (h : xs[j - 1]?.getD 0 = 0) : ∀ i, j - 1 ≤ i → xs[i]?.getD 0 = 0 := by
  intro i hi
  by_cases e : i = j - 1
  · rw [e]; exact h
  · exact hz i (by omega)

/-! ### 'append' to an empty row -/
theorem ownsRow_empty2 (w : World) (o : Obj) (e : TypeId) : ((w.alloc o).alloc (.cells #[] e)).ownsRow (w.heap.size + 1) e 1 (.slice (some ⟨w.heap.size + 1, 0, none⟩) 0 0) 0 [] := by
  refine ⟨by simp, .inr ⟨_, 0, #[], rfl, Nat.le_refl _, ?_, Nat.le_refl _, by simp [maxLen], by simp, by simp⟩⟩
  have := heap_alloc_new (w.alloc o) (.cells #[] e)
  rw [World.size_alloc] at this
  exact this
theorem ownsRow_empty1 (w : World) (e : TypeId) : (w.alloc (.cells #[] e)).ownsRow w.heap.size e 1 (.slice (some ⟨w.heap.size, 0, none⟩) 0 0) 0 [] :=
  ⟨by simp, .inr ⟨_, 0, #[], rfl, Nat.le_refl _, heap_alloc_new w (.cells #[] e), Nat.le_refl _, by simp [maxLen], by simp, by simp⟩⟩
theorem Came.news {w : World} {b off c j : Nat} {xs : List Int} (h : Came w (some ⟨b, off, none⟩) c xs) (hj : j ≤ xs.length) :
    ∀ q u, ((xs.take j).map (Value.int .u32))[q]? = some u → w.cell? ((⟨b, off, none⟩ : Addr).add q) = some u := by
  intro q u hu
  rw [List.getElem?_map, List.getElem?_take] at hu
  split at hu
  · next hq =>
    have hne : xs ≠ [] := by intro e; simp [e] at hj; omega
    obtain ⟨b', off', ha, hc⟩ := h.cells hne
    simp only [Option.some.injEq, Addr.mk.injEq] at ha
    obtain ⟨rfl, rfl, _⟩ := ha
    rw [Addr.add_lit, hc q (by omega), List.getElem?_eq_getElem (by omega)]
    rw [List.getElem?_eq_getElem (by omega)] at hu
    exact hu
  · simp at hu
theorem Own.of_append {w : World} {base e n : Nat} {v : Value} {xs : List Int} (h : w.ownsRow base e 1 v n (xs.map (Value.int .u32))) (hl : Lim xs) (hn : 0 < n) :
    ∃ g cap, v = .slice (some ⟨g, 0, none⟩) xs.length cap ∧ Own base w (some ⟨g, 0, none⟩) cap xs := by
  have h' := h
  obtain ⟨h1, h2⟩ := h
  rcases h2 with ⟨_, h2⟩ | ⟨g, cap, cur, rfl, _⟩
  · omega
  · obtain ⟨ho, e⟩ := Own.of_row h' hl
    exact ⟨g, cap, by rw [e], ho⟩

theorem ones (ys : List Int) : ∀ u ∈ ys.map (Value.int .u32), u.oneCell' = true := by
  intro u hu; obtain ⟨y, _, rfl⟩ := List.mem_map.1 hu; rfl
theorem grown_at {w w' : World} {row : Option Nat} (hg : w.grownBy w' row) {b : Nat} (hb : b < w.heap.size) (hr : some b ≠ row) :
    (∀ o, w'.cell? ⟨b, o, none⟩ = w.cell? ⟨b, o, none⟩) ∧ (∀ o, w'.frozen? ⟨b, o, none⟩ = w.frozen? ⟨b, o, none⟩) :=
  ⟨fun o => World.cell?_of_block (a := ⟨b, o, none⟩) (hg.block b hb hr), fun o => World.frozen?_of_block (a := ⟨b, o, none⟩) (hg.block b hb hr)⟩

/-- Two limbs, laid. -/
theorem Own.lit2 (w : World) (e : TypeId) (x y : Int) (hx : 0 ≤ x ∧ x < 4294967296) (hy : 0 ≤ y ∧ y < 4294967296) :
    Own w.heap.size (w.alloc (.cells #[.int .u32 x, .int .u32 y] e)) (some ⟨w.heap.size, 0, none⟩) 2 [x, y] := by
  have hh := heap_alloc_new w (.cells #[.int .u32 x, .int .u32 y] e)
  refine (Own.of_row (n := 2) ⟨rfl, .inr ⟨w.heap.size, 2, #[.int .u32 x, .int .u32 y], rfl, Nat.le_refl _, hh, Nat.le_refl _, by simp [maxLen], rfl, rfl⟩⟩ (Lim.mk hx (Lim.mk hy Lim.nil))).1

/-! ### Numbers -/
/-- A sign's number. -/
def sg (neg : Bool) (v : Int) : Int := if neg then -v else v
/-- A size. -/
def mg (z : Int) : Int := if z < 0 then -z else z

/-- The value is the number z, whose limbs lie from block 'base' on. -/
def IsNum (base : Nat) (w : World) (v : Value) (z : Int) : Prop :=
  ∃ a c ys, v = .agg #[.bool (decide (z < 0)), .slice a ys.length c] ∧ Own base w a c ys ∧ Nrm ys ∧ val ys = mg z

theorem sg_flag {neg : Bool} {ys : List Int} (hl : Lim ys) (hn : Nrm ys) : decide (sg neg (val ys) < 0) = (neg && decide (0 < ys.length)) := by
  have h0 := val_nonneg hl
  by_cases e : ys = []
  · subst e; cases neg <;> simp [sg, val]
  · have := val_pos hl hn e
    have hp : 0 < ys.length := List.length_pos_iff.2 e
    cases neg
    · simp only [sg]; simp; omega
    · simp only [sg]; simp; omega
theorem mg_sg {neg : Bool} {v : Int} (h : 0 ≤ v) : mg (sg neg v) = v := by
  unfold mg sg
  cases neg
  · simp; omega
  · simp only [if_true]; split <;> omega

theorem IsNum.mk {base : Nat} {w : World} {neg : Bool} {a : Option Addr} {c : Nat} {ys : List Int} (ho : Own base w a c ys) (hn : Nrm ys) :
    IsNum base w (.agg #[.bool (neg && decide (0 < ys.length)), .slice a ys.length c]) (sg neg (val ys)) :=
  ⟨a, c, ys, by rw [sg_flag ho.lim hn], ho, hn, (mg_sg (val_nonneg ho.lim)).symm⟩

theorem IsNum.zero (base : Nat) (w : World) (b off : Nat) (neg : Bool) {v : Int} (hv : v = 0) : IsNum base w (.agg #[.bool false, .slice (some ⟨b, off, none⟩) 0 0]) (sg neg v) := by
  subst hv
  have : sg neg 0 = 0 := by cases neg <;> rfl
  rw [this]
  exact ⟨_, 0, [], rfl, Own.empty _ _ _ _, trivial, rfl⟩

theorem IsNum.below {base : Nat} {w w' : World} {v : Value} {z : Int} (h : IsNum base w v z) (hb : Below w.heap.size w w') : IsNum base w' v z := by
  obtain ⟨a, c, ys, hv, ho, hn, he⟩ := h
  exact ⟨a, c, ys, hv, ho.below hb, hn, he⟩
theorem IsNum.base_le {base base' : Nat} {w : World} {v : Value} {z : Int} (h : IsNum base w v z) (hb : base' ≤ base) : IsNum base' w v z := by
  obtain ⟨a, c, ys, hv, ho, hn, he⟩ := h
  exact ⟨a, c, ys, hv, ho.base_le hb, hn, he⟩
theorem IsNum.shape {base : Nat} {w : World} {v : Value} {z : Int} (h : IsNum base w v z) : ∃ g a n c, v = .agg #[.bool g, .slice a n c] := by
  obtain ⟨a, c, ys, hv, _⟩ := h
  exact ⟨_, a, ys.length, c, hv⟩
theorem IsNum.setCell {base : Nat} {w : World} {v : Value} {z : Int} (h : IsNum base w v z) {p : Addr} (hp : p.block < base) (u : Value) : IsNum base (w.setCell p u) v z := by
  obtain ⟨a, c, ys, hv, ho, hn, he⟩ := h
  exact ⟨a, c, ys, hv, ho.setCell hp u, hn, he⟩
/-- A result that is put into its variable, at block b. -/
theorem IsNum.put {base b : Nat} {w : World} {v u0 u1 : Value} {z : Int} (h : IsNum base w v z) (hp : b < base) : IsNum b ((w.setCell ⟨b, 0, none⟩ u0).setCell ⟨b, 1, none⟩ u1) v z :=
  ((h.setCell (p := ⟨b, 0, none⟩) hp u0).setCell (p := ⟨b, 1, none⟩) hp u1).base_le (Nat.le_of_lt hp)
theorem below_put {b : Nat} {w w' : World} (h : Below b w w') (u0 u1 : Value) : Below b w ((w'.setCell ⟨b, 0, none⟩ u0).setCell ⟨b, 1, none⟩ u1) :=
  (h.setCell (p := ⟨b, 0, none⟩) (Nat.le_refl _) u0).setCell (p := ⟨b, 1, none⟩) (Nat.le_refl _) u1
theorem IsNum.eq {w : World} {base : Nat} {v : Value} {z z' : Int} (h : IsNum base w v z) (e : z = z') : IsNum base w v z' := e ▸ h

/-! ### How many limbs -/
theorem val_ge : ∀ {xs : List Int}, Lim xs → Nrm xs → xs ≠ [] → 4294967296 ^ (xs.length - 1) ≤ val xs
  | [], _, _, h => absurd rfl h
  | [x], h, hn, _ => by
    obtain ⟨hx, _⟩ := h.cons
    simp only [Nrm] at hn
    simp only [val, List.length_singleton, Nat.sub_self, Int.pow_zero]; omega
  | x :: y :: r, h, hn, _ => by
    obtain ⟨hx, hr⟩ := h.cons
    have := val_ge hr hn (by simp)
    simp only [val, List.length_cons, Nat.add_sub_cancel] at this ⊢
    rw [Int.pow_succ]
    omega
theorem p_pos (k : Nat) : (0 : Int) < 4294967296 ^ k := by
  induction k with
  | zero => simp
  | succ k ih => rw [Int.pow_succ]; omega
theorem p_mono (k d : Nat) : (4294967296 : Int) ^ k ≤ 4294967296 ^ (k + d) := by
  induction d with
  | zero => simp
  | succ d ih =>
    have := p_pos (k + d)
    rw [← Nat.add_assoc, Int.pow_succ]
    omega
theorem len_le {xs : List Int} (hl : Lim xs) (hn : Nrm xs) {k : Nat} (h : val xs < 4294967296 ^ k) : xs.length ≤ k := by
  rcases Nat.lt_or_ge k xs.length with hk | hk
  · exfalso
    have hne : xs ≠ [] := by intro e; simp [e] at hk
    have h1 := val_ge hl hn hne
    have h2 : (4294967296 : Int) ^ k ≤ 4294967296 ^ (xs.length - 1) := by
      have := p_mono k (xs.length - 1 - k)
      rw [show k + (xs.length - 1 - k) = xs.length - 1 by omega] at this
      exact this
    omega
  · exact hk

/-! ### Two that are the same number -/
theorem IsNum.same {b b' : Nat} {w w' : World} {v v' : Value} {z : Int} (h : IsNum b w v z) (k : IsNum b' w' v' z) :
    ∃ g a c a' c' ys, v = .agg #[.bool g, .slice a ys.length c] ∧ v' = .agg #[.bool g, .slice a' ys.length c'] ∧ Own b w a c ys ∧ Own b' w' a' c' ys ∧ Nrm ys ∧ val ys = mg z := by
  obtain ⟨a, c, ys, hv, ho, hn, he⟩ := h
  obtain ⟨a', c', ys', hv', ho', hn', he'⟩ := k
  obtain rfl : ys = ys' := val_inj ho.lim ho'.lim hn hn' (he.trans he'.symm)
  exact ⟨_, a, c, a', c', ys, hv, hv', ho, ho', hn, he⟩

/-- Another one of the same number. -/
theorem IsNum.as {b : Nat} {w : World} {v : Value} {z : Int} (h : IsNum b w v z) {ys : List Int} (hl : Lim ys) (hn : Nrm ys) (hv : val ys = mg z) :
    ∃ a c, v = .agg #[.bool (decide (z < 0)), .slice a ys.length c] ∧ Own b w a c ys := by
  obtain ⟨a, c, ys', hv', ho, hn', he⟩ := h
  obtain rfl : ys = ys' := val_inj hl ho.lim hn hn' (hv.trans he.symm)
  exact ⟨a, c, hv', ho⟩

/-! ### Rows apart -/
theorem row_ne_low {base p : Nat} {w : World} {a : Option Addr} {c : Nat} {xs : List Int} (k : Own base w a c xs) (hp : p < base) : some p ≠ rowOf a xs := by
  intro e
  unfold rowOf at e
  split at e
  · cases e
  · next hn =>
    obtain ⟨b2, off2, ha2, _⟩ := k.cells hn
    have := (k.new b2 off2 ha2 hn).1
    rw [ha2] at e
    simp at e
    omega
theorem row_ne_high {p : Nat} {w : World} {a : Option Addr} {c : Nat} {xs : List Int} (k : Came w a c xs) (hp : w.heap.size ≤ p) : some p ≠ rowOf a xs := by
  intro e
  unfold rowOf at e
  split at e
  · cases e
  · next hn =>
    obtain ⟨b2, off2, ha2, _⟩ := k.cells hn
    have := k.lt ha2 hn
    rw [ha2] at e
    simp at e
    omega

theorem IsNum.put' {base b b0 : Nat} {w : World} {v u0 u1 : Value} {z : Int} (h : IsNum base w v z) (hp : b < base) (h0 : b0 ≤ b) : IsNum b0 ((w.setCell ⟨b, 0, none⟩ u0).setCell ⟨b, 1, none⟩ u1) v z :=
  (h.put hp).base_le h0
theorem below_put' {b b0 : Nat} {w w' : World} (h : Below b0 w w') (h0 : b0 ≤ b) (u0 u1 : Value) : Below b0 w ((w'.setCell ⟨b, 0, none⟩ u0).setCell ⟨b, 1, none⟩ u1) :=
  (h.setCell (p := ⟨b, 0, none⟩) h0 u0).setCell (p := ⟨b, 1, none⟩) h0 u1

theorem cell_put {w : World} {b b' o : Nat} {u0 u1 : Value} (h : b' ≠ b) : ((w.setCell ⟨b, 0, none⟩ u0).setCell ⟨b, 1, none⟩ u1).cell? ⟨b', o, none⟩ = w.cell? ⟨b', o, none⟩ := by
  rw [World.cell?_setCell_other _ _ _ _ (by intro e; simp only [Addr.mk.injEq] at e; exact h e.1.symm), World.cell?_setCell_other _ _ _ _ (by intro e; simp only [Addr.mk.injEq] at e; exact h e.1.symm)]
theorem sg_not (g : Bool) (v : Int) : sg (!g) v = - sg g v := by cases g <;> simp [sg]
end Go.Proofs.YtecjeomcbcpfiaaGreat

/- Points: which are right, what they are taken as; the ways between them. -/
namespace Go.Proofs.YtecjeomcbcpfiaaGreat
open Go.RowKit

/-- Right, by both coordinates. -/
def ptOk (x y : Int) : Bool := inB x (-10000000) 10000000 && inB y (-10000000) 10000000
/-- What a coordinate is taken as. -/
def tX (x y : Int) : Int := if ptOk x y then x else 0
def tY (x y : Int) : Int := if ptOk x y then y else 0
/-- Within the limit. -/
def Crd (n : Int) : Prop := -10000000 ≤ n ∧ n ≤ 10000000
theorem inB_true {x lo hi : Int} : inB x lo hi = true ↔ lo ≤ x ∧ x ≤ hi := by simp [inB]
theorem tX_crd (x y : Int) : Crd (tX x y) := by
  unfold tX Crd
  by_cases h : ptOk x y = true
  · rw [if_pos h]; unfold ptOk at h; rw [Bool.and_eq_true, inB_true, inB_true] at h; omega
  · rw [if_neg h]; omega
theorem tY_crd (x y : Int) : Crd (tY x y) := by
  unfold tY Crd
  by_cases h : ptOk x y = true
  · rw [if_pos h]; unfold ptOk at h; rw [Bool.and_eq_true, inB_true, inB_true] at h; omega
  · rw [if_neg h]; omega

theorem coordOk_any (n : Int) (w : World) :
    Calls Tryz.prog 59 #[.int .i64 n] w fun e w' => e = .returned (.bool (inB n (-10000000) 10000000)) ∧ w' = w := by
  by_cases h1 : -10000000 ≤ n <;> by_cases h2 : n ≤ 10000000
  all_goals
    have E : inB n (-10000000) 10000000 = (decide (-10000000 ≤ n) && decide (n ≤ 10000000)) := rfl
    have H : Hid (inB n (-10000000) 10000000 = (decide (-10000000 ≤ n) && decide (n ≤ 10000000))) := E
    clear E
    go_enter Tryz.func59, Tryz.ntmps59
    go_wp2
    go_ret
    exact ⟨by rw [H.out]; simp [h1, h2], rfl⟩

theorem l1In_any (n lo hi : Int) (w : World) :
    Calls Tryz.prog 40 #[.int .i64 n, .int .i64 lo, .int .i64 hi] w fun e w' => e = .returned (.bool (inB n lo hi)) ∧ w' = w := by
  have H : Hid (inB n lo hi = (decide (lo ≤ n) && decide (n ≤ hi))) := (rfl : inB n lo hi = _)
  by_cases h1 : lo ≤ n <;> by_cases h2 : n ≤ hi
  all_goals
    go_enter Tryz.func40, Tryz.ntmps40
    go_wp2
    go_ret
    exact ⟨by rw [H.out]; simp [h1, h2], rfl⟩

theorem implPtOk (x y : Int) (w : World) :
    Calls Tryz.prog 43 #[.agg #[.int .i64 x, .int .i64 y]] w fun e w' => e = .returned (.bool (ptOk x y)) ∧ Below w.heap.size w w' := by
  have H : Hid (ptOk x y = (inB x (-10000000) 10000000 && inB y (-10000000) 10000000)) := (rfl : ptOk x y = _)
  cases h1 : inB x (-10000000) 10000000
  all_goals
    go_enter Tryz.func43, Tryz.ntmps43
    go_wp2_with (go_at_call 59; refine (coordOk_any _ _).mono ?_; rintro e w' ⟨rfl, rfl⟩; try rw [h1])
    go_ret
    exact ⟨by rw [H.out, h1]; simp, below1 _ _⟩

theorem specPtOk (x y : Int) (w : World) :
    Calls Tryz.prog 58 #[.agg #[.int .i64 x, .int .i64 y]] w fun e w' => e = .returned (.bool (ptOk x y)) ∧ Below w.heap.size w w' := by
  have H : Hid (ptOk x y = (inB x (-10000000) 10000000 && inB y (-10000000) 10000000)) := (rfl : ptOk x y = _)
  cases h1 : inB x (-10000000) 10000000
  all_goals
    go_enter Tryz.func58, Tryz.ntmps58
    go_wp2_with (go_at_call 40; refine (l1In_any _ _ _ _).mono ?_; rintro e w' ⟨rfl, rfl⟩; try rw [h1])
    go_ret
    exact ⟨by rw [H.out, h1]; simp, below1 _ _⟩

theorem toPt_any (x y : Int) (w : World) :
    Calls Tryz.prog 25 #[.agg #[.int .i64 x, .int .i64 y]] w fun e w' => e = .returned (.agg #[.int .i64 x, .int .i64 y]) ∧ Below w.heap.size w w' := by
  go_enter Tryz.func25, Tryz.ntmps25
  go_wp2
  exact bodyPost_ret (v := .agg #[.int .i64 x, .int .i64 y]) (by simp [results, Tryz.results25, go_sem]) rfl ⟨rfl, below3 _ _ _ _⟩

/-- Between two coordinates. -/
def Dif (n : Int) : Prop := -20000000 ≤ n ∧ n ≤ 20000000
theorem Crd.dif {a b : Int} (h : Crd a) (k : Crd b) : Dif (a - b) := by unfold Crd at h k; unfold Dif; omega
theorem Dif.mul {a b : Int} (h : Dif a) (k : Dif b) : -400000000000000 ≤ a * b ∧ a * b ≤ 400000000000000 := by
  unfold Dif at h k
  have h1 := Int.mul_nonneg (show 0 ≤ 20000000 - a by omega) (show 0 ≤ 20000000 - b by omega)
  have h2 := Int.mul_nonneg (show 0 ≤ 20000000 + a by omega) (show 0 ≤ 20000000 + b by omega)
  have h3 := Int.mul_nonneg (show 0 ≤ 20000000 - a by omega) (show 0 ≤ 20000000 + b by omega)
  have h4 := Int.mul_nonneg (show 0 ≤ 20000000 + a by omega) (show 0 ≤ 20000000 - b by omega)
  grind

theorem way_any (x1 y1 x2 y2 : Int) (w : World) (h1 : Crd x1) (h2 : Crd y1) (h3 : Crd x2) (h4 : Crd y2) :
    Calls Tryz.prog 113 #[.agg #[.int .i64 x1, .int .i64 y1], .agg #[.int .i64 x2, .int .i64 y2]] w fun e w' => e = .returned (.agg #[.int .i64 (x2 - x1), .int .i64 (y2 - y1)]) ∧ Below w.heap.size w w' := by
  obtain ⟨a1, b1⟩ := h1
  obtain ⟨a2, b2⟩ := h2
  obtain ⟨a3, b3⟩ := h3
  obtain ⟨a4, b4⟩ := h4
  go_enter Tryz.func113, Tryz.ntmps113
  go_wp2
  exact bodyPost_ret (v := .agg #[.int .i64 (x2 - x1), .int .i64 (y2 - y1)]) (by simp [results, Tryz.results113, go_sem]) rfl ⟨rfl, below3 _ _ _ _⟩

theorem across_any (x1 y1 x2 y2 : Int) (w : World) (h1 : Dif x1) (h2 : Dif y1) (h3 : Dif x2) (h4 : Dif y2) :
    Calls Tryz.prog 97 #[.agg #[.int .i64 x1, .int .i64 y1], .agg #[.int .i64 x2, .int .i64 y2]] w fun e w' => e = .returned (.int .i64 (x1 * y2 - y1 * x2)) ∧ Below w.heap.size w w' := by
  obtain ⟨a1, b1⟩ := h1.mul h4
  obtain ⟨a2, b2⟩ := h2.mul h3
  go_enter Tryz.func97, Tryz.ntmps97
  go_wp2
  go_ret
  exact ⟨rfl, below2 _ _ _⟩

theorem sgn1_neg {n : Int} (h : n < 0) : sgn1 n = -1 := by unfold sgn1; rw [if_neg (by omega), if_pos h]
theorem sgn1_pos {n : Int} (h : 0 < n) : sgn1 n = 1 := by unfold sgn1; rw [if_pos h]
theorem sgn1_cases (n : Int) : sgn1 n = -1 ∨ sgn1 n = 0 ∨ sgn1 n = 1 := by
  rcases Int.lt_trichotomy n 0 with h | h | h
  · exact .inl (sgn1_neg h)
  · subst h; exact .inr (.inl rfl)
  · exact .inr (.inr (sgn1_pos h))
theorem ret_bool {a b : Bool} (h : a = b) : Ending.returned (.bool a) = .returned (.bool b) := by rw [h]

theorem isNaN_any (n : Int) (w : World) :
    Calls Tryz.prog 115 #[.int .i64 n] w fun e w' => e = .returned (.bool false) ∧ w' = w := by
  go_enter Tryz.func115, Tryz.ntmps115
  go_wp2
  go_ret
  exact ⟨rfl, rfl⟩

theorem compare0 (n : Int) (w : World) :
    Calls Tryz.prog 112 #[.int .i64 n, .int .i64 0] w fun e w' => e = .returned (.int .i64 (sgn1 n)) ∧ w' = w := by
  rcases Int.lt_trichotomy n 0 with h | h | h
  · have h' : ¬ 0 < n := by omega
    go_enter Tryz.func112, Tryz.ntmps112
    go_wp2_with (go_at_call 115; refine (isNaN_any _ _).mono ?_; rintro e w' ⟨rfl, rfl⟩)
    go_ret
    exact ⟨by rw [sgn1_neg h]; rfl, rfl⟩
  · subst h
    go_enter Tryz.func112, Tryz.ntmps112
    go_wp2_with (go_at_call 115; refine (isNaN_any _ _).mono ?_; rintro e w' ⟨rfl, rfl⟩)
    go_ret
    exact ⟨rfl, rfl⟩
  · have h' : ¬ n < 0 := by omega
    go_enter Tryz.func112, Tryz.ntmps112
    go_wp2_with (go_at_call 115; refine (isNaN_any _ _).mono ?_; rintro e w' ⟨rfl, rfl⟩)
    go_ret
    exact ⟨by rw [sgn1_pos h]; rfl, rfl⟩

theorem l3Sign_any (n : Int) (w : World) :
    Calls Tryz.prog 63 #[.int .i64 n] w fun e w' => e = .returned (.int .i64 (sgn1 n)) ∧ w' = w := by
  rcases Int.lt_trichotomy n 0 with h | h | h
  · have h' : ¬ 0 < n := by omega
    go_enter Tryz.func63, Tryz.ntmps63
    go_wp2
    go_ret
    exact ⟨by rw [sgn1_neg h]; rfl, rfl⟩
  · subst h
    go_enter Tryz.func63, Tryz.ntmps63
    go_wp2
    go_ret
    exact ⟨rfl, rfl⟩
  · have h' : ¬ n < 0 := by omega
    go_enter Tryz.func63, Tryz.ntmps63
    go_wp2
    go_ret
    exact ⟨by rw [sgn1_pos h]; rfl, rfl⟩

theorem l3Area_any (x1 y1 x2 y2 x3 y3 : Int) (w : World) (h1 : Crd x1) (h2 : Crd y1) (h3 : Crd x2) (h4 : Crd y2) (h5 : Crd x3) (h6 : Crd y3) :
    Calls Tryz.prog 64 #[.agg #[.int .i64 x1, .int .i64 y1], .agg #[.int .i64 x2, .int .i64 y2], .agg #[.int .i64 x3, .int .i64 y3]] w fun e w' => e = .returned (.int .i64 (ar x1 y1 x2 y2 x3 y3)) ∧ Below w.heap.size w w' := by
  obtain ⟨p1, p2⟩ := (h3.dif h1).mul (h6.dif h2)
  obtain ⟨q1, q2⟩ := (h4.dif h2).mul (h5.dif h1)
  obtain ⟨a1, b1⟩ := h1
  obtain ⟨a2, b2⟩ := h2
  obtain ⟨a3, b3⟩ := h3
  obtain ⟨a4, b4⟩ := h4
  obtain ⟨a5, b5⟩ := h5
  obtain ⟨a6, b6⟩ := h6
  go_enter Tryz.func64, Tryz.ntmps64
  go_wp2
  go_ret
  exact ⟨rfl, below3 _ _ _ _⟩
end Go.Proofs.YtecjeomcbcpfiaaGreat

/- Between two, and ranges that meet. -/
namespace Go.Proofs.YtecjeomcbcpfiaaGreat
open Go.RowKit

theorem l3Between_any (a b x : Int) (w : World) :
    Calls Tryz.prog 81 #[.int .i64 a, .int .i64 b, .int .i64 x] w fun e w' => e = .returned (.bool (btw a b x)) ∧ w' = w := by
  have H : Hid (btw a b x = (inB x a b || inB x b a)) := (rfl : btw a b x = _)
  cases h1 : inB x a b
  all_goals
    go_enter Tryz.func81, Tryz.ntmps81
    go_wp2_with (go_at_call 40; refine (l1In_any _ _ _ _).mono ?_; rintro e w' ⟨rfl, rfl⟩; try rw [h1])
    go_ret
    exact ⟨by rw [H.out, h1]; simp, rfl⟩

theorem rangesMeet_any (a b c d : Int) (w : World) :
    Calls Tryz.prog 108 #[.int .i64 a, .int .i64 b, .int .i64 c, .int .i64 d] w fun e w' => e = .returned (.bool (rng a b c d)) ∧ w' = w := by
  have H : Hid (rng a b c d = (decide (min a b ≤ max c d) && decide (min c d ≤ max a b))) := (rfl : rng a b c d = _)
  by_cases h1 : a ≤ b <;> by_cases h2 : c ≤ d
  all_goals
    go_enter Tryz.func108, Tryz.ntmps108
    go_wp2
  all_goals
    go_ret
    exact ⟨ret_bool (by rw [H.out, Bool.eq_iff_iff]; simp; omega), rfl⟩
end Go.Proofs.YtecjeomcbcpfiaaGreat

/- Boxes of points in memory: what lies in them stays there. -/
namespace Go.Proofs.YtecjeomcbcpfiaaGreat
open Go.RowKit

theorem ptbox1 (w : World) (x1 y1 : Int) (t : TypeId) : (w.alloc (.cells #[.int .i64 x1, .int .i64 y1] t)).cell? ⟨w.heap.size, 0, none⟩ = some (.int .i64 x1) ∧ (w.alloc (.cells #[.int .i64 x1, .int .i64 y1] t)).cell? ⟨w.heap.size, 1, none⟩ = some (.int .i64 y1) := by
  refine ⟨?_, ?_⟩ <;> simp [go_sem]
theorem ptkeep1 {W w' : World} {b : Nat} {x1 y1 : Int} (k : W.cell? ⟨b, 0, none⟩ = some (.int .i64 x1) ∧ W.cell? ⟨b, 1, none⟩ = some (.int .i64 y1)) (B : Below W.heap.size W w') : w'.cell? ⟨b, 0, none⟩ = some (.int .i64 x1) ∧ w'.cell? ⟨b, 1, none⟩ = some (.int .i64 y1) :=
  ⟨bat B k.1, bat B k.2⟩
theorem ptbelow1 (w : World) (x1 y1 : Int) (t : TypeId) : Below w.heap.size w (w.alloc (.cells #[.int .i64 x1, .int .i64 y1] t)) := below1 _ _
theorem ptbox2 (w : World) (x1 y1 x2 y2 : Int) (t : TypeId) : ((w.alloc (.cells #[.int .i64 x1, .int .i64 y1] t)).alloc (.cells #[.int .i64 x2, .int .i64 y2] t)).cell? ⟨w.heap.size, 0, none⟩ = some (.int .i64 x1) ∧ ((w.alloc (.cells #[.int .i64 x1, .int .i64 y1] t)).alloc (.cells #[.int .i64 x2, .int .i64 y2] t)).cell? ⟨w.heap.size, 1, none⟩ = some (.int .i64 y1) ∧ ((w.alloc (.cells #[.int .i64 x1, .int .i64 y1] t)).alloc (.cells #[.int .i64 x2, .int .i64 y2] t)).cell? ⟨w.heap.size + 1, 0, none⟩ = some (.int .i64 x2) ∧ ((w.alloc (.cells #[.int .i64 x1, .int .i64 y1] t)).alloc (.cells #[.int .i64 x2, .int .i64 y2] t)).cell? ⟨w.heap.size + 1, 1, none⟩ = some (.int .i64 y2) := by
  refine ⟨?_, ?_, ?_, ?_⟩ <;> simp [go_sem]
theorem ptkeep2 {W w' : World} {b : Nat} {x1 y1 x2 y2 : Int} (k : W.cell? ⟨b, 0, none⟩ = some (.int .i64 x1) ∧ W.cell? ⟨b, 1, none⟩ = some (.int .i64 y1) ∧ W.cell? ⟨b + 1, 0, none⟩ = some (.int .i64 x2) ∧ W.cell? ⟨b + 1, 1, none⟩ = some (.int .i64 y2)) (B : Below W.heap.size W w') : w'.cell? ⟨b, 0, none⟩ = some (.int .i64 x1) ∧ w'.cell? ⟨b, 1, none⟩ = some (.int .i64 y1) ∧ w'.cell? ⟨b + 1, 0, none⟩ = some (.int .i64 x2) ∧ w'.cell? ⟨b + 1, 1, none⟩ = some (.int .i64 y2) :=
  ⟨bat B k.1, bat B k.2.1, bat B k.2.2.1, bat B k.2.2.2⟩
theorem ptbelow2 (w : World) (x1 y1 x2 y2 : Int) (t : TypeId) : Below w.heap.size w ((w.alloc (.cells #[.int .i64 x1, .int .i64 y1] t)).alloc (.cells #[.int .i64 x2, .int .i64 y2] t)) := below2 _ _ _
theorem ptbox3 (w : World) (x1 y1 x2 y2 x3 y3 : Int) (t : TypeId) : (((w.alloc (.cells #[.int .i64 x1, .int .i64 y1] t)).alloc (.cells #[.int .i64 x2, .int .i64 y2] t)).alloc (.cells #[.int .i64 x3, .int .i64 y3] t)).cell? ⟨w.heap.size, 0, none⟩ = some (.int .i64 x1) ∧ (((w.alloc (.cells #[.int .i64 x1, .int .i64 y1] t)).alloc (.cells #[.int .i64 x2, .int .i64 y2] t)).alloc (.cells #[.int .i64 x3, .int .i64 y3] t)).cell? ⟨w.heap.size, 1, none⟩ = some (.int .i64 y1) ∧ (((w.alloc (.cells #[.int .i64 x1, .int .i64 y1] t)).alloc (.cells #[.int .i64 x2, .int .i64 y2] t)).alloc (.cells #[.int .i64 x3, .int .i64 y3] t)).cell? ⟨w.heap.size + 1, 0, none⟩ = some (.int .i64 x2) ∧ (((w.alloc (.cells #[.int .i64 x1, .int .i64 y1] t)).alloc (.cells #[.int .i64 x2, .int .i64 y2] t)).alloc (.cells #[.int .i64 x3, .int .i64 y3] t)).cell? ⟨w.heap.size + 1, 1, none⟩ = some (.int .i64 y2) ∧ (((w.alloc (.cells #[.int .i64 x1, .int .i64 y1] t)).alloc (.cells #[.int .i64 x2, .int .i64 y2] t)).alloc (.cells #[.int .i64 x3, .int .i64 y3] t)).cell? ⟨w.heap.size + 1 + 1, 0, none⟩ = some (.int .i64 x3) ∧ (((w.alloc (.cells #[.int .i64 x1, .int .i64 y1] t)).alloc (.cells #[.int .i64 x2, .int .i64 y2] t)).alloc (.cells #[.int .i64 x3, .int .i64 y3] t)).cell? ⟨w.heap.size + 1 + 1, 1, none⟩ = some (.int .i64 y3) := by
  refine ⟨?_, ?_, ?_, ?_, ?_, ?_⟩ <;> simp [go_sem]
theorem ptkeep3 {W w' : World} {b : Nat} {x1 y1 x2 y2 x3 y3 : Int} (k : W.cell? ⟨b, 0, none⟩ = some (.int .i64 x1) ∧ W.cell? ⟨b, 1, none⟩ = some (.int .i64 y1) ∧ W.cell? ⟨b + 1, 0, none⟩ = some (.int .i64 x2) ∧ W.cell? ⟨b + 1, 1, none⟩ = some (.int .i64 y2) ∧ W.cell? ⟨b + 1 + 1, 0, none⟩ = some (.int .i64 x3) ∧ W.cell? ⟨b + 1 + 1, 1, none⟩ = some (.int .i64 y3)) (B : Below W.heap.size W w') : w'.cell? ⟨b, 0, none⟩ = some (.int .i64 x1) ∧ w'.cell? ⟨b, 1, none⟩ = some (.int .i64 y1) ∧ w'.cell? ⟨b + 1, 0, none⟩ = some (.int .i64 x2) ∧ w'.cell? ⟨b + 1, 1, none⟩ = some (.int .i64 y2) ∧ w'.cell? ⟨b + 1 + 1, 0, none⟩ = some (.int .i64 x3) ∧ w'.cell? ⟨b + 1 + 1, 1, none⟩ = some (.int .i64 y3) :=
  ⟨bat B k.1, bat B k.2.1, bat B k.2.2.1, bat B k.2.2.2.1, bat B k.2.2.2.2.1, bat B k.2.2.2.2.2⟩
theorem ptbelow3 (w : World) (x1 y1 x2 y2 x3 y3 : Int) (t : TypeId) : Below w.heap.size w (((w.alloc (.cells #[.int .i64 x1, .int .i64 y1] t)).alloc (.cells #[.int .i64 x2, .int .i64 y2] t)).alloc (.cells #[.int .i64 x3, .int .i64 y3] t)) := below3 _ _ _ _
theorem ptbox4 (w : World) (x1 y1 x2 y2 x3 y3 x4 y4 : Int) (t : TypeId) : ((((w.alloc (.cells #[.int .i64 x1, .int .i64 y1] t)).alloc (.cells #[.int .i64 x2, .int .i64 y2] t)).alloc (.cells #[.int .i64 x3, .int .i64 y3] t)).alloc (.cells #[.int .i64 x4, .int .i64 y4] t)).cell? ⟨w.heap.size, 0, none⟩ = some (.int .i64 x1) ∧ ((((w.alloc (.cells #[.int .i64 x1, .int .i64 y1] t)).alloc (.cells #[.int .i64 x2, .int .i64 y2] t)).alloc (.cells #[.int .i64 x3, .int .i64 y3] t)).alloc (.cells #[.int .i64 x4, .int .i64 y4] t)).cell? ⟨w.heap.size, 1, none⟩ = some (.int .i64 y1) ∧ ((((w.alloc (.cells #[.int .i64 x1, .int .i64 y1] t)).alloc (.cells #[.int .i64 x2, .int .i64 y2] t)).alloc (.cells #[.int .i64 x3, .int .i64 y3] t)).alloc (.cells #[.int .i64 x4, .int .i64 y4] t)).cell? ⟨w.heap.size + 1, 0, none⟩ = some (.int .i64 x2) ∧ ((((w.alloc (.cells #[.int .i64 x1, .int .i64 y1] t)).alloc (.cells #[.int .i64 x2, .int .i64 y2] t)).alloc (.cells #[.int .i64 x3, .int .i64 y3] t)).alloc (.cells #[.int .i64 x4, .int .i64 y4] t)).cell? ⟨w.heap.size + 1, 1, none⟩ = some (.int .i64 y2) ∧ ((((w.alloc (.cells #[.int .i64 x1, .int .i64 y1] t)).alloc (.cells #[.int .i64 x2, .int .i64 y2] t)).alloc (.cells #[.int .i64 x3, .int .i64 y3] t)).alloc (.cells #[.int .i64 x4, .int .i64 y4] t)).cell? ⟨w.heap.size + 1 + 1, 0, none⟩ = some (.int .i64 x3) ∧ ((((w.alloc (.cells #[.int .i64 x1, .int .i64 y1] t)).alloc (.cells #[.int .i64 x2, .int .i64 y2] t)).alloc (.cells #[.int .i64 x3, .int .i64 y3] t)).alloc (.cells #[.int .i64 x4, .int .i64 y4] t)).cell? ⟨w.heap.size + 1 + 1, 1, none⟩ = some (.int .i64 y3) ∧ ((((w.alloc (.cells #[.int .i64 x1, .int .i64 y1] t)).alloc (.cells #[.int .i64 x2, .int .i64 y2] t)).alloc (.cells #[.int .i64 x3, .int .i64 y3] t)).alloc (.cells #[.int .i64 x4, .int .i64 y4] t)).cell? ⟨w.heap.size + 1 + 1 + 1, 0, none⟩ = some (.int .i64 x4) ∧ ((((w.alloc (.cells #[.int .i64 x1, .int .i64 y1] t)).alloc (.cells #[.int .i64 x2, .int .i64 y2] t)).alloc (.cells #[.int .i64 x3, .int .i64 y3] t)).alloc (.cells #[.int .i64 x4, .int .i64 y4] t)).cell? ⟨w.heap.size + 1 + 1 + 1, 1, none⟩ = some (.int .i64 y4) := by
  refine ⟨?_, ?_, ?_, ?_, ?_, ?_, ?_, ?_⟩ <;> simp [go_sem]
theorem ptkeep4 {W w' : World} {b : Nat} {x1 y1 x2 y2 x3 y3 x4 y4 : Int} (k : W.cell? ⟨b, 0, none⟩ = some (.int .i64 x1) ∧ W.cell? ⟨b, 1, none⟩ = some (.int .i64 y1) ∧ W.cell? ⟨b + 1, 0, none⟩ = some (.int .i64 x2) ∧ W.cell? ⟨b + 1, 1, none⟩ = some (.int .i64 y2) ∧ W.cell? ⟨b + 1 + 1, 0, none⟩ = some (.int .i64 x3) ∧ W.cell? ⟨b + 1 + 1, 1, none⟩ = some (.int .i64 y3) ∧ W.cell? ⟨b + 1 + 1 + 1, 0, none⟩ = some (.int .i64 x4) ∧ W.cell? ⟨b + 1 + 1 + 1, 1, none⟩ = some (.int .i64 y4)) (B : Below W.heap.size W w') : w'.cell? ⟨b, 0, none⟩ = some (.int .i64 x1) ∧ w'.cell? ⟨b, 1, none⟩ = some (.int .i64 y1) ∧ w'.cell? ⟨b + 1, 0, none⟩ = some (.int .i64 x2) ∧ w'.cell? ⟨b + 1, 1, none⟩ = some (.int .i64 y2) ∧ w'.cell? ⟨b + 1 + 1, 0, none⟩ = some (.int .i64 x3) ∧ w'.cell? ⟨b + 1 + 1, 1, none⟩ = some (.int .i64 y3) ∧ w'.cell? ⟨b + 1 + 1 + 1, 0, none⟩ = some (.int .i64 x4) ∧ w'.cell? ⟨b + 1 + 1 + 1, 1, none⟩ = some (.int .i64 y4) :=
  ⟨bat B k.1, bat B k.2.1, bat B k.2.2.1, bat B k.2.2.2.1, bat B k.2.2.2.2.1, bat B k.2.2.2.2.2.1, bat B k.2.2.2.2.2.2.1, bat B k.2.2.2.2.2.2.2⟩
theorem ptbelow4 (w : World) (x1 y1 x2 y2 x3 y3 x4 y4 : Int) (t : TypeId) : Below w.heap.size w ((((w.alloc (.cells #[.int .i64 x1, .int .i64 y1] t)).alloc (.cells #[.int .i64 x2, .int .i64 y2] t)).alloc (.cells #[.int .i64 x3, .int .i64 y3] t)).alloc (.cells #[.int .i64 x4, .int .i64 y4] t)) := below4 _ _ _ _ _
end Go.Proofs.YtecjeomcbcpfiaaGreat

/- Variables that a region makes: what lies in them, what is put into them. -/
namespace Go.Proofs.YtecjeomcbcpfiaaGreat
open Go.RowKit

theorem frozen_new (w : World) (c : Array Value) (t : TypeId) (o : Nat) : (w.alloc (.cells c t)).frozen? ⟨w.heap.size, o, none⟩ = false := by
  simp [go_sem]

theorem put_new2 {w : World} {p : Nat} {x0 x1 : Value} (h0 : w.cell? ⟨p, 0, none⟩ = some x0) (h1 : w.cell? ⟨p, 1, none⟩ = some x1) (u0 u1 : Value) :
    ((w.setCell ⟨p, 0, none⟩ u0).setCell ⟨p, 1, none⟩ u1).cell? ⟨p, 0, none⟩ = some u0 ∧ ((w.setCell ⟨p, 0, none⟩ u0).setCell ⟨p, 1, none⟩ u1).cell? ⟨p, 1, none⟩ = some u1 := by
  refine ⟨?_, ?_⟩
  · rw [World.cell?_setCell_other _ _ _ _ (by simp)]
    exact World.cell?_setCell_same _ _ _ h0
  · refine World.cell?_setCell_same (u := x1) _ _ _ ?_
    rw [World.cell?_setCell_other _ _ _ _ (by simp)]
    exact h1
theorem put_old2 {w : World} {b b' o : Nat} (h : b' ≠ b) (u0 u1 : Value) : ((w.setCell ⟨b, 0, none⟩ u0).setCell ⟨b, 1, none⟩ u1).cell? ⟨b', o, none⟩ = w.cell? ⟨b', o, none⟩ := cell_put h
theorem put_frozen2 {w : World} (b : Nat) (a : Addr) (u0 u1 : Value) : ((w.setCell ⟨b, 0, none⟩ u0).setCell ⟨b, 1, none⟩ u1).frozen? a = w.frozen? a := by
  rw [World.frozen?_setCell, World.frozen?_setCell]
theorem Own.put1 {base p : Nat} {w : World} {a : Option Addr} {c : Nat} {xs : List Int} (h : Own base w a c xs) (r : some p ≠ rowOf a xs) (o : Nat) (u : Value) : Own base (w.setCell ⟨p, o, none⟩ u) a c xs :=
  h.kept (grownBy_setCell (grownBy_refl w (some p)) rfl u) (fun b off ha hn e => by
    apply r
    unfold rowOf
    rw [if_neg hn, ha]
    simpa using e)
theorem Own.put2 {base p : Nat} {w : World} {a : Option Addr} {c : Nat} {xs : List Int} (h : Own base w a c xs) (r : some p ≠ rowOf a xs) (u0 u1 : Value) : Own base ((w.setCell ⟨p, 0, none⟩ u0).setCell ⟨p, 1, none⟩ u1) a c xs :=
  (h.put1 r 0 u0).put1 r 1 u1

theorem gt {l : List Oper} {i : Nat} {o : Oper} (h : l[i]? = some o) : l.toArray[i]? = some o := by simpa using h

/-- A variable of two cells that was made from block lo on. -/
structure Box2 (lo : Nat) (w : World) (p : Nat) (x0 x1 : Value) : Prop where
  c0 : w.cell? ⟨p, 0, none⟩ = some x0
  c1 : w.cell? ⟨p, 1, none⟩ = some x1
  fr : ∀ o, w.frozen? ⟨p, o, none⟩ = false
  lo : lo ≤ p
theorem Box2.new (w : World) {lo : Nat} (h : lo ≤ w.heap.size) (x0 x1 : Value) (t : TypeId) : Box2 lo (w.alloc (.cells #[x0, x1] t)) w.heap.size x0 x1 :=
  ⟨cell_new w #[x0, x1] t 0 rfl, cell_new w #[x0, x1] t 1 rfl, fun o => frozen_new _ _ _ o, h⟩
theorem Box2.lt {lo p : Nat} {w : World} {x0 x1 : Value} (h : Box2 lo w p x0 x1) : p < w.heap.size := World.block_lt_of_cell? _ _ h.c0
theorem Box2.below {lo p : Nat} {w w' : World} {x0 x1 : Value} (h : Box2 lo w p x0 x1) (hb : Below w.heap.size w w') : Box2 lo w' p x0 x1 :=
  ⟨bat hb h.c0, bat hb h.c1, fun o => (hb.frozen (p := ⟨p, o, none⟩) h.lt).trans (h.fr o), h.lo⟩
theorem Box2.put {lo p : Nat} {w : World} {x0 x1 : Value} (h : Box2 lo w p x0 x1) (u0 u1 : Value) : Box2 lo ((w.setCell ⟨p, 0, none⟩ u0).setCell ⟨p, 1, none⟩ u1) p u0 u1 :=
  ⟨(put_new2 h.c0 h.c1 u0 u1).1, (put_new2 h.c0 h.c1 u0 u1).2, fun o => (put_frozen2 p _ u0 u1).trans (h.fr o), h.lo⟩
theorem Box2.old {lo p q : Nat} {w : World} {x0 x1 : Value} (h : Box2 lo w q x0 x1) (ne : q ≠ p) (u0 u1 : Value) : Box2 lo ((w.setCell ⟨p, 0, none⟩ u0).setCell ⟨p, 1, none⟩ u1) q x0 x1 :=
  ⟨(put_old2 ne u0 u1).trans h.c0, (put_old2 ne u0 u1).trans h.c1, fun o => (put_frozen2 p _ u0 u1).trans (h.fr o), h.lo⟩
theorem Box2.chain {b : Nat} {W w : World} {p : Nat} {x0 x1 : Value} (N : Below b W w) (h : Box2 b w p x0 x1) (u0 u1 : Value) : Below b W ((w.setCell ⟨p, 0, none⟩ u0).setCell ⟨p, 1, none⟩ u1) :=
  (N.setCell (p := ⟨p, 0, none⟩) h.lo u0).setCell (p := ⟨p, 1, none⟩) h.lo u1

/-- A variable of four cells. -/
structure Box4 (lo : Nat) (w : World) (p : Nat) (x0 x1 x2 x3 : Value) : Prop where
  c0 : w.cell? ⟨p, 0, none⟩ = some x0
  c1 : w.cell? ⟨p, 1, none⟩ = some x1
  c2 : w.cell? ⟨p, 2, none⟩ = some x2
  c3 : w.cell? ⟨p, 3, none⟩ = some x3
  fr : ∀ o, w.frozen? ⟨p, o, none⟩ = false
  lo : lo ≤ p
theorem Box4.new (w : World) {lo : Nat} (h : lo ≤ w.heap.size) (x0 x1 x2 x3 : Value) (t : TypeId) : Box4 lo (w.alloc (.cells #[x0, x1, x2, x3] t)) w.heap.size x0 x1 x2 x3 :=
  ⟨cell_new w #[x0, x1, x2, x3] t 0 rfl, cell_new w #[x0, x1, x2, x3] t 1 rfl, cell_new w #[x0, x1, x2, x3] t 2 rfl, cell_new w #[x0, x1, x2, x3] t 3 rfl, fun o => frozen_new _ _ _ o, h⟩
theorem Box4.lt {lo p : Nat} {w : World} {x0 x1 x2 x3 : Value} (h : Box4 lo w p x0 x1 x2 x3) : p < w.heap.size := World.block_lt_of_cell? _ _ h.c0
theorem Box4.below {lo p : Nat} {w w' : World} {x0 x1 x2 x3 : Value} (h : Box4 lo w p x0 x1 x2 x3) (hb : Below w.heap.size w w') : Box4 lo w' p x0 x1 x2 x3 :=
  ⟨bat hb h.c0, bat hb h.c1, bat hb h.c2, bat hb h.c3, fun o => (hb.frozen (p := ⟨p, o, none⟩) h.lt).trans (h.fr o), h.lo⟩
theorem cell_same {w : World} {p o : Nat} {x : Value} (h : w.cell? ⟨p, o, none⟩ = some x) (u : Value) : (w.setCell ⟨p, o, none⟩ u).cell? ⟨p, o, none⟩ = some u := World.cell?_setCell_same _ _ _ h
theorem cell_other {w : World} {p o q i : Nat} (h : p ≠ q ∨ o ≠ i) (u : Value) : (w.setCell ⟨p, o, none⟩ u).cell? ⟨q, i, none⟩ = w.cell? ⟨q, i, none⟩ :=
  World.cell?_setCell_other _ _ _ _ (by intro e; simp only [Addr.mk.injEq] at e; rcases h with h | h <;> exact h (by simp [e]))
theorem Box4.put {lo p : Nat} {w : World} {x0 x1 x2 x3 : Value} (h : Box4 lo w p x0 x1 x2 x3) (u0 u1 u2 u3 : Value) : Box4 lo ((((w.setCell ⟨p, 0, none⟩ u0).setCell ⟨p, 1, none⟩ u1).setCell ⟨p, 2, none⟩ u2).setCell ⟨p, 3, none⟩ u3) p u0 u1 u2 u3 := by
  refine ⟨?_, ?_, ?_, ?_, fun o => ?_, h.lo⟩
  · rw [cell_other (.inr (by decide)), cell_other (.inr (by decide)), cell_other (.inr (by decide))]; exact cell_same h.c0 u0
  · rw [cell_other (.inr (by decide)), cell_other (.inr (by decide))]; exact cell_same ((cell_other (.inr (by decide)) u0).trans h.c1) u1
  · rw [cell_other (.inr (by decide))]; exact cell_same (((cell_other (.inr (by decide)) u1).trans (cell_other (.inr (by decide)) u0)).trans h.c2) u2
  · exact cell_same ((((cell_other (.inr (by decide)) u2).trans (cell_other (.inr (by decide)) u1)).trans (cell_other (.inr (by decide)) u0)).trans h.c3) u3
  · rw [World.frozen?_setCell, World.frozen?_setCell, World.frozen?_setCell, World.frozen?_setCell]; exact h.fr o
theorem Box4.old {lo p q : Nat} {w : World} {x0 x1 x2 x3 : Value} (h : Box4 lo w q x0 x1 x2 x3) (ne : q ≠ p) (u0 u1 u2 u3 : Value) : Box4 lo ((((w.setCell ⟨p, 0, none⟩ u0).setCell ⟨p, 1, none⟩ u1).setCell ⟨p, 2, none⟩ u2).setCell ⟨p, 3, none⟩ u3) q x0 x1 x2 x3 := by
  have e : ∀ o, ((((w.setCell ⟨p, 0, none⟩ u0).setCell ⟨p, 1, none⟩ u1).setCell ⟨p, 2, none⟩ u2).setCell ⟨p, 3, none⟩ u3).cell? ⟨q, o, none⟩ = w.cell? ⟨q, o, none⟩ := fun o => by
    rw [cell_other (.inl ne.symm), cell_other (.inl ne.symm), cell_other (.inl ne.symm), cell_other (.inl ne.symm)]
  refine ⟨(e 0).trans h.c0, (e 1).trans h.c1, (e 2).trans h.c2, (e 3).trans h.c3, fun o => ?_, h.lo⟩
  rw [World.frozen?_setCell, World.frozen?_setCell, World.frozen?_setCell, World.frozen?_setCell]; exact h.fr o
theorem Box4.chain {b : Nat} {W w : World} {p : Nat} {x0 x1 x2 x3 : Value} (N : Below b W w) (h : Box4 b w p x0 x1 x2 x3) (u0 u1 u2 u3 : Value) : Below b W ((((w.setCell ⟨p, 0, none⟩ u0).setCell ⟨p, 1, none⟩ u1).setCell ⟨p, 2, none⟩ u2).setCell ⟨p, 3, none⟩ u3) :=
  (((N.setCell (p := ⟨p, 0, none⟩) h.lo u0).setCell (p := ⟨p, 1, none⟩) h.lo u1).setCell (p := ⟨p, 2, none⟩) h.lo u2).setCell (p := ⟨p, 3, none⟩) h.lo u3
theorem Own.put4 {base p : Nat} {w : World} {a : Option Addr} {c : Nat} {xs : List Int} (h : Own base w a c xs) (r : some p ≠ rowOf a xs) (u0 u1 u2 u3 : Value) : Own base ((((w.setCell ⟨p, 0, none⟩ u0).setCell ⟨p, 1, none⟩ u1).setCell ⟨p, 2, none⟩ u2).setCell ⟨p, 3, none⟩ u3) a c xs :=
  (((h.put1 r 0 u0).put1 r 1 u1).put1 r 2 u2).put1 r 3 u3
end Go.Proofs.YtecjeomcbcpfiaaGreat

/- Boxes: which are right; their memory. -/
namespace Go.Proofs.YtecjeomcbcpfiaaGreat
open Go.RowKit

/-- Right, by all coordinates. -/
def boxOk (a b c d : Int) : Bool := ptOk a b && (ptOk c d && (decide (a ≤ c) && decide (b ≤ d)))
theorem bcB (w : World) (a b c d : Int) (ta : TypeId) :
    (w.alloc (.cells #[.int .i64 a, .int .i64 b, .int .i64 c, .int .i64 d] ta)).cell? ⟨w.heap.size, 0, none⟩ = some (.int .i64 a) ∧ (w.alloc (.cells #[.int .i64 a, .int .i64 b, .int .i64 c, .int .i64 d] ta)).cell? ⟨w.heap.size, 1, none⟩ = some (.int .i64 b) ∧ (w.alloc (.cells #[.int .i64 a, .int .i64 b, .int .i64 c, .int .i64 d] ta)).cell? ⟨w.heap.size, 2, none⟩ = some (.int .i64 c) ∧ (w.alloc (.cells #[.int .i64 a, .int .i64 b, .int .i64 c, .int .i64 d] ta)).cell? ⟨w.heap.size, 3, none⟩ = some (.int .i64 d) := by
  refine ⟨?_, ?_, ?_, ?_⟩ <;> simp [go_sem]
theorem bkB {W w' : World} {p : Nat} {a b c d : Int} (B : Below W.heap.size W w')
    (k : W.cell? ⟨p, 0, none⟩ = some (.int .i64 a) ∧ W.cell? ⟨p, 1, none⟩ = some (.int .i64 b) ∧ W.cell? ⟨p, 2, none⟩ = some (.int .i64 c) ∧ W.cell? ⟨p, 3, none⟩ = some (.int .i64 d)) :
    w'.cell? ⟨p, 0, none⟩ = some (.int .i64 a) ∧ w'.cell? ⟨p, 1, none⟩ = some (.int .i64 b) ∧ w'.cell? ⟨p, 2, none⟩ = some (.int .i64 c) ∧ w'.cell? ⟨p, 3, none⟩ = some (.int .i64 d) :=
  ⟨bat B k.1, bat B k.2.1, bat B k.2.2.1, bat B k.2.2.2⟩

theorem bcBB (w : World) (a b c d m n r s : Int) (ta tm : TypeId) :
    ((w.alloc (.cells #[.int .i64 a, .int .i64 b, .int .i64 c, .int .i64 d] ta)).alloc (.cells #[.int .i64 m, .int .i64 n, .int .i64 r, .int .i64 s] tm)).cell? ⟨w.heap.size, 0, none⟩ = some (.int .i64 a) ∧ ((w.alloc (.cells #[.int .i64 a, .int .i64 b, .int .i64 c, .int .i64 d] ta)).alloc (.cells #[.int .i64 m, .int .i64 n, .int .i64 r, .int .i64 s] tm)).cell? ⟨w.heap.size, 1, none⟩ = some (.int .i64 b) ∧ ((w.alloc (.cells #[.int .i64 a, .int .i64 b, .int .i64 c, .int .i64 d] ta)).alloc (.cells #[.int .i64 m, .int .i64 n, .int .i64 r, .int .i64 s] tm)).cell? ⟨w.heap.size, 2, none⟩ = some (.int .i64 c) ∧ ((w.alloc (.cells #[.int .i64 a, .int .i64 b, .int .i64 c, .int .i64 d] ta)).alloc (.cells #[.int .i64 m, .int .i64 n, .int .i64 r, .int .i64 s] tm)).cell? ⟨w.heap.size, 3, none⟩ = some (.int .i64 d) ∧ ((w.alloc (.cells #[.int .i64 a, .int .i64 b, .int .i64 c, .int .i64 d] ta)).alloc (.cells #[.int .i64 m, .int .i64 n, .int .i64 r, .int .i64 s] tm)).cell? ⟨w.heap.size + 1, 0, none⟩ = some (.int .i64 m) ∧ ((w.alloc (.cells #[.int .i64 a, .int .i64 b, .int .i64 c, .int .i64 d] ta)).alloc (.cells #[.int .i64 m, .int .i64 n, .int .i64 r, .int .i64 s] tm)).cell? ⟨w.heap.size + 1, 1, none⟩ = some (.int .i64 n) ∧ ((w.alloc (.cells #[.int .i64 a, .int .i64 b, .int .i64 c, .int .i64 d] ta)).alloc (.cells #[.int .i64 m, .int .i64 n, .int .i64 r, .int .i64 s] tm)).cell? ⟨w.heap.size + 1, 2, none⟩ = some (.int .i64 r) ∧ ((w.alloc (.cells #[.int .i64 a, .int .i64 b, .int .i64 c, .int .i64 d] ta)).alloc (.cells #[.int .i64 m, .int .i64 n, .int .i64 r, .int .i64 s] tm)).cell? ⟨w.heap.size + 1, 3, none⟩ = some (.int .i64 s) := by
  refine ⟨?_, ?_, ?_, ?_, ?_, ?_, ?_, ?_⟩ <;> simp [go_sem]
theorem bkBB {W w' : World} {p : Nat} {a b c d m n r s : Int} (B : Below W.heap.size W w')
    (k : W.cell? ⟨p, 0, none⟩ = some (.int .i64 a) ∧ W.cell? ⟨p, 1, none⟩ = some (.int .i64 b) ∧ W.cell? ⟨p, 2, none⟩ = some (.int .i64 c) ∧ W.cell? ⟨p, 3, none⟩ = some (.int .i64 d) ∧ W.cell? ⟨p + 1, 0, none⟩ = some (.int .i64 m) ∧ W.cell? ⟨p + 1, 1, none⟩ = some (.int .i64 n) ∧ W.cell? ⟨p + 1, 2, none⟩ = some (.int .i64 r) ∧ W.cell? ⟨p + 1, 3, none⟩ = some (.int .i64 s)) :
    w'.cell? ⟨p, 0, none⟩ = some (.int .i64 a) ∧ w'.cell? ⟨p, 1, none⟩ = some (.int .i64 b) ∧ w'.cell? ⟨p, 2, none⟩ = some (.int .i64 c) ∧ w'.cell? ⟨p, 3, none⟩ = some (.int .i64 d) ∧ w'.cell? ⟨p + 1, 0, none⟩ = some (.int .i64 m) ∧ w'.cell? ⟨p + 1, 1, none⟩ = some (.int .i64 n) ∧ w'.cell? ⟨p + 1, 2, none⟩ = some (.int .i64 r) ∧ w'.cell? ⟨p + 1, 3, none⟩ = some (.int .i64 s) :=
  ⟨bat B k.1, bat B k.2.1, bat B k.2.2.1, bat B k.2.2.2.1, bat B k.2.2.2.2.1, bat B k.2.2.2.2.2.1, bat B k.2.2.2.2.2.2.1, bat B k.2.2.2.2.2.2.2⟩

theorem bcBP (w : World) (a b c d x y : Int) (ta tx : TypeId) :
    ((w.alloc (.cells #[.int .i64 a, .int .i64 b, .int .i64 c, .int .i64 d] ta)).alloc (.cells #[.int .i64 x, .int .i64 y] tx)).cell? ⟨w.heap.size, 0, none⟩ = some (.int .i64 a) ∧ ((w.alloc (.cells #[.int .i64 a, .int .i64 b, .int .i64 c, .int .i64 d] ta)).alloc (.cells #[.int .i64 x, .int .i64 y] tx)).cell? ⟨w.heap.size, 1, none⟩ = some (.int .i64 b) ∧ ((w.alloc (.cells #[.int .i64 a, .int .i64 b, .int .i64 c, .int .i64 d] ta)).alloc (.cells #[.int .i64 x, .int .i64 y] tx)).cell? ⟨w.heap.size, 2, none⟩ = some (.int .i64 c) ∧ ((w.alloc (.cells #[.int .i64 a, .int .i64 b, .int .i64 c, .int .i64 d] ta)).alloc (.cells #[.int .i64 x, .int .i64 y] tx)).cell? ⟨w.heap.size, 3, none⟩ = some (.int .i64 d) ∧ ((w.alloc (.cells #[.int .i64 a, .int .i64 b, .int .i64 c, .int .i64 d] ta)).alloc (.cells #[.int .i64 x, .int .i64 y] tx)).cell? ⟨w.heap.size + 1, 0, none⟩ = some (.int .i64 x) ∧ ((w.alloc (.cells #[.int .i64 a, .int .i64 b, .int .i64 c, .int .i64 d] ta)).alloc (.cells #[.int .i64 x, .int .i64 y] tx)).cell? ⟨w.heap.size + 1, 1, none⟩ = some (.int .i64 y) := by
  refine ⟨?_, ?_, ?_, ?_, ?_, ?_⟩ <;> simp [go_sem]
theorem bkBP {W w' : World} {p : Nat} {a b c d x y : Int} (B : Below W.heap.size W w')
    (k : W.cell? ⟨p, 0, none⟩ = some (.int .i64 a) ∧ W.cell? ⟨p, 1, none⟩ = some (.int .i64 b) ∧ W.cell? ⟨p, 2, none⟩ = some (.int .i64 c) ∧ W.cell? ⟨p, 3, none⟩ = some (.int .i64 d) ∧ W.cell? ⟨p + 1, 0, none⟩ = some (.int .i64 x) ∧ W.cell? ⟨p + 1, 1, none⟩ = some (.int .i64 y)) :
    w'.cell? ⟨p, 0, none⟩ = some (.int .i64 a) ∧ w'.cell? ⟨p, 1, none⟩ = some (.int .i64 b) ∧ w'.cell? ⟨p, 2, none⟩ = some (.int .i64 c) ∧ w'.cell? ⟨p, 3, none⟩ = some (.int .i64 d) ∧ w'.cell? ⟨p + 1, 0, none⟩ = some (.int .i64 x) ∧ w'.cell? ⟨p + 1, 1, none⟩ = some (.int .i64 y) :=
  ⟨bat B k.1, bat B k.2.1, bat B k.2.2.1, bat B k.2.2.2.1, bat B k.2.2.2.2.1, bat B k.2.2.2.2.2⟩

theorem bcPP (w : World) (a b c d : Int) (ta tc : TypeId) :
    ((w.alloc (.cells #[.int .i64 a, .int .i64 b] ta)).alloc (.cells #[.int .i64 c, .int .i64 d] tc)).cell? ⟨w.heap.size, 0, none⟩ = some (.int .i64 a) ∧ ((w.alloc (.cells #[.int .i64 a, .int .i64 b] ta)).alloc (.cells #[.int .i64 c, .int .i64 d] tc)).cell? ⟨w.heap.size, 1, none⟩ = some (.int .i64 b) ∧ ((w.alloc (.cells #[.int .i64 a, .int .i64 b] ta)).alloc (.cells #[.int .i64 c, .int .i64 d] tc)).cell? ⟨w.heap.size + 1, 0, none⟩ = some (.int .i64 c) ∧ ((w.alloc (.cells #[.int .i64 a, .int .i64 b] ta)).alloc (.cells #[.int .i64 c, .int .i64 d] tc)).cell? ⟨w.heap.size + 1, 1, none⟩ = some (.int .i64 d) := by
  refine ⟨?_, ?_, ?_, ?_⟩ <;> simp [go_sem]
theorem bkPP {W w' : World} {p : Nat} {a b c d : Int} (B : Below W.heap.size W w')
    (k : W.cell? ⟨p, 0, none⟩ = some (.int .i64 a) ∧ W.cell? ⟨p, 1, none⟩ = some (.int .i64 b) ∧ W.cell? ⟨p + 1, 0, none⟩ = some (.int .i64 c) ∧ W.cell? ⟨p + 1, 1, none⟩ = some (.int .i64 d)) :
    w'.cell? ⟨p, 0, none⟩ = some (.int .i64 a) ∧ w'.cell? ⟨p, 1, none⟩ = some (.int .i64 b) ∧ w'.cell? ⟨p + 1, 0, none⟩ = some (.int .i64 c) ∧ w'.cell? ⟨p + 1, 1, none⟩ = some (.int .i64 d) :=
  ⟨bat B k.1, bat B k.2.1, bat B k.2.2.1, bat B k.2.2.2⟩

set_option maxHeartbeats 4000000 in
theorem implBoxOk (a b c d : Int) (w : World) :
    Calls Tryz.prog 26 #[.agg #[.int .i64 a, .int .i64 b, .int .i64 c, .int .i64 d]] w fun e w' => e = .returned (.bool (boxOk a b c d)) ∧ Below w.heap.size w w' := by
  have H : Hid (boxOk a b c d = (ptOk a b && (ptOk c d && (decide (a ≤ c) && decide (b ≤ d))))) := (rfl : boxOk a b c d = _)
  cases h1 : ptOk a b <;> cases h2 : ptOk c d
  all_goals
    have k0 := bcB w a b c d 34
    have B0 := below1 w (.cells #[.int .i64 a, .int .i64 b, .int .i64 c, .int .i64 d] 34)
    go_enter Tryz.func26, Tryz.ntmps26
    go_wp2_with fail
    generalize (w.alloc (.cells #[.int .i64 a, .int .i64 b, .int .i64 c, .int .i64 d] 34)) = W0 at *
    have B : Below W0.heap.size W0 W0 := Below.refl _ _
    have K := k0
    obtain ⟨k1, k2, k3, k4⟩ := k0
    go_wp2_with (first | (go_at_call 43; refine (implPtOk _ _ _).mono ?_; rintro e w1 ⟨rfl, hb⟩; (first | rw [h1] | rw [h2]); replace B := B.trans (hb.mono B.size); clear hb; obtain ⟨k1, k2, k3, k4⟩ := bkB B K))
  all_goals
    go_ret
    exact ⟨ret_bool (by rw [H.out]; simp_all <;> omega), B0.trans (B.mono B0.size)⟩

set_option maxHeartbeats 4000000 in
theorem specBoxOk (a b c d : Int) (w : World) :
    Calls Tryz.prog 41 #[.agg #[.int .i64 a, .int .i64 b, .int .i64 c, .int .i64 d]] w fun e w' => e = .returned (.bool (boxOk a b c d)) ∧ Below w.heap.size w w' := by
  have H : Hid (boxOk a b c d = (ptOk a b && (ptOk c d && (decide (a ≤ c) && decide (b ≤ d))))) := (rfl : boxOk a b c d = _)
  cases h1 : ptOk a b <;> cases h2 : ptOk c d
  all_goals
    have k0 := bcB w a b c d 34
    have B0 := below1 w (.cells #[.int .i64 a, .int .i64 b, .int .i64 c, .int .i64 d] 34)
    go_enter Tryz.func41, Tryz.ntmps41
    go_wp2_with fail
    generalize (w.alloc (.cells #[.int .i64 a, .int .i64 b, .int .i64 c, .int .i64 d] 34)) = W0 at *
    have B : Below W0.heap.size W0 W0 := Below.refl _ _
    have K := k0
    obtain ⟨k1, k2, k3, k4⟩ := k0
    go_wp2_with (first | (go_at_call 58; refine (specPtOk _ _ _).mono ?_; rintro e w1 ⟨rfl, hb⟩; (first | rw [h1] | rw [h2]); replace B := B.trans (hb.mono B.size); clear hb; obtain ⟨k1, k2, k3, k4⟩ := bkB B K))
  all_goals
    go_ret
    exact ⟨ret_bool (by rw [H.out]; simp_all <;> omega), B0.trans (B.mono B0.size)⟩

def eqP (a b c d : Int) : Bool := decide (a = c) && decide (b = d)
theorem eqP_refl (a b : Int) : eqP a b a b = true := by simp [eqP]
theorem eqPt_any (a b c d : Int) (w : World) :
    Calls Tryz.prog 76 #[.agg #[.int .i64 a, .int .i64 b], .agg #[.int .i64 c, .int .i64 d]] w fun e w' => e = .returned (.bool (eqP a b c d)) ∧ Below w.heap.size w w' := by
  have H : Hid (eqP a b c d = (decide (a = c) && decide (b = d))) := (rfl : eqP a b c d = _)
  go_enter Tryz.func76, Tryz.ntmps76
  go_wp2
  all_goals
    go_ret
    exact ⟨ret_bool (by rw [H.out]; simp_all), below2 _ _ _⟩

def eqX (a b c d m n r s : Int) : Bool := eqP a b m n && eqP c d r s
theorem eqX_refl (a b c d : Int) : eqX a b c d a b c d = true := by simp [eqX, eqP]
theorem ret_int {a b : Int} (h : a = b) : Ending.returned (.int .i64 a) = .returned (.int .i64 b) := by rw [h]
theorem Box4.putLo {lo p : Nat} {w : World} {x0 x1 x2 x3 : Value} (h : Box4 lo w p x0 x1 x2 x3) (u0 u1 : Value) : Box4 lo ((w.setCell ⟨p, 0, none⟩ u0).setCell ⟨p, 1, none⟩ u1) p u0 u1 x2 x3 :=
  ⟨(put_new2 h.c0 h.c1 u0 u1).1, (put_new2 h.c0 h.c1 u0 u1).2, (cell_other (.inr (by decide)) u1).trans ((cell_other (.inr (by decide)) u0).trans h.c2), (cell_other (.inr (by decide)) u1).trans ((cell_other (.inr (by decide)) u0).trans h.c3), fun o => (put_frozen2 p _ u0 u1).trans (h.fr o), h.lo⟩
theorem Box4.putHi {lo p : Nat} {w : World} {x0 x1 x2 x3 : Value} (h : Box4 lo w p x0 x1 x2 x3) (u0 u1 : Value) : Box4 lo ((w.setCell ⟨p, 2, none⟩ u0).setCell ⟨p, 3, none⟩ u1) p x0 x1 u0 u1 :=
  ⟨(cell_other (.inr (by decide)) u1).trans ((cell_other (.inr (by decide)) u0).trans h.c0), (cell_other (.inr (by decide)) u1).trans ((cell_other (.inr (by decide)) u0).trans h.c1), (cell_other (.inr (by decide)) u1).trans (cell_same h.c2 u0), cell_same ((cell_other (.inr (by decide)) u0).trans h.c3) u1, fun o => ((World.frozen?_setCell ..).trans (World.frozen?_setCell ..)).trans (h.fr o), h.lo⟩
theorem Box4.oldAny {lo p q : Nat} {w : World} {x0 x1 x2 x3 : Value} (h : Box4 lo w q x0 x1 x2 x3) (ne : q ≠ p) (i : Nat) (u : Value) : Box4 lo (w.setCell ⟨p, i, none⟩ u) q x0 x1 x2 x3 :=
  ⟨(cell_other (.inl (Ne.symm ne)) u).trans h.c0, (cell_other (.inl (Ne.symm ne)) u).trans h.c1, (cell_other (.inl (Ne.symm ne)) u).trans h.c2, (cell_other (.inl (Ne.symm ne)) u).trans h.c3, fun o => (World.frozen?_setCell ..).trans (h.fr o), h.lo⟩

theorem toBox_any (a b c d : Int) (w : World) :
    Calls Tryz.prog 8 #[.agg #[.int .i64 a, .int .i64 b, .int .i64 c, .int .i64 d]] w fun e w' => e = .returned (.agg #[.int .i64 a, .int .i64 b, .int .i64 c, .int .i64 d]) ∧ Below w.heap.size w w' := by
  have B := below3 w (.cells #[.int .i64 a, .int .i64 b, .int .i64 c, .int .i64 d] 26) (.cells #[.int .i64 0, .int .i64 0, .int .i64 0, .int .i64 0] 34) (.cells #[.int .i64 0, .int .i64 0, .int .i64 0, .int .i64 0] 34)
  have P0 := (Box4.new w (Nat.le_refl _) (.int .i64 a) (.int .i64 b) (.int .i64 c) (.int .i64 d) 26).below (below2 _ (.cells #[.int .i64 0, .int .i64 0, .int .i64 0, .int .i64 0] 34) (.cells #[.int .i64 0, .int .i64 0, .int .i64 0, .int .i64 0] 34))
  have P1 := (Box4.new (w.alloc (.cells #[.int .i64 a, .int .i64 b, .int .i64 c, .int .i64 d] 26)) (lo := w.heap.size) (by simp) (.int .i64 0) (.int .i64 0) (.int .i64 0) (.int .i64 0) 34).below (below1 _ (.cells #[.int .i64 0, .int .i64 0, .int .i64 0, .int .i64 0] 34))
  have P2 := (Box4.new ((w.alloc (.cells #[.int .i64 a, .int .i64 b, .int .i64 c, .int .i64 d] 26)).alloc (.cells #[.int .i64 0, .int .i64 0, .int .i64 0, .int .i64 0] 34)) (lo := w.heap.size) (by simp; omega) (.int .i64 0) (.int .i64 0) (.int .i64 0) (.int .i64 0) 34)
  simp only [World.size_alloc] at P1 P2
  go_enter Tryz.func8, Tryz.ntmps8
  go_wp2_with fail
  generalize (((w.alloc (.cells #[.int .i64 a, .int .i64 b, .int .i64 c, .int .i64 d] 26)).alloc (.cells #[.int .i64 0, .int .i64 0, .int .i64 0, .int .i64 0] 34)).alloc (.cells #[.int .i64 0, .int .i64 0, .int .i64 0, .int .i64 0] 34)) = W0 at *
  refine (toPt_any _ _ _).mono ?_
  rintro e w1 ⟨rfl, hb⟩
  replace B := B.trans (hb.mono B.size)
  replace P0 := P0.below hb
  replace P1 := P1.below hb
  replace P2 := P2.below hb
  clear hb
  obtain ⟨c0, c1, c2, c3, cf, _⟩ := P2
  obtain ⟨d0, d1, d2, d3, df, _⟩ := P0
  go_wp2_with fail
  replace B := (B.setCell (p := ⟨w.heap.size + 1 + 1, 0, none⟩) (by simp; omega) (.int .i64 a)).setCell (p := ⟨w.heap.size + 1 + 1, 1, none⟩) (by simp; omega) (.int .i64 b)
  replace P1 := (P1.oldAny (p := w.heap.size + 1 + 1) (by omega) 0 (.int .i64 a)).oldAny (p := w.heap.size + 1 + 1) (by omega) 1 (.int .i64 b)
  have P2 := (Box4.mk (lo := w.heap.size) c0 c1 c2 c3 cf (by omega)).putLo (.int .i64 a) (.int .i64 b)
  clear c0 c1 c2 c3 cf d0 d1 d2 d3 df
  generalize (w1.setCell ⟨w.heap.size + 1 + 1, 0, none⟩ (.int .i64 a)).setCell ⟨w.heap.size + 1 + 1, 1, none⟩ (.int .i64 b) = W2 at *
  refine (toPt_any _ _ _).mono ?_
  rintro e w3 ⟨rfl, hb⟩
  replace B := B.trans (hb.mono B.size)
  replace P1 := P1.below hb
  replace P2 := P2.below hb
  clear hb
  obtain ⟨c0, c1, c2, c3, cf, _⟩ := P2
  have Q1 := P1
  obtain ⟨d0, d1, d2, d3, df, _⟩ := P1
  go_wp2
  exact bodyPost_ret (v := _) (by simp [results, Tryz.results8, go_sem, d0, d1, d2, d3]; try rfl) rfl ⟨rfl, (((((B.setCell (by simp; omega) _).setCell (by simp; omega) _).setCell (by simp) _).setCell (by simp) _).setCell (by simp) _).setCell (by simp) _⟩

end Go.Proofs.YtecjeomcbcpfiaaGreat

/- Lists of points: in memory, their least box. -/
namespace Go.Proofs.YtecjeomcbcpfiaaGreat
open Go.RowKit

/-- Points that lie in memory, one behind the other. -/
structure SeesP (w : World) (a : Option Addr) (cap : Nat) (ps : List (Int × Int)) : Prop where
  fits : ps.length ≤ cap
  max : cap ≤ maxLen
  cells : ps ≠ [] → ∃ b off, a = some ⟨b, off, none⟩ ∧ ∀ i, i < ps.length → w.cell? ⟨b, off + i * 2, none⟩ = some (.int .i64 (ps[i]?.getD (0, 0)).1) ∧ w.cell? ⟨b, off + i * 2 + 1, none⟩ = some (.int .i64 (ps[i]?.getD (0, 0)).2)
theorem SeesP.below {w w' : World} {a : Option Addr} {cap : Nat} {ps : List (Int × Int)} (h : SeesP w a cap ps) (hb : Below w.heap.size w w') : SeesP w' a cap ps :=
  ⟨h.fits, h.max, fun hn => by
    obtain ⟨b, off, ha, hc⟩ := h.cells hn
    exact ⟨b, off, ha, fun i hi => ⟨bat hb (hc i hi).1, bat hb (hc i hi).2⟩⟩⟩

def okL (ps : List (Int × Int)) : Bool := ps.all fun p => ptOk p.1 p.2
def bxA (ps : List (Int × Int)) (a : Int) : Int := ps.foldl (fun a p => min a p.1) a
def bxB (ps : List (Int × Int)) (a : Int) : Int := ps.foldl (fun a p => min a p.2) a
def bxC (ps : List (Int × Int)) (a : Int) : Int := ps.foldl (fun a p => max a p.1) a
def bxD (ps : List (Int × Int)) (a : Int) : Int := ps.foldl (fun a p => max a p.2) a
/-- The first point. -/
def hd (ps : List (Int × Int)) : Int × Int := ps[0]?.getD (0, 0)
def bOk (ps : List (Int × Int)) : Bool := !ps.isEmpty && okL ps
def bA (ps : List (Int × Int)) : Int := if bOk ps then bxA ps (hd ps).1 else 0
def bB (ps : List (Int × Int)) : Int := if bOk ps then bxB ps (hd ps).2 else 0
def bC (ps : List (Int × Int)) : Int := if bOk ps then bxC ps (hd ps).1 else 0
def bD (ps : List (Int × Int)) : Int := if bOk ps then bxD ps (hd ps).2 else 0

theorem takeS {ps : List (Int × Int)} {j : Nat} (h : j < ps.length) : ps.take (j + 1) = ps.take j ++ [ps[j]?.getD (0, 0)] := by
  rw [List.take_succ_eq_append_getElem h, List.getElem?_eq_getElem h]
  rfl
theorem okL_step {ps : List (Int × Int)} {j : Nat} (h : j < ps.length) (k : okL (ps.take j) = true) : okL (ps.take (j + 1)) = ptOk (ps[j]?.getD (0, 0)).1 (ps[j]?.getD (0, 0)).2 := by
  rw [takeS h]
  unfold okL at *
  rw [List.all_append, k]
  simp
theorem okL_bad {ps : List (Int × Int)} {j : Nat} (h : j < ps.length) (k : ptOk (ps[j]?.getD (0, 0)).1 (ps[j]?.getD (0, 0)).2 = false) : okL ps = false := by
  unfold okL
  rw [List.all_eq_false]
  refine ⟨ps[j], List.getElem_mem h, ?_⟩
  rw [List.getElem?_eq_getElem h] at k
  simpa using k
theorem f_step {ps : List (Int × Int)} {j : Nat} (h : j < ps.length) (a : Int) :
    bxA (ps.take (j + 1)) a = min (bxA (ps.take j) a) (ps[j]?.getD (0, 0)).1 ∧ bxB (ps.take (j + 1)) a = min (bxB (ps.take j) a) (ps[j]?.getD (0, 0)).2 ∧ bxC (ps.take (j + 1)) a = max (bxC (ps.take j) a) (ps[j]?.getD (0, 0)).1 ∧ bxD (ps.take (j + 1)) a = max (bxD (ps.take j) a) (ps[j]?.getD (0, 0)).2 := by
  rw [takeS h]
  unfold bxA bxB bxC bxD
  simp [List.foldl_append]
theorem b_bad {ps : List (Int × Int)} (h : bOk ps = false) : bA ps = 0 ∧ bB ps = 0 ∧ bC ps = 0 ∧ bD ps = 0 := by
  unfold bA bB bC bD
  rw [h]
  exact ⟨rfl, rfl, rfl, rfl⟩
theorem b_good {ps : List (Int × Int)} (h : bOk ps = true) : bA ps = bxA ps (hd ps).1 ∧ bB ps = bxB ps (hd ps).2 ∧ bC ps = bxC ps (hd ps).1 ∧ bD ps = bxD ps (hd ps).2 := by
  unfold bA bB bC bD
  rw [h]
  exact ⟨rfl, rfl, rfl, rfl⟩
end Go.Proofs.YtecjeomcbcpfiaaGreat
