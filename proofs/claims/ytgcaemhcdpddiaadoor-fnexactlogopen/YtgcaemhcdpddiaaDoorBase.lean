import Derived.WalkKit
import Derived.ProofKit
import Derived.Deep.Draws
import Derived.Laws.AppendOwnNone
import Derived.Maps.AppendAt
import Derived.Test.YtgcaemhcdpddiaaDoorProg
import Derived.BigRegion
/- Limbs and their number; what a slice of limbs reads in memory. No program is named here. -/
namespace Go.Proofs.YtgcaemhcdpddiaaDoor
open Go.RowKit

/-- A number of its limbs, the lowest first. -/
def val : List Int → Int
  | [] => 0
  | x :: r => x + 4294967296 * val r

/-- Each is a limb. -/
def Lim (xs : List Int) : Prop := ∀ x ∈ xs, 0 ≤ x ∧ x < 4294967296

/-- The highest limb, if there is one, is not 0. -/
def Nrm : List Int → Prop
  | [] => True
  | [x] => x ≠ 0
  | _ :: y :: r => Nrm (y :: r)

theorem Lim.nil : Lim [] := by intro x h; cases h
theorem Lim.cons {x : Int} {r : List Int} (h : Lim (x :: r)) : (0 ≤ x ∧ x < 4294967296) ∧ Lim r :=
  ⟨h x (List.mem_cons_self), fun y hy => h y (List.mem_cons_of_mem _ hy)⟩
theorem Lim.mk {x : Int} {r : List Int} (h : 0 ≤ x ∧ x < 4294967296) (hr : Lim r) : Lim (x :: r) := by
  intro y hy
  rcases List.mem_cons.1 hy with rfl | hy
  · exact h
  · exact hr y hy

theorem val_nonneg : ∀ {xs : List Int}, Lim xs → 0 ≤ val xs
  | [], _ => by simp [val]
  | x :: r, h => by
    obtain ⟨hx, hr⟩ := h.cons
    have := val_nonneg hr
    simp only [val]; omega

theorem val_lt : ∀ {xs : List Int}, Lim xs → val xs < 4294967296 ^ xs.length
  | [], _ => by simp [val]
  | x :: r, h => by
    obtain ⟨hx, hr⟩ := h.cons
    have := val_lt hr
    simp only [val, List.length_cons, Int.pow_succ]
    omega

theorem val_pos : ∀ {xs : List Int}, Lim xs → Nrm xs → xs ≠ [] → 0 < val xs
  | [], _, _, h => absurd rfl h
  | [x], h, hn, _ => by
    obtain ⟨hx, _⟩ := h.cons
    simp only [Nrm] at hn
    simp only [val]; omega
  | x :: y :: r, h, hn, _ => by
    obtain ⟨hx, hr⟩ := h.cons
    have := val_pos hr hn (by simp)
    simp only [val] at this ⊢; omega

theorem val_inj : ∀ {xs ys : List Int}, Lim xs → Lim ys → Nrm xs → Nrm ys → val xs = val ys → xs = ys
  | [], [], _, _, _, _, _ => rfl
  | [], y :: s, _, h, _, hn, e => by
    have := val_pos h hn (by simp); simp only [val] at this e; omega
  | x :: r, [], h, _, hn, _, e => by
    have := val_pos h hn (by simp); simp only [val] at this e; omega
  | x :: r, y :: s, hx, hy, nx, ny, e => by
    obtain ⟨bx, lr⟩ := hx.cons
    obtain ⟨by', ls⟩ := hy.cons
    simp only [val] at e
    have e1 : x = y := by omega
    have e2 : val r = val s := by omega
    have nr : Nrm r := by cases r <;> simp_all [Nrm]
    have ns : Nrm s := by cases s <;> simp_all [Nrm]
    rw [e1, val_inj lr ls nr ns e2]

theorem val_append (xs ys : List Int) : val (xs ++ ys) = val xs + 4294967296 ^ xs.length * val ys := by
  induction xs with
  | nil => simp [val]
  | cons x r ih =>
    simp only [List.cons_append, val, ih, List.length_cons, Int.pow_succ]
    rw [Int.mul_add, ← Int.mul_assoc, Int.mul_comm 4294967296 (4294967296 ^ r.length), Int.add_assoc]

theorem Lim.take {xs : List Int} (h : Lim xs) (n : Nat) : Lim (xs.take n) := fun x hx => h x (List.mem_of_mem_take hx)
theorem Lim.append {xs ys : List Int} (h : Lim xs) (k : Lim ys) : Lim (xs ++ ys) := by
  intro x hx
  rcases List.mem_append.1 hx with hx | hx
  · exact h x hx
  · exact k x hx
theorem Lim.get {xs : List Int} (h : Lim xs) (i : Nat) : 0 ≤ xs[i]?.getD 0 ∧ xs[i]?.getD 0 < 4294967296 := by
  cases e : xs[i]? with
  | none => simp
  | some x => simpa using h x (List.mem_of_getElem? e)

/-- The limbs below the noughts on top. -/
theorem Nrm_of_last : ∀ {xs : List Int}, (∀ x, xs.getLast? = some x → x ≠ 0) → Nrm xs
  | [], _ => trivial
  | [x], h => h x (by simp)
  | x :: y :: r, h => Nrm_of_last (xs := y :: r) (fun z hz => h z (by simpa using hz))

theorem last_of_Nrm : ∀ {xs : List Int}, Nrm xs → ∀ x, xs.getLast? = some x → x ≠ 0
  | [], _, x, h => by simp at h
  | [y], hn, x, h => by simp only [List.getLast?_singleton, Option.some.injEq] at h; subst h; exact hn
  | _ :: y :: r, hn, x, h => last_of_Nrm (xs := y :: r) hn x (by simpa using h)

/-- Noughts on top do not count. -/
theorem val_take_zeros (xs : List Int) (n : Nat) (h : ∀ i, n ≤ i → xs[i]?.getD 0 = 0) : val (xs.take n) = val xs := by
  induction xs generalizing n with
  | nil => simp
  | cons x r ih =>
    cases n with
    | zero =>
      have hx : x = 0 := by simpa using h 0 (Nat.le_refl _)
      have := ih 0 (fun i hi => by simpa using h (i + 1) (by omega))
      simp only [List.take_zero, val] at this ⊢; omega
    | succ n =>
      have := ih n (fun i hi => by simpa using h (i + 1) (by omega))
      simp only [List.take_succ_cons, val, this]

/-! ### Memory -/

/-- A slice (its address, its capacity) that came in, whose elements read as the limbs xs. -/
structure Came (w : World) (a : Option Addr) (cap : Nat) (xs : List Int) : Prop where
  lim : Lim xs
  fits : xs.length ≤ cap
  max : cap ≤ maxLen
  cells : xs ≠ [] → ∃ b off, a = some ⟨b, off, none⟩ ∧ ∀ i, i < xs.length → w.cell? ⟨b, off + i, none⟩ = some (.int .u32 (xs[i]?.getD 0))

/-- .. and is nil without room, or leads to a plain place. -/
structure Sees (w : World) (a : Option Addr) (cap : Nat) (xs : List Int) : Prop extends Came w a cap xs where
  shape : (a = none ∧ cap = 0) ∨ ∃ b off, a = some ⟨b, off, none⟩

/-- .. that lies from block 'base' on, and may be written. -/
structure Own (base : Nat) (w : World) (a : Option Addr) (cap : Nat) (xs : List Int) : Prop extends Sees w a cap xs where
  new : ∀ b off, a = some ⟨b, off, none⟩ → xs ≠ [] → base ≤ b ∧ ∀ i, i < xs.length → w.frozen? ⟨b, off + i, none⟩ = false

theorem Came.below {w w' : World} {a : Option Addr} {cap : Nat} {xs : List Int} (h : Came w a cap xs) (hb : Below w.heap.size w w') : Came w' a cap xs := by
  refine ⟨h.lim, h.fits, h.max, fun hne => ?_⟩
  obtain ⟨b, off, ha, hc⟩ := h.cells hne
  exact ⟨b, off, ha, fun i hi => (hb.cell (World.block_lt_of_cell? _ _ (hc i hi))).trans (hc i hi)⟩
theorem Sees.below {w w' : World} {a : Option Addr} {cap : Nat} {xs : List Int} (h : Sees w a cap xs) (hb : Below w.heap.size w w') : Sees w' a cap xs := ⟨h.toCame.below hb, h.shape⟩

theorem Own.below {base : Nat} {w w' : World} {a : Option Addr} {cap : Nat} {xs : List Int} (h : Own base w a cap xs) (hb : Below w.heap.size w w') : Own base w' a cap xs := by
  refine ⟨h.toSees.below hb, fun b off ha hne => ?_⟩
  obtain ⟨h1, h2⟩ := h.new b off ha hne
  obtain ⟨b', off', ha', hc⟩ := h.cells hne
  rw [ha] at ha'
  simp only [Option.some.injEq, Addr.mk.injEq] at ha'
  obtain ⟨rfl, rfl, _⟩ := ha'
  exact ⟨h1, fun i hi => (hb.frozen (p := ⟨b, off + i, none⟩) (World.block_lt_of_cell? _ _ (hc i hi))).trans (h2 i hi)⟩

theorem Own.base_le {base base' : Nat} {w : World} {a : Option Addr} {cap : Nat} {xs : List Int} (h : Own base w a cap xs) (hb : base' ≤ base) : Own base' w a cap xs :=
  ⟨h.toSees, fun b off ha hne => ⟨Nat.le_trans hb (h.new b off ha hne).1, (h.new b off ha hne).2⟩⟩

/-! ### Writing into one row -/

/-- The block in which a slice's elements lie, if it has any. -/
def rowOf (a : Option Addr) (xs : List Int) : Option Nat := if xs = [] then none else a.map (·.block)

theorem grownBy_refl (w : World) (row : Option Nat) : w.grownBy w row := ⟨rfl, rfl, rfl, Nat.le_refl _, fun _ _ _ => rfl⟩
theorem grownBy_trans {a b c : World} {row : Option Nat} (h : a.grownBy b row) (k : b.grownBy c row) : a.grownBy c row :=
  ⟨k.os.trans h.os, k.tape.trans h.tape, k.output.trans h.output, Nat.le_trans h.size k.size,
    fun i hi hr => (k.block i (Nat.lt_of_lt_of_le hi h.size) hr).trans (h.block i hi hr)⟩
theorem grownBy_setCell {a w : World} {row : Option Nat} (h : a.grownBy w row) {p : Addr} (hp : row = some p.block) (u : Value) : a.grownBy (w.setCell p u) row :=
  grownBy_trans h ⟨rfl, rfl, rfl, by simp, fun k _ hr => Below.heap_setCell _ _ _ _ (fun e => hr (by rw [hp, e]))⟩
theorem grownBy_drewN {a w : World} {row : Option Nat} (h : a.grownBy w row) (n : Nat) : a.grownBy (w.drewN n) row :=
  grownBy_trans h ⟨rfl, rfl, rfl, Nat.le_refl _, fun _ _ _ => rfl⟩

theorem Came.kept {w w' : World} {a : Option Addr} {cap : Nat} {xs : List Int} {row : Option Nat} (h : Came w a cap xs) (hg : w.grownBy w' row)
    (hne : ∀ b off, a = some ⟨b, off, none⟩ → xs ≠ [] → row ≠ some b) : Came w' a cap xs := by
  refine ⟨h.lim, h.fits, h.max, fun hn => ?_⟩
  obtain ⟨b, off, ha, hc⟩ := h.cells hn
  refine ⟨b, off, ha, fun i hi => ?_⟩
  exact (World.cell?_of_block (hg.block b (World.block_lt_of_cell? _ _ (hc i hi)) (fun e => hne b off ha hn e.symm))).trans (hc i hi)

theorem Sees.kept {w w' : World} {a : Option Addr} {cap : Nat} {xs : List Int} {row : Option Nat} (h : Sees w a cap xs) (hg : w.grownBy w' row)
    (hne : ∀ b off, a = some ⟨b, off, none⟩ → xs ≠ [] → row ≠ some b) : Sees w' a cap xs := ⟨h.toCame.kept hg hne, h.shape⟩

theorem Own.kept {base : Nat} {w w' : World} {a : Option Addr} {cap : Nat} {xs : List Int} {row : Option Nat} (h : Own base w a cap xs) (hg : w.grownBy w' row)
    (hne : ∀ b off, a = some ⟨b, off, none⟩ → xs ≠ [] → row ≠ some b) : Own base w' a cap xs := by
  refine ⟨h.toSees.kept hg hne, fun b off ha hn => ?_⟩
  obtain ⟨h1, h2⟩ := h.new b off ha hn
  obtain ⟨b', off', ha', hc⟩ := h.cells hn
  rw [ha] at ha'
  simp only [Option.some.injEq, Addr.mk.injEq] at ha'
  obtain ⟨rfl, rfl, _⟩ := ha'
  exact ⟨h1, fun i hi => (World.frozen?_of_block (a := ⟨b, off + i, none⟩) (hg.block b (World.block_lt_of_cell? _ _ (hc i hi)) (fun e => hne b off ha hn e.symm))).trans (h2 i hi)⟩

theorem Came.lt {w : World} {a : Option Addr} {cap : Nat} {xs : List Int} (h : Came w a cap xs) {b off : Nat} (ha : a = some ⟨b, off, none⟩) (hn : xs ≠ []) : b < w.heap.size := by
  obtain ⟨b', off', ha', hc⟩ := h.cells hn
  rw [ha] at ha'
  simp only [Option.some.injEq, Addr.mk.injEq] at ha'
  obtain ⟨rfl, rfl, _⟩ := ha'
  have hp : 0 < xs.length := List.length_pos_iff.2 hn
  exact World.block_lt_of_cell? _ _ (hc 0 hp)

/-- What lay there before does not lie in a row that came later. -/
theorem apart_later {w w2 : World} {a a2 : Option Addr} {c c2 : Nat} {xs xs2 : List Int} (h : Came w a c xs) (k : Own w.heap.size w2 a2 c2 xs2) :
    ∀ b off, a = some ⟨b, off, none⟩ → xs ≠ [] → rowOf a2 xs2 ≠ some b := by
  intro b off ha hn e
  have hlt := h.lt ha hn
  unfold rowOf at e
  split at e
  · cases e
  · next hn2 =>
    obtain ⟨b2, off2, ha2, _⟩ := k.cells hn2
    have := (k.new b2 off2 ha2 hn2).1
    rw [ha2] at e
    simp at e
    omega
/-- .. nor what came later in a row that lay there before. -/
theorem apart_before {w w2 : World} {a a2 : Option Addr} {c c2 : Nat} {xs xs2 : List Int} (h : Came w a c xs) (k : Own w.heap.size w2 a2 c2 xs2) :
    ∀ b off, a2 = some ⟨b, off, none⟩ → xs2 ≠ [] → rowOf a xs ≠ some b := by
  intro b off ha hn e
  have h1 := (k.new b off ha hn).1
  unfold rowOf at e
  split at e
  · cases e
  · next hn2 =>
    obtain ⟨b2, off2, ha2, _⟩ := h.cells hn2
    have := h.lt ha2 hn2
    rw [ha2] at e
    simp at e
    omega

theorem below_of_grown {base : Nat} {w w' : World} {a : Option Addr} {c : Nat} {xs : List Int} (k : Own base w a c xs) (hg : w.grownBy w' (rowOf a xs)) (hb : base ≤ w.heap.size) : Below base w w' := by
  refine ⟨hg.os, hg.tape, hg.output, hg.size, fun i hi => ?_⟩
  refine hg.block i (by omega) (fun e => ?_)
  unfold rowOf at e
  split at e
  · cases e
  · next hn =>
    obtain ⟨b2, off2, ha2, _⟩ := k.cells hn
    have := (k.new b2 off2 ha2 hn).1
    rw [ha2] at e
    simp at e
    omega

theorem Own.store {base : Nat} {w : World} {a : Option Addr} {cap : Nat} {xs : List Int} (h : Own base w a cap xs) {b off j : Nat} (ha : a = some ⟨b, off, none⟩) (hj : j < xs.length)
    {v : Int} (hv : 0 ≤ v ∧ v < 4294967296) : Own base (w.setCell ⟨b, off + j, none⟩ (.int .u32 v)) a cap (xs.set j v) := by
  have hn : xs ≠ [] := by intro e; simp [e] at hj
  obtain ⟨b', off', ha', hc⟩ := h.cells hn
  have hnew := h.new b off ha hn
  rw [ha] at ha'
  simp only [Option.some.injEq, Addr.mk.injEq] at ha'
  obtain ⟨rfl, rfl, _⟩ := ha'
  refine ⟨⟨⟨?_, by simpa using h.fits, h.max, fun _ => ⟨b, off, ha, fun i hi => ?_⟩⟩, h.shape⟩, fun b1 off1 ha1 _ => ?_⟩
  · intro x hx
    rcases List.mem_or_eq_of_mem_set hx with hx | rfl
    · exact h.lim x hx
    · exact hv
  · rw [List.length_set] at hi
    by_cases e : j = i
    · subst e
      rw [World.cell?_setCell_same _ _ _ (hc j hj)]
      simp [hj]
    · rw [World.cell?_setCell_other _ _ _ _ (by simp), hc i hi]
      simp [List.getElem?_set_ne e]
  · rw [ha] at ha1
    simp only [Option.some.injEq, Addr.mk.injEq] at ha1
    obtain ⟨rfl, rfl, _⟩ := ha1
    exact ⟨hnew.1, fun i hi => by rw [World.frozen?_setCell]; exact hnew.2 i (by simpa using hi)⟩

theorem Own.setCell {base : Nat} {w : World} {a : Option Addr} {cap : Nat} {xs : List Int} (h : Own base w a cap xs) {p : Addr} (hp : p.block < base) (u : Value) : Own base (w.setCell p u) a cap xs :=
  h.kept (grownBy_setCell (grownBy_refl w (some p.block)) rfl u) (fun b off ha hn e => by have := (h.new b off ha hn).1; simp at e; omega)

/-! ### Writing into a part of a row -/
/-- Of the block where a slice of n limbs lies, what is not in the slice is as it was. -/
def Still (w w' : World) (a : Option Addr) (n : Nat) : Prop := ∀ b off, a = some ⟨b, off, none⟩ → ∀ j, (j < off ∨ off + n ≤ j) → w'.cell? ⟨b, j, none⟩ = w.cell? ⟨b, j, none⟩ ∧ w'.frozen? ⟨b, j, none⟩ = w.frozen? ⟨b, j, none⟩
/-- Nothing but the slice was written. -/
def Wrote (w w' : World) (a : Option Addr) (n : Nat) (row : Option Nat) : Prop := w.grownBy w' row ∧ Still w w' a n
theorem Wrote.refl (w : World) (a : Option Addr) (n : Nat) (row : Option Nat) : Wrote w w a n row := ⟨grownBy_refl _ _, fun _ _ _ _ _ => ⟨rfl, rfl⟩⟩
theorem Wrote.trans {w w1 w2 : World} {a : Option Addr} {n : Nat} {row : Option Nat} (h : Wrote w w1 a n row) (k : Wrote w1 w2 a n row) : Wrote w w2 a n row :=
  ⟨grownBy_trans h.1 k.1, fun b off ha j hj => ⟨(k.2 b off ha j hj).1.trans (h.2 b off ha j hj).1, (k.2 b off ha j hj).2.trans (h.2 b off ha j hj).2⟩⟩
theorem Wrote.setCell {w w1 : World} {b off n : Nat} {row : Option Nat} (h : Wrote w w1 (some ⟨b, off, none⟩) n row) {j : Nat} (hr : row = some b) (hj : j < n) (u : Value) : Wrote w (w1.setCell ⟨b, off + j, none⟩ u) (some ⟨b, off, none⟩) n row := by
  refine ⟨grownBy_setCell h.1 hr u, fun b1 off1 ha i hi => ?_⟩
  have ha' := ha
  simp only [Option.some.injEq, Addr.mk.injEq] at ha'
  obtain ⟨rfl, rfl, _⟩ := ha'
  have hne : off + j ≠ i := by omega
  exact ⟨(World.cell?_setCell_other _ _ _ _ (by simp)).trans (h.2 _ _ ha i hi).1, (World.frozen?_setCell ..).trans (h.2 _ _ ha i hi).2⟩
theorem Wrote.drewN {w w1 : World} {a : Option Addr} {n : Nat} {row : Option Nat} (h : Wrote w w1 a n row) (m : Nat) : Wrote w (w1.drewN m) a n row :=
  ⟨grownBy_drewN h.1 m, fun b off ha j hj => h.2 b off ha j hj⟩

/-! ### Blocks of a call's own -/
theorem below1 (w : World) (o1 : Obj) : Below w.heap.size w (w.alloc o1) := (Below.refl _ _).alloc (Nat.le_refl _) _
theorem below2 (w : World) (o1 o2 : Obj) : Below w.heap.size w ((w.alloc o1).alloc o2) := (below1 w o1).alloc (by simp) _
theorem below3 (w : World) (o1 o2 o3 : Obj) : Below w.heap.size w (((w.alloc o1).alloc o2).alloc o3) := (below2 w o1 o2).alloc (by simp; omega) _
theorem below4 (w : World) (o1 o2 o3 o4 : Obj) : Below w.heap.size w ((((w.alloc o1).alloc o2).alloc o3).alloc o4) := (below3 w o1 o2 o3).alloc (by simp; omega) _
theorem below5 (w : World) (o1 o2 o3 o4 o5 : Obj) : Below w.heap.size w (((((w.alloc o1).alloc o2).alloc o3).alloc o4).alloc o5) := (below4 w o1 o2 o3 o4).alloc (by simp; omega) _
theorem bcell {W w1 : World} (hb : Below W.heap.size W w1) : (∀ b o, b < W.heap.size → w1.cell? ⟨b, o, none⟩ = W.cell? ⟨b, o, none⟩) ∧ (∀ b o, b < W.heap.size → w1.frozen? ⟨b, o, none⟩ = W.frozen? ⟨b, o, none⟩) :=
  ⟨fun b o h => hb.cell (p := ⟨b, o, none⟩) h, fun b o h => hb.frozen (p := ⟨b, o, none⟩) h⟩

theorem at_block {W w1 : World} (hb : Below W.heap.size W w1) {b : Nat} (h : b < W.heap.size) : (∀ o, w1.cell? ⟨b, o, none⟩ = W.cell? ⟨b, o, none⟩) ∧ (∀ o, w1.frozen? ⟨b, o, none⟩ = W.frozen? ⟨b, o, none⟩) :=
  ⟨fun o => hb.cell (p := ⟨b, o, none⟩) h, fun o => hb.frozen (p := ⟨b, o, none⟩) h⟩
theorem bat {W W' : World} (hb : Below W.heap.size W W') {p : Addr} {v : Value} (h : W.cell? p = some v) : W'.cell? p = some v := (hb.cell (World.block_lt_of_cell? _ _ h)).trans h
theorem cell_new (w : World) (c : Array Value) (t : TypeId) (i : Nat) {v : Value} (h : c[i]? = some v) : (w.alloc (.cells c t)).cell? ⟨w.heap.size, i, none⟩ = some v := by
  simp only [World.cell?, heap_alloc_new]
  exact h

/-! ### Marks -/
def marks (k : Int) : Nat → List Int
  | 0 => []
  | n + 1 => k :: marks (k + 1) n
theorem marks_length (k : Int) (n : Nat) : (marks k n).length = n := by
  induction n generalizing k with
  | zero => rfl
  | succ n ih => simp [marks, ih]
theorem marks_get (k : Int) (n j : Nat) (h : j < n) : (marks k n)[j]?.getD 0 = k + j := by
  induction n generalizing k j with
  | zero => omega
  | succ n ih =>
    cases j with
    | zero => simp [marks]
    | succ j =>
      have := ih (k + 1) j (by omega)
      simp only [marks, List.getElem?_cons_succ, this]
      omega
theorem marks_snoc (k : Int) (n : Nat) : marks k n ++ [k + n] = marks k (n + 1) := by
  induction n generalizing k with
  | zero => simp [marks]
  | succ n ih =>
    have := ih (k + 1)
    simp only [marks, List.cons_append] at this ⊢
    rw [← this]
    congr 3
    omega
theorem marks_step (k : Int) (xs : List Int) (j : Nat) (h : j < xs.length) : (marks k j ++ xs.drop j).set j (k + j) = marks k (j + 1) ++ xs.drop (j + 1) := by
  rw [List.set_append, if_neg (by rw [marks_length]; omega), marks_length, Nat.sub_self, ← marks_snoc, List.append_assoc]
  congr 1
  rw [List.drop_eq_getElem_cons h, List.set_cons_zero]
  rfl

/-! ### Rows that were made -/
theorem Own.of_row {w : World} {base e g n cap : Nat} {xs : List Int} (h : w.ownsRow base e 1 (.slice (some ⟨g, 0, none⟩) n cap) n (xs.map (Value.int .u32))) (hl : Lim xs) : Own base w (some ⟨g, 0, none⟩) cap xs ∧ n = xs.length := by
  obtain ⟨h1, h2⟩ := h
  have hn : n = xs.length := by simpa using h1.symm
  refine ⟨?_, hn⟩
  rcases h2 with ⟨h2, _⟩ | ⟨g', cap', cur, hv, hb, hh, hc, hm, hs, ht⟩
  · cases h2
  simp only [Value.slice.injEq, Option.some.injEq, Addr.mk.injEq, and_true] at hv
  obtain ⟨rfl, _, rfl⟩ := hv
  refine ⟨⟨⟨hl, by omega, hm, fun _ => ⟨g, 0, rfl, fun i hi => ?_⟩⟩, .inr ⟨g, 0, rfl⟩⟩, fun b off ha _ => ?_⟩
  · rw [cell_of_row w g (0 + i) cur e (0, 0) hh]
    have : (cur.toList.take (n * 1))[i]? = (xs.map (Value.int .u32))[i]? := by rw [ht]
    rw [List.getElem?_take, if_pos (by omega), List.getElem?_map] at this
    simp only [Nat.zero_add]
    rw [Array.getElem?_toList] at this
    rw [this, List.getElem?_eq_getElem hi]
    rfl
  · simp only [Option.some.injEq, Addr.mk.injEq] at ha
    obtain ⟨rfl, rfl, _⟩ := ha
    exact ⟨hb, fun i _ => by simp [World.frozen?, hh]⟩

theorem Lim.zeros (n : Nat) : Lim (List.replicate n 0) := by
  intro x hx
  have := List.eq_of_mem_replicate hx
  omega

/-- The first j limbs, and noughts behind them. -/
def copied (xs : List Int) (j : Nat) : List Int := xs.take j ++ List.replicate (xs.length - j) 0
theorem copied_zero (xs : List Int) : copied xs 0 = List.replicate xs.length 0 := by simp [copied]
theorem copied_all (xs : List Int) : copied xs xs.length = xs := by simp [copied]
theorem copied_length (xs : List Int) (j : Nat) (h : j ≤ xs.length) : (copied xs j).length = xs.length := by simp [copied]; omega
theorem copied_step (xs : List Int) (j : Nat) (h : j < xs.length) : (copied xs j).set j (xs[j]?.getD 0) = copied xs (j + 1) := by
  unfold copied
  have hl : (xs.take j).length = j := by simp; omega
  rw [List.set_append, if_neg (by rw [hl]; omega), hl, Nat.sub_self, List.take_succ_eq_append_getElem h, List.append_assoc]
  congr 1
  rw [show xs.length - j = (xs.length - (j + 1)) + 1 by omega, List.replicate_succ, List.set_cons_zero, List.getElem?_eq_getElem h]
  rfl

/-! ### Noughts on top, cut off -/
theorem Nrm_take {xs : List Int} {j : Nat} (h0 : 0 < j) (hj : j ≤ xs.length) (h : xs[j - 1]?.getD 0 ≠ 0) : Nrm (xs.take j) := by
  refine Nrm_of_last (fun x hx => ?_)
  rw [List.getLast?_eq_getElem?] at hx
  have hl : (xs.take j).length = j := by simp; omega
  rw [hl, List.getElem?_take, if_pos (by omega)] at hx
  rw [hx] at h
  simpa using h

theorem Came.take {w : World} {a : Option Addr} {c : Nat} {xs : List Int} (h : Came w a c xs) {j d : Nat} (hj : j ≤ xs.length) (hd : j ≤ d) (hc : d ≤ c) : Came w a d (xs.take j) := by
  have hl : (xs.take j).length = j := by simp; omega
  refine ⟨h.lim.take j, by omega, Nat.le_trans hc h.max, fun hne => ?_⟩
  have hne' : xs ≠ [] := by intro e; simp [e] at hne
  obtain ⟨b, off, ha, hcell⟩ := h.cells hne'
  refine ⟨b, off, ha, fun i hi => ?_⟩
  rw [hcell i (by omega), List.getElem?_take, if_pos (by omega)]
theorem Sees.take {w : World} {a : Option Addr} {c : Nat} {xs : List Int} (h : Sees w a c xs) {j d : Nat} (hj : j ≤ xs.length) (hd : j ≤ d) (hc : d ≤ c) : Sees w a d (xs.take j) :=
  ⟨h.toCame.take hj hd hc, h.shape.imp (fun ⟨e, z⟩ => ⟨e, by omega⟩) id⟩
theorem Own.take {base : Nat} {w : World} {a : Option Addr} {c : Nat} {xs : List Int} (h : Own base w a c xs) {j d : Nat} (hj : j ≤ xs.length) (hd : j ≤ d) (hc : d ≤ c) : Own base w a d (xs.take j) := by
  have hl : (xs.take j).length = j := by simp; omega
  refine ⟨h.toSees.take hj hd hc, fun b off ha hne => ?_⟩
  have hne' : xs ≠ [] := by intro e; simp [e] at hne
  obtain ⟨h1, h2⟩ := h.new b off ha hne'
  exact ⟨h1, fun i hi => h2 i (by omega)⟩
theorem Own.nil (base : Nat) (w : World) : Own base w none 0 [] :=
  ⟨⟨⟨Lim.nil, by simp, by simp [maxLen], fun h => absurd rfl h⟩, .inl ⟨rfl, rfl⟩⟩, fun _ _ _ h => absurd rfl h⟩

theorem Own.empty (base : Nat) (w : World) (b off : Nat) : Own base w (some ⟨b, off, none⟩) 0 [] :=
  ⟨⟨⟨Lim.nil, by simp, by simp [maxLen], fun h => absurd rfl h⟩, .inr ⟨b, off, rfl⟩⟩, fun _ _ _ h => absurd rfl h⟩

theorem Own.cut {base : Nat} {w : World} {a a' : Option Addr} {c : Nat} {xs : List Int} (h : Own base w a c xs) {j : Nat} (hj : j ≤ xs.length) (ha : (j = 0 ∧ a' = none) ∨ a' = a) : Own base w a' j (xs.take j) := by
  rcases ha with ⟨rfl, rfl⟩ | rfl
  · exact Own.nil _ _
  · exact h.take hj (Nat.le_refl _) (Nat.le_trans hj h.fits)

/-- Cut at j: noughts from j on, and none right below. -/
theorem cut_facts {xs : List Int} {j : Nat} (hj : j ≤ xs.length) (hz : ∀ i, j ≤ i → xs[i]?.getD 0 = 0) (hn : j = 0 ∨ xs[j - 1]?.getD 0 ≠ 0) : Nrm (xs.take j) ∧ val (xs.take j) = val xs ∧ (xs.take j).length = j := by
  refine ⟨?_, val_take_zeros xs j hz, by simp; omega⟩
  by_cases h0 : j = 0
  · subst h0; simp [Nrm]
  · exact Nrm_take (by omega) hj (by rcases hn with h | h; exact absurd h h0; exact h)

theorem zeros_step {xs : List Int} {j : Nat} (hz : ∀ i, j ≤ i → xs[i]?.getD 0 = 0) (h : xs[j - 1]?.getD 0 = 0) : ∀ i, j - 1 ≤ i → xs[i]?.getD 0 = 0 := by
  intro i hi
  by_cases e : i = j - 1
  · rw [e]; exact h
  · exact hz i (by omega)

/-! ### 'append' to an empty row -/
theorem ownsRow_empty2 (w : World) (o : Obj) (e : TypeId) : ((w.alloc o).alloc (.cells #[] e)).ownsRow (w.heap.size + 1) e 1 (.slice (some ⟨w.heap.size + 1, 0, none⟩) 0 0) 0 [] := by
  refine ⟨by simp, .inr ⟨_, 0, #[], rfl, Nat.le_refl _, ?_, Nat.le_refl _, by simp [maxLen], by simp, by simp⟩⟩
  have := heap_alloc_new (w.alloc o) (.cells #[] e)
  rw [World.size_alloc] at this
  exact this
theorem ownsRow_empty1 (w : World) (e : TypeId) : (w.alloc (.cells #[] e)).ownsRow w.heap.size e 1 (.slice (some ⟨w.heap.size, 0, none⟩) 0 0) 0 [] :=
  ⟨by simp, .inr ⟨_, 0, #[], rfl, Nat.le_refl _, heap_alloc_new w (.cells #[] e), Nat.le_refl _, by simp [maxLen], by simp, by simp⟩⟩
theorem Came.news {w : World} {b off c j : Nat} {xs : List Int} (h : Came w (some ⟨b, off, none⟩) c xs) (hj : j ≤ xs.length) :
    ∀ q u, ((xs.take j).map (Value.int .u32))[q]? = some u → w.cell? ((⟨b, off, none⟩ : Addr).add q) = some u := by
  intro q u hu
  rw [List.getElem?_map, List.getElem?_take] at hu
  split at hu
  · next hq =>
    have hne : xs ≠ [] := by intro e; simp [e] at hj; omega
    obtain ⟨b', off', ha, hc⟩ := h.cells hne
    simp only [Option.some.injEq, Addr.mk.injEq] at ha
    obtain ⟨rfl, rfl, _⟩ := ha
    rw [Addr.add_lit, hc q (by omega), List.getElem?_eq_getElem (by omega)]
    rw [List.getElem?_eq_getElem (by omega)] at hu
    exact hu
  · simp at hu
theorem Own.of_append {w : World} {base e n : Nat} {v : Value} {xs : List Int} (h : w.ownsRow base e 1 v n (xs.map (Value.int .u32))) (hl : Lim xs) (hn : 0 < n) :
    ∃ g cap, v = .slice (some ⟨g, 0, none⟩) xs.length cap ∧ Own base w (some ⟨g, 0, none⟩) cap xs := by
  have h' := h
  obtain ⟨h1, h2⟩ := h
  rcases h2 with ⟨_, h2⟩ | ⟨g, cap, cur, rfl, _⟩
  · omega
  · obtain ⟨ho, e⟩ := Own.of_row h' hl
    exact ⟨g, cap, by rw [e], ho⟩

theorem ones (ys : List Int) : ∀ u ∈ ys.map (Value.int .u32), u.oneCell' = true := by
  intro u hu; obtain ⟨y, _, rfl⟩ := List.mem_map.1 hu; rfl
theorem grown_at {w w' : World} {row : Option Nat} (hg : w.grownBy w' row) {b : Nat} (hb : b < w.heap.size) (hr : some b ≠ row) :
    (∀ o, w'.cell? ⟨b, o, none⟩ = w.cell? ⟨b, o, none⟩) ∧ (∀ o, w'.frozen? ⟨b, o, none⟩ = w.frozen? ⟨b, o, none⟩) :=
  ⟨fun o => World.cell?_of_block (a := ⟨b, o, none⟩) (hg.block b hb hr), fun o => World.frozen?_of_block (a := ⟨b, o, none⟩) (hg.block b hb hr)⟩

/-- Two limbs, laid. -/
theorem Own.lit2 (w : World) (e : TypeId) (x y : Int) (hx : 0 ≤ x ∧ x < 4294967296) (hy : 0 ≤ y ∧ y < 4294967296) :
    Own w.heap.size (w.alloc (.cells #[.int .u32 x, .int .u32 y] e)) (some ⟨w.heap.size, 0, none⟩) 2 [x, y] := by
  have hh := heap_alloc_new w (.cells #[.int .u32 x, .int .u32 y] e)
  refine (Own.of_row (n := 2) ⟨rfl, .inr ⟨w.heap.size, 2, #[.int .u32 x, .int .u32 y], rfl, Nat.le_refl _, hh, Nat.le_refl _, by simp [maxLen], rfl, rfl⟩⟩ (Lim.mk hx (Lim.mk hy Lim.nil))).1

/-! ### Numbers -/
/-- A sign's number. -/
def sg (neg : Bool) (v : Int) : Int := if neg then -v else v
/-- A size. -/
def mg (z : Int) : Int := if z < 0 then -z else z

/-- The value is the number z, whose limbs lie from block 'base' on. -/
def IsNum (base : Nat) (w : World) (v : Value) (z : Int) : Prop :=
  ∃ a c ys, v = .agg #[.bool (decide (z < 0)), .slice a ys.length c] ∧ Own base w a c ys ∧ Nrm ys ∧ val ys = mg z

theorem sg_flag {neg : Bool} {ys : List Int} (hl : Lim ys) (hn : Nrm ys) : decide (sg neg (val ys) < 0) = (neg && decide (0 < ys.length)) := by
  have h0 := val_nonneg hl
  by_cases e : ys = []
  · subst e; cases neg <;> simp [sg, val]
  · have := val_pos hl hn e
    have hp : 0 < ys.length := List.length_pos_iff.2 e
    cases neg
    · simp only [sg]; simp; omega
    · simp only [sg]; simp; omega
theorem mg_sg {neg : Bool} {v : Int} (h : 0 ≤ v) : mg (sg neg v) = v := by
  unfold mg sg
  cases neg
  · simp; omega
  · simp only [if_true]; split <;> omega

theorem IsNum.mk {base : Nat} {w : World} {neg : Bool} {a : Option Addr} {c : Nat} {ys : List Int} (ho : Own base w a c ys) (hn : Nrm ys) :
    IsNum base w (.agg #[.bool (neg && decide (0 < ys.length)), .slice a ys.length c]) (sg neg (val ys)) :=
  ⟨a, c, ys, by rw [sg_flag ho.lim hn], ho, hn, (mg_sg (val_nonneg ho.lim)).symm⟩

theorem IsNum.zero (base : Nat) (w : World) (b off : Nat) (neg : Bool) {v : Int} (hv : v = 0) : IsNum base w (.agg #[.bool false, .slice (some ⟨b, off, none⟩) 0 0]) (sg neg v) := by
  subst hv
  have : sg neg 0 = 0 := by cases neg <;> rfl
  rw [this]
  exact ⟨_, 0, [], rfl, Own.empty _ _ _ _, trivial, rfl⟩

theorem IsNum.below {base : Nat} {w w' : World} {v : Value} {z : Int} (h : IsNum base w v z) (hb : Below w.heap.size w w') : IsNum base w' v z := by
  obtain ⟨a, c, ys, hv, ho, hn, he⟩ := h
  exact ⟨a, c, ys, hv, ho.below hb, hn, he⟩
theorem IsNum.base_le {base base' : Nat} {w : World} {v : Value} {z : Int} (h : IsNum base w v z) (hb : base' ≤ base) : IsNum base' w v z := by
  obtain ⟨a, c, ys, hv, ho, hn, he⟩ := h
  exact ⟨a, c, ys, hv, ho.base_le hb, hn, he⟩
theorem IsNum.shape {base : Nat} {w : World} {v : Value} {z : Int} (h : IsNum base w v z) : ∃ g a n c, v = .agg #[.bool g, .slice a n c] := by
  obtain ⟨a, c, ys, hv, _⟩ := h
  exact ⟨_, a, ys.length, c, hv⟩
theorem IsNum.setCell {base : Nat} {w : World} {v : Value} {z : Int} (h : IsNum base w v z) {p : Addr} (hp : p.block < base) (u : Value) : IsNum base (w.setCell p u) v z := by
  obtain ⟨a, c, ys, hv, ho, hn, he⟩ := h
  exact ⟨a, c, ys, hv, ho.setCell hp u, hn, he⟩
/-- A result that is put into its variable, at block b. -/
theorem IsNum.put {base b : Nat} {w : World} {v u0 u1 : Value} {z : Int} (h : IsNum base w v z) (hp : b < base) : IsNum b ((w.setCell ⟨b, 0, none⟩ u0).setCell ⟨b, 1, none⟩ u1) v z :=
  ((h.setCell (p := ⟨b, 0, none⟩) hp u0).setCell (p := ⟨b, 1, none⟩) hp u1).base_le (Nat.le_of_lt hp)
theorem below_put {b : Nat} {w w' : World} (h : Below b w w') (u0 u1 : Value) : Below b w ((w'.setCell ⟨b, 0, none⟩ u0).setCell ⟨b, 1, none⟩ u1) :=
  (h.setCell (p := ⟨b, 0, none⟩) (Nat.le_refl _) u0).setCell (p := ⟨b, 1, none⟩) (Nat.le_refl _) u1
theorem IsNum.eq {w : World} {base : Nat} {v : Value} {z z' : Int} (h : IsNum base w v z) (e : z = z') : IsNum base w v z' := e ▸ h

/-! ### How many limbs -/
theorem val_ge : ∀ {xs : List Int}, Lim xs → Nrm xs → xs ≠ [] → 4294967296 ^ (xs.length - 1) ≤ val xs
  | [], _, _, h => absurd rfl h
  | [x], h, hn, _ => by
    obtain ⟨hx, _⟩ := h.cons
    simp only [Nrm] at hn
    simp only [val, List.length_singleton, Nat.sub_self, Int.pow_zero]; omega
  | x :: y :: r, h, hn, _ => by
    obtain ⟨hx, hr⟩ := h.cons
    have := val_ge hr hn (by simp)
    simp only [val, List.length_cons, Nat.add_sub_cancel] at this ⊢
    rw [Int.pow_succ]
    omega
theorem p_pos (k : Nat) : (0 : Int) < 4294967296 ^ k := by
  induction k with
  | zero => simp
  | succ k ih => rw [Int.pow_succ]; omega
theorem p_mono (k d : Nat) : (4294967296 : Int) ^ k ≤ 4294967296 ^ (k + d) := by
  induction d with
  | zero => simp
  | succ d ih =>
    have := p_pos (k + d)
    rw [← Nat.add_assoc, Int.pow_succ]
    omega
theorem len_le {xs : List Int} (hl : Lim xs) (hn : Nrm xs) {k : Nat} (h : val xs < 4294967296 ^ k) : xs.length ≤ k := by
  rcases Nat.lt_or_ge k xs.length with hk | hk
  · exfalso
    have hne : xs ≠ [] := by intro e; simp [e] at hk
    have h1 := val_ge hl hn hne
    have h2 : (4294967296 : Int) ^ k ≤ 4294967296 ^ (xs.length - 1) := by
      have := p_mono k (xs.length - 1 - k)
      rw [show k + (xs.length - 1 - k) = xs.length - 1 by omega] at this
      exact this
    omega
  · exact hk

/-! ### Two that are the same number -/
theorem IsNum.same {b b' : Nat} {w w' : World} {v v' : Value} {z : Int} (h : IsNum b w v z) (k : IsNum b' w' v' z) :
    ∃ g a c a' c' ys, v = .agg #[.bool g, .slice a ys.length c] ∧ v' = .agg #[.bool g, .slice a' ys.length c'] ∧ Own b w a c ys ∧ Own b' w' a' c' ys ∧ Nrm ys ∧ val ys = mg z := by
  obtain ⟨a, c, ys, hv, ho, hn, he⟩ := h
  obtain ⟨a', c', ys', hv', ho', hn', he'⟩ := k
  obtain rfl : ys = ys' := val_inj ho.lim ho'.lim hn hn' (he.trans he'.symm)
  exact ⟨_, a, c, a', c', ys, hv, hv', ho, ho', hn, he⟩

/-- Another one of the same number. -/
theorem IsNum.as {b : Nat} {w : World} {v : Value} {z : Int} (h : IsNum b w v z) {ys : List Int} (hl : Lim ys) (hn : Nrm ys) (hv : val ys = mg z) :
    ∃ a c, v = .agg #[.bool (decide (z < 0)), .slice a ys.length c] ∧ Own b w a c ys := by
  obtain ⟨a, c, ys', hv', ho, hn', he⟩ := h
  obtain rfl : ys = ys' := val_inj hl ho.lim hn hn' (hv.trans he.symm)
  exact ⟨a, c, hv', ho⟩

/-! ### Rows apart -/
theorem row_ne_low {base p : Nat} {w : World} {a : Option Addr} {c : Nat} {xs : List Int} (k : Own base w a c xs) (hp : p < base) : some p ≠ rowOf a xs := by
  intro e
  unfold rowOf at e
  split at e
  · cases e
  · next hn =>
    obtain ⟨b2, off2, ha2, _⟩ := k.cells hn
    have := (k.new b2 off2 ha2 hn).1
    rw [ha2] at e
    simp at e
    omega
theorem row_ne_high {p : Nat} {w : World} {a : Option Addr} {c : Nat} {xs : List Int} (k : Came w a c xs) (hp : w.heap.size ≤ p) : some p ≠ rowOf a xs := by
  intro e
  unfold rowOf at e
  split at e
  · cases e
  · next hn =>
    obtain ⟨b2, off2, ha2, _⟩ := k.cells hn
    have := k.lt ha2 hn
    rw [ha2] at e
    simp at e
    omega

theorem IsNum.put' {base b b0 : Nat} {w : World} {v u0 u1 : Value} {z : Int} (h : IsNum base w v z) (hp : b < base) (h0 : b0 ≤ b) : IsNum b0 ((w.setCell ⟨b, 0, none⟩ u0).setCell ⟨b, 1, none⟩ u1) v z :=
  (h.put hp).base_le h0
theorem below_put' {b b0 : Nat} {w w' : World} (h : Below b0 w w') (h0 : b0 ≤ b) (u0 u1 : Value) : Below b0 w ((w'.setCell ⟨b, 0, none⟩ u0).setCell ⟨b, 1, none⟩ u1) :=
  (h.setCell (p := ⟨b, 0, none⟩) h0 u0).setCell (p := ⟨b, 1, none⟩) h0 u1

theorem cell_put {w : World} {b b' o : Nat} {u0 u1 : Value} (h : b' ≠ b) : ((w.setCell ⟨b, 0, none⟩ u0).setCell ⟨b, 1, none⟩ u1).cell? ⟨b', o, none⟩ = w.cell? ⟨b', o, none⟩ := by
  rw [World.cell?_setCell_other _ _ _ _ (by intro e; simp only [Addr.mk.injEq] at e; exact h e.1.symm), World.cell?_setCell_other _ _ _ _ (by intro e; simp only [Addr.mk.injEq] at e; exact h e.1.symm)]
theorem sg_not (g : Bool) (v : Int) : sg (!g) v = - sg g v := by cases g <;> simp [sg]
end Go.Proofs.YtgcaemhcdpddiaaDoor

/- Rows of a call's own stay where nothing old is written. -/
namespace Go.Proofs.YtgcaemhcdpddiaaDoor
open Go.RowKit

theorem grown_of_below {w w' : World} (h : Below w.heap.size w w') : w.grownBy w' none := ⟨h.os, h.tape, h.output, h.size, fun i hi _ => h.block i hi⟩
theorem owns_below {w w' : World} {base e size n : Nat} {v : Value} {xs : List Value} (h : w.ownsRow base e size v n xs) (hb : Below w.heap.size w w') : w'.ownsRow base e size v n xs := by
  refine h.kept (grown_of_below hb) ?_
  cases e : v.ownBlock with
  | none => exact .inl rfl
  | some k => exact .inr (by simp)

theorem wp_append_at {P : Program} {w : World} {o : Oper} {a : Act} {K : Act → World → Prop} {Q : Exit → Act → World → Prop} (s x : Operand) (t : TypeId)
    (ho : o.op = .call { callee := .builtin .append, args := #[s, x], argTypes := #[t, t] })
    (base : Nat) (e : TypeId) (i : TypeInfo) (z : Value) (size bytes : Nat) (ht : P.underlying t = some (.slice e)) (hi : P.info? e = some i) (hz : i.zero = some z)
    (hsize : i.size = size) (hby : i.bytes = bytes) (hzs : z.cells.size = size) (hsz : 0 < size)
    (v : Value) (n : Nat) (xs : List Value) (hs : a.eval s = v) (hown : w.ownsRow base e size v n xs)
    (ad : Addr) (m c : Nat) (news : List Value) (hx : a.eval x = .slice (some ad) m c) (hl : news.length = m * size) (hnews : ∀ j u, news[j]? = some u → w.cell? (ad.add j) = some u) (h1 : ∀ u ∈ news, u.oneCell' = true)
    (h63 : n + m ≤ maxLen) (hbytes : (n + m) * bytes ≤ 140737488355328) (hbase : base ≤ w.heap.size)
    (h : ∀ v' w', w'.ownsRow base e size v' (n + m) (xs ++ news) → w.grownBy w' v.ownBlock → (v'.ownBlock = v.ownBlock ∨ v'.ownBlock = some w.heap.size) → K (a.put o.dst v') w') : o.wp P a w K Q := by
  obtain ⟨v', w', hr, h2, h3, _, h5⟩ := run_append_own_at (P := P) w base t o.type e i z size bytes ht hi hz hsize hby hzs hsz v n xs hown ad m c news hl hnews h1 h63 hbytes hbase
  unfold Oper.wp execOp
  simp only [ho, resolve, invoke, builtin, Sem.run_bind, Sem.run_pure, Result.andThen_ok, List.map_toArray, List.map_cons, List.map_nil, hs, hx, hr]
  exact h v' w' h2 h3 h5
theorem row_base {w : World} {base base' : Nat} {e : TypeId} {size : Nat} {v : Value} {n : Nat} {xs : List Value} (h : w.ownsRow base e size v n xs) (hb : base' ≤ base) : w.ownsRow base' e size v n xs := by
  obtain ⟨h1, h2⟩ := h
  refine ⟨h1, ?_⟩
  rcases h2 with h2 | ⟨q, cap, cur, hv, hb', r⟩
  · exact .inl h2
  · exact .inr ⟨q, cap, cur, hv, Nat.le_trans hb hb', r⟩
end Go.Proofs.YtgcaemhcdpddiaaDoor

/- Bytes in a row of a call's own. -/
namespace Go.Proofs.YtgcaemhcdpddiaaDoor
open Go.RowKit

theorem infoB : (Tryd.prog.info? 5).map (fun i => (i.zero, i.size, i.bytes)) = some (some (.int .u8 0), 1, 1) := by kernel_rfl
/-- Bytes in a row of the call's own. -/
def RowB (base : Nat) (w : World) (v : Value) (ds : List Int) : Prop := w.ownsRow base 5 1 v ds.length (ds.map (Value.int .u8))
theorem ones8 (ys : List Int) : ∀ u ∈ ys.map (Value.int .u8), u.oneCell' = true := by
  intro u hu
  obtain ⟨y, _, rfl⟩ := List.mem_map.1 hu
  rfl
theorem one_new8 (w : World) (e : TypeId) (y : Int) : ∀ j u, ([y].map (Value.int .u8))[j]? = some u → (w.alloc (.cells #[.int .u8 y] e)).cell? ((⟨w.heap.size, 0, none⟩ : Addr).add j) = some u := by
  intro j u hu
  cases j with
  | zero =>
    simp at hu
    subst hu
    exact cell_new w #[.int .u8 y] e 0 rfl
  | succ j => simp at hu
theorem RowB.snoc {base n : Nat} {w : World} {v : Value} {ds : List Int} {y : Int} (h : w.ownsRow base 5 1 v (ds.length + 1) (ds.map (Value.int .u8) ++ [y].map (Value.int .u8))) (_ : n = 0) : RowB base w v (ds ++ [y]) := by
  unfold RowB
  rw [List.map_append, List.length_append]
  exact h
theorem RowB.shape {base : Nat} {w : World} {v : Value} {ds : List Int} (h : RowB base w v ds) (hn : ds ≠ []) : ∃ q cap, v = .slice (some ⟨q, 0, none⟩) ds.length cap ∧ base ≤ q ∧ q < w.heap.size := by
  have hp : 0 < ds.length := List.length_pos_iff.2 hn
  rcases h.2 with ⟨_, h0⟩ | ⟨q, cap, cur, hv, hb, hh, _⟩
  · omega
  · refine ⟨q, cap, hv, hb, ?_⟩
    rcases Nat.lt_or_ge q w.heap.size with h1 | h1
    · exact h1
    · rw [Array.getElem?_eq_none h1] at hh; cases hh
theorem RowB.at' {base q cap : Nat} {w : World} {ds : List Int} (h : RowB base w (.slice (some ⟨q, 0, none⟩) ds.length cap) ds) {j : Nat} (hj : j < ds.length) : w.cell? ⟨q, j, none⟩ = some (.int .u8 (ds[j]?.getD 0)) := by
  rw [h.cellAt j (by omega), List.getElem?_map, List.getElem?_eq_getElem hj]
  rfl
theorem RowB.put {base q cap : Nat} {w : World} {ds : List Int} (h : RowB base w (.slice (some ⟨q, 0, none⟩) ds.length cap) ds) (j : Nat) (x : Int) : RowB base (w.setCell ⟨q, j, none⟩ (.int .u8 x)) (.slice (some ⟨q, 0, none⟩) (ds.set j x).length cap) (ds.set j x) := by
  have := (h.stored j (.int .u8 x)).1
  unfold RowB
  rw [List.length_set, List.map_set]
  exact this
theorem RowB.below {base : Nat} {w w' : World} {v : Value} {ds : List Int} (h : RowB base w v ds) (hb : Below w.heap.size w w') : RowB base w' v ds := owns_below h hb
theorem RowB.app {base : Nat} {w : World} {v : Value} {ds es : List Int} (h : w.ownsRow base 5 1 v (ds.length + es.length) (ds.map (Value.int .u8) ++ es.map (Value.int .u8))) : RowB base w v (ds ++ es) := by
  unfold RowB
  rw [List.map_append, List.length_append]
  exact h
theorem RowB.shape' {base : Nat} {w : World} {v : Value} {ds : List Int} (h : RowB base w v ds) : ∃ a cap, v = .slice a ds.length cap ∧ ds.length ≤ cap ∧ cap ≤ maxLen := by
  rcases h.2 with ⟨hv, h0⟩ | ⟨q, cap, cur, hv, _, _, hf, hm, _⟩
  · exact ⟨none, 0, by rw [hv, h0], by omega, by simp [maxLen]⟩
  · exact ⟨_, cap, hv, hf, hm⟩
theorem RowB.nil (base : Nat) (w : World) : RowB base w (.slice none 0 0) [] := ⟨rfl, .inl ⟨rfl, rfl⟩⟩
theorem RowB.empty (w : World) {base : Nat} (h : base ≤ w.heap.size) : RowB base (w.alloc (.cells #[] 5)) (.slice (some ⟨w.heap.size, 0, none⟩) 0 0) [] :=
  ⟨rfl, .inr ⟨w.heap.size, 0, #[], rfl, h, heap_alloc_new _ _, Nat.le_refl _, by simp [maxLen], rfl, rfl⟩⟩
theorem RowB.one (w : World) {base : Nat} (h : base ≤ w.heap.size) (x : Int) : RowB base (w.alloc (.cells #[.int .u8 x] 5)) (.slice (some ⟨w.heap.size, 0, none⟩) 1 1) [x] :=
  ⟨rfl, .inr ⟨w.heap.size, 1, #[.int .u8 x], rfl, h, heap_alloc_new _ _, Nat.le_refl _, by simp [maxLen], rfl, rfl⟩⟩
theorem RowB.at2 {base : Nat} {w : World} {a : Option Addr} {c : Nat} {ds : List Int} (h : RowB base w (.slice a ds.length c) ds) {j : Nat} (hj : j < ds.length) : ∃ q, a = some ⟨q, 0, none⟩ ∧ w.cell? ⟨q, j, none⟩ = some (.int .u8 (ds[j]?.getD 0)) ∧ base ≤ q := by
  obtain ⟨q, cap, e, hb, _⟩ := h.shape (by intro e; rw [e] at hj; simp at hj)
  injection e with e1 e2 e3
  subst e1 e3
  exact ⟨q, rfl, h.at' hj, hb⟩
theorem RowB.caps {base : Nat} {w : World} {a : Option Addr} {c : Nat} {ds : List Int} (h : RowB base w (.slice a ds.length c) ds) : ds.length ≤ c ∧ c ≤ maxLen := by
  obtain ⟨a', c', e, h1, h2⟩ := h.shape'
  injection e with e1 e2 e3
  subst e3
  exact ⟨h1, h2⟩
/-- Bytes in a row of the call's own, in a block of any type. -/
def RowE (t : TypeId) (base : Nat) (w : World) (v : Value) (ds : List Int) : Prop := w.ownsRow base t 1 v ds.length (ds.map (Value.int .u8))
theorem RowE.shape {t : TypeId} {base : Nat} {w : World} {v : Value} {ds : List Int} (h : RowE t base w v ds) (hn : ds ≠ []) : ∃ q cap, v = .slice (some ⟨q, 0, none⟩) ds.length cap ∧ base ≤ q ∧ q < w.heap.size := by
  have hp : 0 < ds.length := List.length_pos_iff.2 hn
  rcases h.2 with ⟨_, h0⟩ | ⟨q, cap, cur, hv, hb, hh, _⟩
  · omega
  · refine ⟨q, cap, hv, hb, ?_⟩
    rcases Nat.lt_or_ge q w.heap.size with h1 | h1
    · exact h1
    · rw [Array.getElem?_eq_none h1] at hh; cases hh
theorem RowE.at' {t : TypeId} {base q cap : Nat} {w : World} {ds : List Int} (h : RowE t base w (.slice (some ⟨q, 0, none⟩) ds.length cap) ds) {j : Nat} (hj : j < ds.length) : w.cell? ⟨q, j, none⟩ = some (.int .u8 (ds[j]?.getD 0)) := by
  rw [h.cellAt j (by omega), List.getElem?_map, List.getElem?_eq_getElem hj]
  rfl
theorem RowE.put {t : TypeId} {base q cap : Nat} {w : World} {ds : List Int} (h : RowE t base w (.slice (some ⟨q, 0, none⟩) ds.length cap) ds) (j : Nat) (x : Int) : RowE t base (w.setCell ⟨q, j, none⟩ (.int .u8 x)) (.slice (some ⟨q, 0, none⟩) (ds.set j x).length cap) (ds.set j x) := by
  have := (h.stored j (.int .u8 x)).1
  unfold RowE
  rw [List.length_set, List.map_set]
  exact this
theorem RowE.below {t : TypeId} {base : Nat} {w w' : World} {v : Value} {ds : List Int} (h : RowE t base w v ds) (hb : Below w.heap.size w w') : RowE t base w' v ds := owns_below h hb
theorem RowE.shape' {t : TypeId} {base : Nat} {w : World} {v : Value} {ds : List Int} (h : RowE t base w v ds) : ∃ a cap, v = .slice a ds.length cap ∧ ds.length ≤ cap ∧ cap ≤ maxLen := by
  rcases h.2 with ⟨hv, h0⟩ | ⟨q, cap, cur, hv, _, _, hf, hm, _⟩
  · exact ⟨none, 0, by rw [hv, h0], by omega, by simp [maxLen]⟩
  · exact ⟨_, cap, hv, hf, hm⟩
theorem RowE.at2 {t : TypeId} {base : Nat} {w : World} {a : Option Addr} {c : Nat} {ds : List Int} (h : RowE t base w (.slice a ds.length c) ds) {j : Nat} (hj : j < ds.length) : ∃ q, a = some ⟨q, 0, none⟩ ∧ w.cell? ⟨q, j, none⟩ = some (.int .u8 (ds[j]?.getD 0)) ∧ base ≤ q := by
  obtain ⟨q, cap, e, hb, _⟩ := h.shape (by intro e; rw [e] at hj; simp at hj)
  injection e with e1 e2 e3
  subst e1 e3
  exact ⟨q, rfl, h.at' hj, hb⟩
theorem RowE.caps {t : TypeId} {base : Nat} {w : World} {a : Option Addr} {c : Nat} {ds : List Int} (h : RowE t base w (.slice a ds.length c) ds) : ds.length ≤ c ∧ c ≤ maxLen := by
  obtain ⟨a', c', e, h1, h2⟩ := h.shape'
  injection e with e1 e2 e3
  subst e3
  exact ⟨h1, h2⟩
end Go.Proofs.YtgcaemhcdpddiaaDoor

/- The laws' helpers on bytes: their sizes, their copies; bytes that lie in memory. -/
namespace Go.Proofs.YtgcaemhcdpddiaaDoor
open Go.RowKit

/-- Bytes that lie in memory, one behind the other. -/
structure SeesB (w : World) (a : Option Addr) (cap : Nat) (bs : List Int) : Prop where
  fits : bs.length ≤ cap
  max : cap ≤ maxLen
  cells : bs ≠ [] → ∃ b off, a = some ⟨b, off, none⟩ ∧ ∀ i, i < bs.length → w.cell? ⟨b, off + i, none⟩ = some (.int .u8 (bs[i]?.getD 0))
theorem SeesB.below {w w' : World} {a : Option Addr} {cap : Nat} {bs : List Int} (h : SeesB w a cap bs) (hb : Below w.heap.size w w') : SeesB w' a cap bs :=
  ⟨h.fits, h.max, fun hn => by
    obtain ⟨b, off, ha, hc⟩ := h.cells hn
    exact ⟨b, off, ha, fun i hi => bat hb (hc i hi)⟩⟩
theorem RowB.seesB {base : Nat} {w : World} {a : Option Addr} {cap : Nat} {bs : List Int} (h : RowB base w (.slice a bs.length cap) bs) : SeesB w a cap bs := by
  obtain ⟨hf, hm⟩ := h.caps
  refine ⟨hf, hm, fun hn => ?_⟩
  have hp : 0 < bs.length := List.length_pos_iff.2 hn
  obtain ⟨q, rfl, _, _⟩ := h.at2 hp
  exact ⟨q, 0, rfl, fun i hi => by rw [Nat.zero_add]; exact h.at' hi⟩
theorem SeesB.newsB {w : World} {b off cap : Nat} {bs : List Int} (h : SeesB w (some ⟨b, off, none⟩) cap bs) : ∀ j u, (bs.map (Value.int .u8))[j]? = some u → w.cell? ((⟨b, off, none⟩ : Addr).add j) = some u := by
  intro j u hj
  have hl : j < bs.length := by have := (List.getElem?_eq_some_iff.1 hj).1; simpa using this
  obtain ⟨b', off', e, hc⟩ := h.cells (by intro e; rw [e] at hl; simp at hl)
  simp only [Option.some.injEq, Addr.mk.injEq, and_true] at e
  obtain ⟨rfl, rfl⟩ := e
  rw [Addr.add_lit, hc j hl]
  rw [List.getElem?_map, List.getElem?_eq_getElem hl] at hj
  rw [List.getElem?_eq_getElem hl]
  simpa using hj

theorem szBytes (a : Option Addr) (c n : Nat) (left : Int) (w : World) (hl : 0 ≤ left ∧ left ≤ 1048576) (hn : n ≤ 9223372036854775807) :
    Calls Tryd.prog 14 #[.slice a n c, .int .i64 left] w fun e w' => e = .returned (.int .i64 (if left - n < 0 then -1 else left - n)) ∧ w' = w := by
  obtain ⟨h1, h2⟩ := hl
  by_cases hc : left - n < 0
  · rw [if_pos hc]
    go_enter Tryd.func14, Tryd.ntmps14
    go_wp2
    go_ret
    exact ⟨rfl, rfl⟩
  · rw [if_neg hc]
    go_enter Tryd.func14, Tryd.ntmps14
    go_wp2
    go_ret
    exact ⟨rfl, rfl⟩

set_option maxHeartbeats 1000000 in
/-- A copy: a row of its own. -/
theorem toBytes (a : Option Addr) (cap : Nat) (bs : List Int) (w : World) (h : SeesB w a cap bs) (hs : bs.length ≤ 1048576) :
    Calls Tryd.prog 19 #[.slice a bs.length cap] w fun e w' => e = .returned (.slice (some ⟨w.heap.size, 0, none⟩) bs.length bs.length) ∧ RowB w.heap.size w' (.slice (some ⟨w.heap.size, 0, none⟩) bs.length bs.length) bs ∧ Below w.heap.size w w' := by
  obtain ⟨i0, hi, hz0, hz1, hz2⟩ := info_parts infoB
  go_enter Tryd.func19, Tryd.ntmps19
  go_wp2_with (at_make; refine wpList_make_full _ rfl _ _ 22 rfl w.heap.size 5 i0 (.int .u8 0) 1 Tryd.underlying22 hi hz0 hz1 .i64 .i64 _ _ bs.length rfl rfl rfl rfl ?b2 ?b3 (Nat.le_refl _) ?_)
  case b2 => rw [hz2]; omega
  case b3 => unfold maxLen; omega
  intro w0 hown0 hgrow0
  have ZE : (madeCells #[Value.int .u8 0] bs.length).toList = (List.replicate bs.length (0 : Int)).map (Value.int .u8) := by
    apply List.ext_getElem
    · simp [madeCells]
    · intro i h1 h2
      simp [madeCells, Nat.mod_one]
  have R0 : RowB w.heap.size w0 (.slice (some ⟨w.heap.size, 0, none⟩) bs.length bs.length) (List.replicate bs.length 0) := by
    unfold RowB
    rw [List.length_replicate, ← ZE]
    exact hown0
  have hb0 : Below w.heap.size w w0 := (Below.refl _ _).grown hgrow0 (Nat.le_refl _) (fun k h => by cases h)
  have hm := h.max
  have hf := h.fits
  unfold maxLen at hm
  clear hown0 hgrow0 hi hz0 hz1 hz2 ZE
  go_wp2
  go_loopw [4] (fun i wr => ∃ (j : Nat) (zs : List Int), j ≤ bs.length ∧ i = .int .i64 j ∧ Hid (zs.length = bs.length) ∧ Hid (∀ k, k < j → zs[k]?.getD 0 = bs[k]?.getD 0) ∧ RowB w.heap.size wr (.slice (some ⟨w.heap.size, 0, none⟩) zs.length bs.length) zs ∧ Below w.heap.size w wr) (fun i _ => bs.length - (intOf i).toNat)
  case atStart => exact ⟨0, List.replicate bs.length 0, Nat.zero_le _, rfl, (by show _ = _; simp), (fun k hk => absurd hk (by omega)), (by rw [List.length_replicate]; exact R0), hb0⟩
  case round =>
    clear R0 hb0
    obtain ⟨j, zs, hj, rfl, hz, hk, R, B⟩ := hrel
    rename World => wr
    by_cases hlt : j < bs.length
    · obtain ⟨b1, o1, rfl, hc⟩ := (h.below B).cells (by intro e; simp [e] at hlt)
      have g1 := hc j hlt
      obtain ⟨x, hx⟩ : ∃ x, Hid (bs[j]?.getD 0 = x) := ⟨_, rfl⟩
      rw [hx.out] at g1
      have c0 := R.at' (j := j) (by rw [hz.out]; exact hlt)
      have fz : wr.frozen? ⟨w.heap.size, j, none⟩ = false := R.frozenAt j
      have R2 := R.put j x
      have Z2 : Hid ((zs.set j x).length = bs.length) := by show _ = _; rw [List.length_set]; exact hz.out
      have K2 : Hid (∀ k, k < j + 1 → (zs.set j x)[k]?.getD 0 = bs[k]?.getD 0) := by
        intro k hk'
        by_cases e : k = j
        · subst e
          rw [List.getElem?_set_self (by rw [hz.out]; exact hlt), hx.out]
          rfl
        · rw [List.getElem?_set_ne (by omega)]
          exact hk.out k (by omega)
      have B2 := B.setCell (p := ⟨w.heap.size, j, none⟩) (Nat.le_refl _) (.int .u8 x)
      clear hc R B hz hk
      go_wp2
      go_roundw
      case rel => exact ⟨j + 1, _, by omega, by go_num, Z2, K2, R2, B2⟩
      case measure => simp [intOf]; omega
    · obtain rfl : j = bs.length := by omega
      have e : zs = bs := by
        refine List.ext_getElem hz.out fun i h1 h2 => ?_
        have := hk.out i h2
        rw [List.getElem?_eq_getElem h1, List.getElem?_eq_getElem h2] at this
        exact this
      rw [e] at R
      go_wp2
      go_ret
      exact ⟨rfl, R, B⟩
end Go.Proofs.YtgcaemhcdpddiaaDoor

/- The laws' helpers on bytes, with marks from any number on: eqByteS, markByteS, heldByteS. -/
namespace Go.Proofs.YtgcaemhcdpddiaaDoor
open Go.RowKit


set_option maxRecDepth 20000 in
set_option maxHeartbeats 1000000 in
theorem eqByE {t t' : TypeId} {base base' : Nat} (a b : Option Addr) (c d : Nat) (ds : List Int) (w : World) (h : RowE t base w (.slice a ds.length c) ds) (k : RowE t' base' w (.slice b ds.length d) ds) :
    Calls Tryd.prog 22 #[.slice a ds.length c, .slice b ds.length d] w fun e w' => e = .returned (.bool true) ∧ Below w.heap.size w w' := by
  obtain ⟨hf, hm⟩ := h.caps
  obtain ⟨kf, km⟩ := k.caps
  unfold maxLen at hm km
  have hne : ((ds.length : Int) != (ds.length : Int)) = false := by simp
  go_enter Tryd.func22, Tryd.ntmps22
  go_wp2
  go_loopw [5] (fun i wr => ∃ j : Nat, j ≤ ds.length ∧ i = .int .i64 j ∧ Below w.heap.size w wr) (fun i _ => ds.length - (intOf i).toNat)
  case atStart => exact ⟨0, Nat.zero_le _, rfl, Below.refl _ _⟩
  case round =>
    obtain ⟨j, hj, rfl, B⟩ := hrel
    rename World => wr
    by_cases hlt : j < ds.length
    · obtain ⟨q, rfl, g1, _⟩ := (h.below B).at2 hlt
      obtain ⟨p, rfl, g2, _⟩ := (k.below B).at2 hlt
      generalize ds[j]?.getD 0 = x at *
      have hxx : (x != x) = false := by simp
      go_wp2_with fail
      go_region
      go_wp2
      go_roundw
      case rel => exact ⟨j + 1, by omega, by go_num, B.drew⟩
      case measure => simp [intOf]; omega
    · go_wp2
      go_ret
      exact ⟨rfl, B⟩

/-- Bytes that are marked, one by one. -/
def mkY (k : Int) (n : Nat) : List Int := (List.range n).map fun (i : Nat) => (k + (i : Int)) % 256
theorem mkY_len (k : Int) (n : Nat) : (mkY k n).length = n := by simp [mkY]
theorem mkY_at {k : Int} {n j : Nat} (h : j < n) : (mkY k n)[j]?.getD 0 = (k + (j : Int)) % 256 := by simp [mkY, h]

theorem mkY_done {k : Int} {n : Nat} {zs : List Int} (hl : zs.length = n) (h : ∀ i, i < n → zs[i]?.getD 0 = (k + (i : Int)) % 256) : zs = mkY k n := by
  refine List.ext_getElem? fun i => ?_
  by_cases hi : i < n
  · have := h i hi
    rw [List.getElem?_eq_getElem (by omega)] at this ⊢
    rw [List.getElem?_eq_getElem (by rw [mkY_len]; exact hi)]
    simp only [Option.getD_some] at this
    rw [this]
    simp [mkY]
  · rw [List.getElem?_eq_none (by omega), List.getElem?_eq_none (by rw [mkY_len]; omega)]

set_option maxRecDepth 20000 in
set_option maxHeartbeats 1000000 in
theorem markByE {t : TypeId} {base : Nat} (a : Option Addr) (c : Nat) (k : Int) (ds : List Int) (w : World) (h : RowE t base w (.slice a ds.length c) ds) (hs : ds.length ≤ 2000000) (k0 : 0 ≤ k) (k1 : k ≤ 1000000000) :
    Calls Tryd.prog 24 #[.slice a ds.length c, .int .i64 k] w fun e w' => e = .returned (.int .i64 (k + ds.length)) ∧ RowE t base w' (.slice a (mkY k ds.length).length c) (mkY k ds.length) ∧ w.grownBy w' (Value.slice a ds.length c).ownBlock := by
  obtain ⟨hf, hm⟩ := h.caps
  unfold maxLen at hm
  generalize hn : ds.length = n at *
  go_enter Tryd.func24, Tryd.ntmps24
  go_wp2
  go_loopw [1, 5] (fun s1 i wr => ∃ (j : Nat) (zs : List Int), j ≤ n ∧ i = .int .i64 j ∧ s1 = .int .i64 (k + (j : Int)) ∧ Hid (zs.length = n) ∧ Hid (∀ i, i < j → zs[i]?.getD 0 = (k + (i : Int)) % 256) ∧ RowE t base wr (.slice a zs.length c) zs ∧ w.grownBy wr (Value.slice a n c).ownBlock) (fun _ i _ => n - (intOf i).toNat)
  case atStart => exact ⟨0, ds, Nat.zero_le _, rfl, (by simp), hn, (fun i hi => by omega), by rw [hn]; exact h, grownBy_refl _ _⟩
  case round =>
    obtain ⟨j, zs, hj, rfl, rfl, hz, hy, R, G⟩ := hrel
    rename World => wr
    by_cases hlt : j < n
    · obtain ⟨q, rfl, g1, _⟩ := R.at2 (j := j) (by rw [hz.out]; exact hlt)
      have fz : wr.frozen? ⟨q, j, none⟩ = false := R.frozenAt j
      have R2 := R.put j ((k + (j : Int)) % 256)
      have G2 : w.grownBy (wr.setCell ⟨q, j, none⟩ (.int .u8 ((k + (j : Int)) % 256))) (Value.slice (some ⟨q, 0, none⟩) n c).ownBlock := grownBy_setCell G (p := ⟨q, j, none⟩) rfl _
      have Y2 : Hid (∀ i, i < j + 1 → (zs.set j ((k + (j : Int)) % 256))[i]?.getD 0 = (k + (i : Int)) % 256) := by
        intro i hi
        by_cases e : i = j
        · subst e
          rw [List.getElem?_set_self (by rw [hz.out]; exact hlt)]
          rfl
        · rw [List.getElem?_set_ne (by omega)]
          exact hy.out i (by omega)
      have Z2 : Hid ((zs.set j ((k + (j : Int)) % 256)).length = n) := by show _ = _; rw [List.length_set]; exact hz.out
      rw [hz.out] at R
      clear R G hz hy
      go_wp2
      go_roundw
      case rel => exact ⟨j + 1, _, by omega, by go_num, (by congr 1; push_cast; omega), Z2, Y2, R2, G2⟩
      case measure => simp [intOf]; omega
    · obtain rfl : j = n := by omega
      rw [mkY_done (k := k) hz.out hy.out] at R
      go_wp2
      go_ret
      exact ⟨rfl, R, G⟩

set_option maxRecDepth 20000 in
set_option maxHeartbeats 1000000 in
theorem heldByE {t : TypeId} {base : Nat} (a : Option Addr) (c n : Nat) (k : Int) (w : World) (h : RowE t base w (.slice a (mkY k n).length c) (mkY k n)) (hs : n ≤ 2000000) (k0 : 0 ≤ k) (k1 : k ≤ 1000000000) :
    Calls Tryd.prog 26 #[.slice a n c, .int .i64 k] w fun e w' => e = .returned (.int .i64 (k + n)) ∧ w' = w := by
  obtain ⟨hf, hm⟩ := h.caps
  unfold maxLen at hm
  have ML := mkY_len k n
  rw [ML] at hf
  go_enter Tryd.func26, Tryd.ntmps26
  go_wp2
  go_loopw [1, 5] (fun s1 i wr => ∃ j : Nat, j ≤ n ∧ i = .int .i64 j ∧ s1 = .int .i64 (k + (j : Int)) ∧ Hid (wr = w)) (fun _ i _ => n - (intOf i).toNat)
  case atStart => exact ⟨0, Nat.zero_le _, rfl, (by simp), rfl⟩
  case round =>
    obtain ⟨j, hj, rfl, rfl, hw⟩ := hrel
    have hw' := hw.out
    subst hw'
    by_cases hlt : j < n
    · obtain ⟨q, rfl, g1, _⟩ := h.at2 (j := j) (by rw [ML]; exact hlt)
      rw [mkY_at hlt] at g1
      clear ML
      go_wp2
      go_roundw
      case rel => exact ⟨j + 1, by omega, by go_num, (by congr 1; push_cast; omega), (by first | exact trivial | exact rfl)⟩
      case measure => simp [intOf]; omega
    · obtain rfl : j = n := by omega
      clear ML
      go_wp2
      go_ret
      exact ⟨rfl, rfl⟩
theorem eqBy {base base' : Nat} (a b : Option Addr) (c d : Nat) (ds : List Int) (w : World) (h : RowB base w (.slice a ds.length c) ds) (k : RowB base' w (.slice b ds.length d) ds) :
    Calls Tryd.prog 22 #[.slice a ds.length c, .slice b ds.length d] w fun e w' => e = .returned (.bool true) ∧ Below w.heap.size w w' := eqByE (t := 5) (t' := 5) a b c d ds w h k
theorem markBy {base : Nat} (a : Option Addr) (c : Nat) (k : Int) (ds : List Int) (w : World) (h : RowB base w (.slice a ds.length c) ds) (hs : ds.length ≤ 2000000) (k0 : 0 ≤ k) (k1 : k ≤ 1000000000) :
    Calls Tryd.prog 24 #[.slice a ds.length c, .int .i64 k] w fun e w' => e = .returned (.int .i64 (k + ds.length)) ∧ RowB base w' (.slice a (mkY k ds.length).length c) (mkY k ds.length) ∧ w.grownBy w' (Value.slice a ds.length c).ownBlock := markByE (t := 5) a c k ds w h hs k0 k1
theorem heldBy {base : Nat} (a : Option Addr) (c n : Nat) (k : Int) (w : World) (h : RowB base w (.slice a (mkY k n).length c) (mkY k n)) (hs : n ≤ 2000000) (k0 : 0 ≤ k) (k1 : k ≤ 1000000000) :
    Calls Tryd.prog 26 #[.slice a n c, .int .i64 k] w fun e w' => e = .returned (.int .i64 (k + n)) ∧ w' = w := heldByE (t := 5) a c n k w h hs k0 k1
end Go.Proofs.YtgcaemhcdpddiaaDoor

/- The bytes of a number, lowest first: spec.l8Bytes. -/
namespace Go.Proofs.YtgcaemhcdpddiaaDoor
open Go.RowKit

/-- The bytes of a number, lowest first. -/
def leB (k : Nat) (n : Int) : List Int := (List.range k).map fun i => n / 256 ^ i % 256
theorem leB_len (k : Nat) (n : Int) : (leB k n).length = k := by simp [leB]
theorem leB_step (k : Nat) (n : Int) : leB (k + 1) n = leB k n ++ [n / 256 ^ k % 256] := by simp [leB, List.range_succ]
theorem div_step (k : Nat) (n : Int) : n / 256 ^ k / 256 = n / 256 ^ (k + 1) := by
  rw [Int.pow_succ, Int.ediv_ediv_of_nonneg (Int.pow_nonneg (by decide))]
theorem div_bd {k : Nat} {n m : Int} (h0 : 0 ≤ n) (h1 : n ≤ m) : 0 ≤ n / 256 ^ k ∧ n / 256 ^ k ≤ m := by
  have hp : (0 : Int) < 256 ^ k := Int.pow_pos (by decide)
  exact ⟨Int.ediv_nonneg h0 (by omega), Int.le_trans (Int.ediv_le_self _ h0) h1⟩

theorem wrap_u8 (x : Int) : IntKind.u8.wrap x = x % 256 := by
  simp only [IntKind.wrap, IntKind.bits, IntKind.signed]
  simp

set_option maxRecDepth 20000 in
set_option maxHeartbeats 2000000 in
theorem l8Bytes_any (n : Int) (k : Nat) (w : World) (hk : k ≤ 8) :
    Calls Tryd.prog 40 #[.int .i64 n, .int .i64 k] w fun e w' => ∃ v', e = .returned v' ∧ RowB w.heap.size w' v' (leB k (IntKind.u64.wrap n)) ∧ Below w.heap.size w w' := by
  obtain ⟨i8, hi8, hy0, hy1, hy2⟩ := info_parts infoB
  have W0 : 0 ≤ IntKind.u64.wrap n ∧ IntKind.u64.wrap n ≤ 18446744073709551615 := by rw [IntKind.wrap_u64]; omega
  obtain ⟨x, hx⟩ : ∃ x, Hid (IntKind.u64.wrap n = x) := ⟨_, rfl⟩
  rw [hx.out] at W0 ⊢
  have HN : Hid (0 ≤ x ∧ x ≤ 18446744073709551615) := W0
  clear W0
  have R0 := RowB.empty w (Nat.le_refl _)
  have B0 := below1 w (.cells #[] 5)
  go_enter Tryd.func40, Tryd.ntmps40
  go_wp2
  rw [hx.out]
  go_loopw [5, 6, 7] (fun s5 s6 s7 wr => ∃ j : Nat, j ≤ k ∧ s7 = .int .i64 j ∧ s6 = .int .u64 (x / 256 ^ j) ∧ RowB w.heap.size wr s5 (leB j x) ∧ Below w.heap.size w wr) (fun _ _ s7 _ => k - (intOf s7).toNat)
  case atStart => exact ⟨0, by omega, rfl, by simp, by simpa [leB] using R0, B0⟩
  case round =>
    obtain ⟨j, hj, rfl, rfl, R, B⟩ := hrel
    rename World => wr
    by_cases hlt : j < k
    · obtain ⟨d0, d1⟩ := div_bd (k := j) HN.out.1 HN.out.2
      have DS := div_step j x
      have LS := leB_step j x
      have LL : (leB j x).length ≤ 1000010 := by rw [leB_len]; omega
      generalize x / 256 ^ j = q at *
      have bn := below1 wr (.cells #[.int .u8 (q % 256)] 5)
      have NW := one_new8 wr 5 (q % 256)
      have R2 := R.below bn
      have B2 := B.trans (bn.mono B.size)
      have hb2 := B2.size
      generalize HLL : leB j x = L at *
      go_wp2_with (at_builtin; refine wpList_append_own_at _ rfl (.tmp 16) (.tmp 19) 22 rfl w.heap.size 5 i8 (.int .u8 0) 1 1 Tryd.underlying22 hi8 hy0 hy1 hy2 rfl (by decide) u5 L.length (L.map (Value.int .u8)) rfl R2 ⟨wr.heap.size, 0, none⟩ 1 _ ([q % 256].map (Value.int .u8)) rfl rfl NW (ones8 _) (by unfold maxLen; omega) (by omega) hb2 ?_; intro v7 w7 R7 G7 _ _; have X7 : Below w.heap.size w w7 := B2.grown G7 hb2 (fun k hk => (World.ownsRow.lt R2 k hk).1); replace R7 : RowB w.heap.size w7 v7 (L ++ [q % 256]) := RowB.app R7; clear G7)
      go_roundw
      case rel => exact ⟨j + 1, by omega, by go_num, by rw [← DS], by rw [LS]; exact R7, X7⟩
      case measure => simp [intOf]; omega
    · obtain rfl : j = k := by omega
      go_wp2
      go_ret
      exact ⟨_, rfl, R, B⟩
end Go.Proofs.YtgcaemhcdpddiaaDoor
