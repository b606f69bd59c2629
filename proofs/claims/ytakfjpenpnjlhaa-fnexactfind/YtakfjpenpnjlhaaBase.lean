import Derived.WalkKit
import Derived.ProofKit
import Derived.Deep.Draws
import Derived.Laws.CopyOwn
/- Limbs and their number; what a slice of limbs reads in memory. No program is named here. -/
namespace Go.Proofs.Ytakfjpenpnjlhaa
open Go.RowKit

/-- A number of its limbs, the lowest first. -/
def val : List Int → Int
  | [] => 0
  | x :: r => x + 4294967296 * val r

/-- Each is a limb. -/
def Lim (xs : List Int) : Prop := ∀ x ∈ xs, 0 ≤ x ∧ x < 4294967296

/-- The highest limb, if there is one, is not 0. -/
def Nrm : List Int → Prop
  | [] => True
  | [x] => x ≠ 0
  | _ :: y :: r => Nrm (y :: r)

theorem Lim.nil : Lim [] := by intro x h; cases h
theorem Lim.cons {x : Int} {r : List Int} (h : Lim (x :: r)) : (0 ≤ x ∧ x < 4294967296) ∧ Lim r :=
  ⟨h x (List.mem_cons_self), fun y hy => h y (List.mem_cons_of_mem _ hy)⟩
theorem Lim.mk {x : Int} {r : List Int} (h : 0 ≤ x ∧ x < 4294967296) (hr : Lim r) : Lim (x :: r) := by
  intro y hy
  rcases List.mem_cons.1 hy with rfl | hy
  · exact h
  · exact hr y hy

theorem val_nonneg : ∀ {xs : List Int}, Lim xs → 0 ≤ val xs
  | [], _ => by simp [val]
  | x :: r, h => by
    obtain ⟨hx, hr⟩ := h.cons
    have := val_nonneg hr
    simp only [val]; omega

theorem val_lt : ∀ {xs : List Int}, Lim xs → val xs < 4294967296 ^ xs.length
  | [], _ => by simp [val]
  | x :: r, h => by
    obtain ⟨hx, hr⟩ := h.cons
    have := val_lt hr
    simp only [val, List.length_cons, Int.pow_succ]
    omega

theorem val_pos : ∀ {xs : List Int}, Lim xs → Nrm xs → xs ≠ [] → 0 < val xs
  | [], _, _, h => absurd rfl h
  | [x], h, hn, _ => by
    obtain ⟨hx, _⟩ := h.cons
    simp only [Nrm] at hn
    simp only [val]; omega
  | x :: y :: r, h, hn, _ => by
    obtain ⟨hx, hr⟩ := h.cons
    have := val_pos hr hn (by simp)
    simp only [val] at this ⊢; omega

theorem val_inj : ∀ {xs ys : List Int}, Lim xs → Lim ys → Nrm xs → Nrm ys → val xs = val ys → xs = ys
  | [], [], _, _, _, _, _ => rfl
  | [], y :: s, _, h, _, hn, e => by
    have := val_pos h hn (by simp); simp only [val] at this e; omega
  | x :: r, [], h, _, hn, _, e => by
    have := val_pos h hn (by simp); simp only [val] at this e; omega
  | x :: r, y :: s, hx, hy, nx, ny, e => by
    obtain ⟨bx, lr⟩ := hx.cons
    obtain ⟨by', ls⟩ := hy.cons
    simp only [val] at e
    have e1 : x = y := by omega
    have e2 : val r = val s := by omega
    have nr : Nrm r := by cases r <;> simp_all [Nrm]
    have ns : Nrm s := by cases s <;> simp_all [Nrm]
    rw [e1, val_inj lr ls nr ns e2]

theorem val_append (xs ys : List Int) : val (xs ++ ys) = val xs + 4294967296 ^ xs.length * val ys := by
  induction xs with
  | nil => simp [val]
  | cons x r ih =>
    simp only [List.cons_append, val, ih, List.length_cons, Int.pow_succ]
    rw [Int.mul_add, ← Int.mul_assoc, Int.mul_comm 4294967296 (4294967296 ^ r.length), Int.add_assoc]

theorem Lim.take {xs : List Int} (h : Lim xs) (n : Nat) : Lim (xs.take n) := fun x hx => h x (List.mem_of_mem_take hx)
theorem Lim.append {xs ys : List Int} (h : Lim xs) (k : Lim ys) : Lim (xs ++ ys) := by
  intro x hx
  rcases List.mem_append.1 hx with hx | hx
  · exact h x hx
  · exact k x hx
theorem Lim.get {xs : List Int} (h : Lim xs) (i : Nat) : 0 ≤ xs[i]?.getD 0 ∧ xs[i]?.getD 0 < 4294967296 := by
  cases e : xs[i]? with
  | none => simp
  | some x => simpa using h x (List.mem_of_getElem? e)

/-- The limbs below the noughts on top. -/
theorem Nrm_of_last : ∀ {xs : List Int}, (∀ x, xs.getLast? = some x → x ≠ 0) → Nrm xs
  | [], _ => trivial
  | [x], h => h x (by simp)
  | x :: y :: r, h => Nrm_of_last (xs := y :: r) (fun z hz => h z (by simpa using hz))

theorem last_of_Nrm : ∀ {xs : List Int}, Nrm xs → ∀ x, xs.getLast? = some x → x ≠ 0
  | [], _, x, h => by simp at h
  | [y], hn, x, h => by simp only [List.getLast?_singleton, Option.some.injEq] at h; subst h; exact hn
  | _ :: y :: r, hn, x, h => last_of_Nrm (xs := y :: r) hn x (by simpa using h)

/-- Noughts on top do not count. -/
theorem val_take_zeros (xs : List Int) (n : Nat) (h : ∀ i, n ≤ i → xs[i]?.getD 0 = 0) : val (xs.take n) = val xs := by
  induction xs generalizing n with
  | nil => simp
  | cons x r ih =>
    cases n with
    | zero =>
      have hx : x = 0 := by simpa using h 0 (Nat.le_refl _)
      have := ih 0 (fun i hi => by simpa using h (i + 1) (by omega))
      simp only [List.take_zero, val] at this ⊢; omega
    | succ n =>
      have := ih n (fun i hi => by simpa using h (i + 1) (by omega))
      simp only [List.take_succ_cons, val, this]

/-! ### Memory -/

/-- A slice (its address, its capacity) that came in, whose elements read as the limbs xs. -/
structure Came (w : World) (a : Option Addr) (cap : Nat) (xs : List Int) : Prop where
  lim : Lim xs
  fits : xs.length ≤ cap
  max : cap ≤ maxLen
  cells : xs ≠ [] → ∃ b off, a = some ⟨b, off, none⟩ ∧ ∀ i, i < xs.length → w.cell? ⟨b, off + i, none⟩ = some (.int .u32 (xs[i]?.getD 0))

/-- .. and is nil without room, or leads to a plain place. -/
structure Sees (w : World) (a : Option Addr) (cap : Nat) (xs : List Int) : Prop extends Came w a cap xs where
  shape : (a = none ∧ cap = 0) ∨ ∃ b off, a = some ⟨b, off, none⟩

/-- .. that lies from block 'base' on, and may be written. -/
structure Own (base : Nat) (w : World) (a : Option Addr) (cap : Nat) (xs : List Int) : Prop extends Sees w a cap xs where
  new : ∀ b off, a = some ⟨b, off, none⟩ → xs ≠ [] → base ≤ b ∧ ∀ i, i < xs.length → w.frozen? ⟨b, off + i, none⟩ = false

theorem Came.below {w w' : World} {a : Option Addr} {cap : Nat} {xs : List Int} (h : Came w a cap xs) (hb : Below w.heap.size w w') : Came w' a cap xs := by
  refine ⟨h.lim, h.fits, h.max, fun hne => ?_⟩
  obtain ⟨b, off, ha, hc⟩ := h.cells hne
  exact ⟨b, off, ha, fun i hi => (hb.cell (World.block_lt_of_cell? _ _ (hc i hi))).trans (hc i hi)⟩
theorem Sees.below {w w' : World} {a : Option Addr} {cap : Nat} {xs : List Int} (h : Sees w a cap xs) (hb : Below w.heap.size w w') : Sees w' a cap xs := ⟨h.toCame.below hb, h.shape⟩

theorem Own.below {base : Nat} {w w' : World} {a : Option Addr} {cap : Nat} {xs : List Int} (h : Own base w a cap xs) (hb : Below w.heap.size w w') : Own base w' a cap xs := by
  refine ⟨h.toSees.below hb, fun b off ha hne => ?_⟩
  obtain ⟨h1, h2⟩ := h.new b off ha hne
  obtain ⟨b', off', ha', hc⟩ := h.cells hne
  rw [ha] at ha'
  simp only [Option.some.injEq, Addr.mk.injEq] at ha'
  obtain ⟨rfl, rfl, _⟩ := ha'
  exact ⟨h1, fun i hi => (hb.frozen (p := ⟨b, off + i, none⟩) (World.block_lt_of_cell? _ _ (hc i hi))).trans (h2 i hi)⟩

theorem Own.base_le {base base' : Nat} {w : World} {a : Option Addr} {cap : Nat} {xs : List Int} (h : Own base w a cap xs) (hb : base' ≤ base) : Own base' w a cap xs :=
  ⟨h.toSees, fun b off ha hne => ⟨Nat.le_trans hb (h.new b off ha hne).1, (h.new b off ha hne).2⟩⟩

/-! ### Writing into one row -/

/-- The block in which a slice's elements lie, if it has any. -/
def rowOf (a : Option Addr) (xs : List Int) : Option Nat := if xs = [] then none else a.map (·.block)

theorem grownBy_refl (w : World) (row : Option Nat) : w.grownBy w row := ⟨rfl, rfl, rfl, Nat.le_refl _, fun _ _ _ => rfl⟩
theorem grownBy_trans {a b c : World} {row : Option Nat} (h : a.grownBy b row) (k : b.grownBy c row) : a.grownBy c row :=
  ⟨k.os.trans h.os, k.tape.trans h.tape, k.output.trans h.output, Nat.le_trans h.size k.size,
    fun i hi hr => (k.block i (Nat.lt_of_lt_of_le hi h.size) hr).trans (h.block i hi hr)⟩
theorem grownBy_setCell {a w : World} {row : Option Nat} (h : a.grownBy w row) {p : Addr} (hp : row = some p.block) (u : Value) : a.grownBy (w.setCell p u) row :=
  grownBy_trans h ⟨rfl, rfl, rfl, by simp, fun k _ hr => Below.heap_setCell _ _ _ _ (fun e => hr (by rw [hp, e]))⟩
theorem grownBy_drewN {a w : World} {row : Option Nat} (h : a.grownBy w row) (n : Nat) : a.grownBy (w.drewN n) row :=
  grownBy_trans h ⟨rfl, rfl, rfl, Nat.le_refl _, fun _ _ _ => rfl⟩

theorem Came.kept {w w' : World} {a : Option Addr} {cap : Nat} {xs : List Int} {row : Option Nat} (h : Came w a cap xs) (hg : w.grownBy w' row)
    (hne : ∀ b off, a = some ⟨b, off, none⟩ → xs ≠ [] → row ≠ some b) : Came w' a cap xs := by
  refine ⟨h.lim, h.fits, h.max, fun hn => ?_⟩
  obtain ⟨b, off, ha, hc⟩ := h.cells hn
  refine ⟨b, off, ha, fun i hi => ?_⟩
  exact (World.cell?_of_block (hg.block b (World.block_lt_of_cell? _ _ (hc i hi)) (fun e => hne b off ha hn e.symm))).trans (hc i hi)

theorem Sees.kept {w w' : World} {a : Option Addr} {cap : Nat} {xs : List Int} {row : Option Nat} (h : Sees w a cap xs) (hg : w.grownBy w' row)
    (hne : ∀ b off, a = some ⟨b, off, none⟩ → xs ≠ [] → row ≠ some b) : Sees w' a cap xs := ⟨h.toCame.kept hg hne, h.shape⟩

theorem Own.kept {base : Nat} {w w' : World} {a : Option Addr} {cap : Nat} {xs : List Int} {row : Option Nat} (h : Own base w a cap xs) (hg : w.grownBy w' row)
    (hne : ∀ b off, a = some ⟨b, off, none⟩ → xs ≠ [] → row ≠ some b) : Own base w' a cap xs := by
  refine ⟨h.toSees.kept hg hne, fun b off ha hn => ?_⟩
  obtain ⟨h1, h2⟩ := h.new b off ha hn
  obtain ⟨b', off', ha', hc⟩ := h.cells hn
  rw [ha] at ha'
  simp only [Option.some.injEq, Addr.mk.injEq] at ha'
  obtain ⟨rfl, rfl, _⟩ := ha'
  exact ⟨h1, fun i hi => (World.frozen?_of_block (a := ⟨b, off + i, none⟩) (hg.block b (World.block_lt_of_cell? _ _ (hc i hi)) (fun e => hne b off ha hn e.symm))).trans (h2 i hi)⟩

theorem Came.lt {w : World} {a : Option Addr} {cap : Nat} {xs : List Int} (h : Came w a cap xs) {b off : Nat} (ha : a = some ⟨b, off, none⟩) (hn : xs ≠ []) : b < w.heap.size := by
  obtain ⟨b', off', ha', hc⟩ := h.cells hn
  rw [ha] at ha'
  simp only [Option.some.injEq, Addr.mk.injEq] at ha'
  obtain ⟨rfl, rfl, _⟩ := ha'
  have hp : 0 < xs.length := List.length_pos_iff.2 hn
  exact World.block_lt_of_cell? _ _ (hc 0 hp)

/-- What lay there before does not lie in a row that came later. -/
theorem apart_later {w w2 : World} {a a2 : Option Addr} {c c2 : Nat} {xs xs2 : List Int} (h : Came w a c xs) (k : Own w.heap.size w2 a2 c2 xs2) :
    ∀ b off, a = some ⟨b, off, none⟩ → xs ≠ [] → rowOf a2 xs2 ≠ some b := by
  intro b off ha hn e
  have hlt := h.lt ha hn
  unfold rowOf at e
  split at e
  · cases e
  · next hn2 =>
    obtain ⟨b2, off2, ha2, _⟩ := k.cells hn2
    have := (k.new b2 off2 ha2 hn2).1
    rw [ha2] at e
    simp at e
    omega
/-- .. nor what came later in a row that lay there before. -/
theorem apart_before {w w2 : World} {a a2 : Option Addr} {c c2 : Nat} {xs xs2 : List Int} (h : Came w a c xs) (k : Own w.heap.size w2 a2 c2 xs2) :
    ∀ b off, a2 = some ⟨b, off, none⟩ → xs2 ≠ [] → rowOf a xs ≠ some b := by
  intro b off ha hn e
  have h1 := (k.new b off ha hn).1
  unfold rowOf at e
  split at e
  · cases e
  · next hn2 =>
    obtain ⟨b2, off2, ha2, _⟩ := h.cells hn2
    have := h.lt ha2 hn2
    rw [ha2] at e
    simp at e
    omega

theorem below_of_grown {base : Nat} {w w' : World} {a : Option Addr} {c : Nat} {xs : List Int} (k : Own base w a c xs) (hg : w.grownBy w' (rowOf a xs)) (hb : base ≤ w.heap.size) : Below base w w' := by
  refine ⟨hg.os, hg.tape, hg.output, hg.size, fun i hi => ?_⟩
  refine hg.block i (by omega) (fun e => ?_)
  unfold rowOf at e
  split at e
  · cases e
  · next hn =>
    obtain ⟨b2, off2, ha2, _⟩ := k.cells hn
    have := (k.new b2 off2 ha2 hn).1
    rw [ha2] at e
    simp at e
    omega

theorem Own.store {base : Nat} {w : World} {a : Option Addr} {cap : Nat} {xs : List Int} (h : Own base w a cap xs) {b off j : Nat} (ha : a = some ⟨b, off, none⟩) (hj : j < xs.length)
    {v : Int} (hv : 0 ≤ v ∧ v < 4294967296) : Own base (w.setCell ⟨b, off + j, none⟩ (.int .u32 v)) a cap (xs.set j v) := by
  have hn : xs ≠ [] := by intro e; simp [e] at hj
  obtain ⟨b', off', ha', hc⟩ := h.cells hn
  have hnew := h.new b off ha hn
  rw [ha] at ha'
  simp only [Option.some.injEq, Addr.mk.injEq] at ha'
  obtain ⟨rfl, rfl, _⟩ := ha'
  refine ⟨⟨⟨?_, by simpa using h.fits, h.max, fun _ => ⟨b, off, ha, fun i hi => ?_⟩⟩, h.shape⟩, fun b1 off1 ha1 _ => ?_⟩
  · intro x hx
    rcases List.mem_or_eq_of_mem_set hx with hx | rfl
    · exact h.lim x hx
    · exact hv
  · rw [List.length_set] at hi
    by_cases e : j = i
    · subst e
      rw [World.cell?_setCell_same _ _ _ (hc j hj)]
      simp [hj]
    · rw [World.cell?_setCell_other _ _ _ _ (by simp), hc i hi]
      simp [List.getElem?_set_ne e]
  · rw [ha] at ha1
    simp only [Option.some.injEq, Addr.mk.injEq] at ha1
    obtain ⟨rfl, rfl, _⟩ := ha1
    exact ⟨hnew.1, fun i hi => by rw [World.frozen?_setCell]; exact hnew.2 i (by simpa using hi)⟩

theorem Own.setCell {base : Nat} {w : World} {a : Option Addr} {cap : Nat} {xs : List Int} (h : Own base w a cap xs) {p : Addr} (hp : p.block < base) (u : Value) : Own base (w.setCell p u) a cap xs :=
  h.kept (grownBy_setCell (grownBy_refl w (some p.block)) rfl u) (fun b off ha hn e => by have := (h.new b off ha hn).1; simp at e; omega)

/-! ### Writing into a part of a row -/
/-- Of the block where a slice of n limbs lies, what is not in the slice is as it was. -/
def Still (w w' : World) (a : Option Addr) (n : Nat) : Prop := ∀ b off, a = some ⟨b, off, none⟩ → ∀ j, (j < off ∨ off + n ≤ j) → w'.cell? ⟨b, j, none⟩ = w.cell? ⟨b, j, none⟩ ∧ w'.frozen? ⟨b, j, none⟩ = w.frozen? ⟨b, j, none⟩
/-- Nothing but the slice was written. -/
def Wrote (w w' : World) (a : Option Addr) (n : Nat) (row : Option Nat) : Prop := w.grownBy w' row ∧ Still w w' a n
theorem Wrote.refl (w : World) (a : Option Addr) (n : Nat) (row : Option Nat) : Wrote w w a n row := ⟨grownBy_refl _ _, fun _ _ _ _ _ => ⟨rfl, rfl⟩⟩
theorem Wrote.trans {w w1 w2 : World} {a : Option Addr} {n : Nat} {row : Option Nat} (h : Wrote w w1 a n row) (k : Wrote w1 w2 a n row) : Wrote w w2 a n row :=
  ⟨grownBy_trans h.1 k.1, fun b off ha j hj => ⟨(k.2 b off ha j hj).1.trans (h.2 b off ha j hj).1, (k.2 b off ha j hj).2.trans (h.2 b off ha j hj).2⟩⟩
theorem Wrote.setCell {w w1 : World} {b off n : Nat} {row : Option Nat} (h : Wrote w w1 (some ⟨b, off, none⟩) n row) {j : Nat} (hr : row = some b) (hj : j < n) (u : Value) : Wrote w (w1.setCell ⟨b, off + j, none⟩ u) (some ⟨b, off, none⟩) n row := by
  refine ⟨grownBy_setCell h.1 hr u, fun b1 off1 ha i hi => ?_⟩
  have ha' := ha
  simp only [Option.some.injEq, Addr.mk.injEq] at ha'
  obtain ⟨rfl, rfl, _⟩ := ha'
  have hne : off + j ≠ i := by omega
  exact ⟨(World.cell?_setCell_other _ _ _ _ (by simp)).trans (h.2 _ _ ha i hi).1, (World.frozen?_setCell ..).trans (h.2 _ _ ha i hi).2⟩
theorem Wrote.drewN {w w1 : World} {a : Option Addr} {n : Nat} {row : Option Nat} (h : Wrote w w1 a n row) (m : Nat) : Wrote w (w1.drewN m) a n row :=
  ⟨grownBy_drewN h.1 m, fun b off ha j hj => h.2 b off ha j hj⟩

/-! ### Blocks of a call's own -/
theorem below1 (w : World) (o1 : Obj) : Below w.heap.size w (w.alloc o1) := (Below.refl _ _).alloc (Nat.le_refl _) _
theorem below2 (w : World) (o1 o2 : Obj) : Below w.heap.size w ((w.alloc o1).alloc o2) := (below1 w o1).alloc (by simp) _
theorem below3 (w : World) (o1 o2 o3 : Obj) : Below w.heap.size w (((w.alloc o1).alloc o2).alloc o3) := (below2 w o1 o2).alloc (by simp; omega) _
theorem below4 (w : World) (o1 o2 o3 o4 : Obj) : Below w.heap.size w ((((w.alloc o1).alloc o2).alloc o3).alloc o4) := (below3 w o1 o2 o3).alloc (by simp; omega) _
theorem below5 (w : World) (o1 o2 o3 o4 o5 : Obj) : Below w.heap.size w (((((w.alloc o1).alloc o2).alloc o3).alloc o4).alloc o5) := (below4 w o1 o2 o3 o4).alloc (by simp; omega) _
theorem bcell {W w1 : World} (hb : Below W.heap.size W w1) : (∀ b o, b < W.heap.size → w1.cell? ⟨b, o, none⟩ = W.cell? ⟨b, o, none⟩) ∧ (∀ b o, b < W.heap.size → w1.frozen? ⟨b, o, none⟩ = W.frozen? ⟨b, o, none⟩) :=
  ⟨fun b o h => hb.cell (p := ⟨b, o, none⟩) h, fun b o h => hb.frozen (p := ⟨b, o, none⟩) h⟩

theorem at_block {W w1 : World} (hb : Below W.heap.size W w1) {b : Nat} (h : b < W.heap.size) : (∀ o, w1.cell? ⟨b, o, none⟩ = W.cell? ⟨b, o, none⟩) ∧ (∀ o, w1.frozen? ⟨b, o, none⟩ = W.frozen? ⟨b, o, none⟩) :=
  ⟨fun o => hb.cell (p := ⟨b, o, none⟩) h, fun o => hb.frozen (p := ⟨b, o, none⟩) h⟩
theorem bat {W W' : World} (hb : Below W.heap.size W W') {p : Addr} {v : Value} (h : W.cell? p = some v) : W'.cell? p = some v := (hb.cell (World.block_lt_of_cell? _ _ h)).trans h
theorem cell_new (w : World) (c : Array Value) (t : TypeId) (i : Nat) {v : Value} (h : c[i]? = some v) : (w.alloc (.cells c t)).cell? ⟨w.heap.size, i, none⟩ = some v := by
  simp only [World.cell?, heap_alloc_new]
  exact h

/-! ### Marks -/
def marks (k : Int) : Nat → List Int
  | 0 => []
  | n + 1 => k :: marks (k + 1) n
theorem marks_length (k : Int) (n : Nat) : (marks k n).length = n := by
  induction n generalizing k with
  | zero => rfl
  | succ n ih => simp [marks, ih]
theorem marks_get (k : Int) (n j : Nat) (h : j < n) : (marks k n)[j]?.getD 0 = k + j := by
  induction n generalizing k j with
  | zero => omega
  | succ n ih =>
    cases j with
    | zero => simp [marks]
    | succ j =>
      have := ih (k + 1) j (by omega)
      simp only [marks, List.getElem?_cons_succ, this]
      omega
theorem marks_snoc (k : Int) (n : Nat) : marks k n ++ [k + n] = marks k (n + 1) := by
  induction n generalizing k with
  | zero => simp [marks]
  | succ n ih =>
    have := ih (k + 1)
    simp only [marks, List.cons_append] at this ⊢
    rw [← this]
    congr 3
    omega
theorem marks_step (k : Int) (xs : List Int) (j : Nat) (h : j < xs.length) : (marks k j ++ xs.drop j).set j (k + j) = marks k (j + 1) ++ xs.drop (j + 1) := by
  rw [List.set_append, if_neg (by rw [marks_length]; omega), marks_length, Nat.sub_self, ← marks_snoc, List.append_assoc]
  congr 1
  rw [List.drop_eq_getElem_cons h, List.set_cons_zero]
  rfl

/-! ### Rows that were made -/
theorem Own.of_row {w : World} {base e g n cap : Nat} {xs : List Int} (h : w.ownsRow base e 1 (.slice (some ⟨g, 0, none⟩) n cap) n (xs.map (Value.int .u32))) (hl : Lim xs) : Own base w (some ⟨g, 0, none⟩) cap xs ∧ n = xs.length := by
  obtain ⟨h1, h2⟩ := h
  have hn : n = xs.length := by simpa using h1.symm
  refine ⟨?_, hn⟩
  rcases h2 with ⟨h2, _⟩ | ⟨g', cap', cur, hv, hb, hh, hc, hm, hs, ht⟩
  · cases h2
  simp only [Value.slice.injEq, Option.some.injEq, Addr.mk.injEq, and_true] at hv
  obtain ⟨rfl, _, rfl⟩ := hv
  refine ⟨⟨⟨hl, by omega, hm, fun _ => ⟨g, 0, rfl, fun i hi => ?_⟩⟩, .inr ⟨g, 0, rfl⟩⟩, fun b off ha _ => ?_⟩
  · rw [cell_of_row w g (0 + i) cur e (0, 0) hh]
    have : (cur.toList.take (n * 1))[i]? = (xs.map (Value.int .u32))[i]? := by rw [ht]
    rw [List.getElem?_take, if_pos (by omega), List.getElem?_map] at this
    simp only [Nat.zero_add]
    rw [Array.getElem?_toList] at this
    rw [this, List.getElem?_eq_getElem hi]
    rfl
  · simp only [Option.some.injEq, Addr.mk.injEq] at ha
    obtain ⟨rfl, rfl, _⟩ := ha
    exact ⟨hb, fun i _ => by simp [World.frozen?, hh]⟩

theorem Lim.zeros (n : Nat) : Lim (List.replicate n 0) := by
  intro x hx
  have := List.eq_of_mem_replicate hx
  omega

/-- The first j limbs, and noughts behind them. -/
def copied (xs : List Int) (j : Nat) : List Int := xs.take j ++ List.replicate (xs.length - j) 0
theorem copied_zero (xs : List Int) : copied xs 0 = List.replicate xs.length 0 := by simp [copied]
theorem copied_all (xs : List Int) : copied xs xs.length = xs := by simp [copied]
theorem copied_length (xs : List Int) (j : Nat) (h : j ≤ xs.length) : (copied xs j).length = xs.length := by simp [copied]; omega
theorem copied_step (xs : List Int) (j : Nat) (h : j < xs.length) : (copied xs j).set j (xs[j]?.getD 0) = copied xs (j + 1) := by
  unfold copied
  have hl : (xs.take j).length = j := by simp; omega
  rw [List.set_append, if_neg (by rw [hl]; omega), hl, Nat.sub_self, List.take_succ_eq_append_getElem h, List.append_assoc]
  congr 1
  rw [show xs.length - j = (xs.length - (j + 1)) + 1 by omega, List.replicate_succ, List.set_cons_zero, List.getElem?_eq_getElem h]
  rfl

/-! ### Noughts on top, cut off -/
theorem Nrm_take {xs : List Int} {j : Nat} (h0 : 0 < j) (hj : j ≤ xs.length) (h : xs[j - 1]?.getD 0 ≠ 0) : Nrm (xs.take j) := by
  refine Nrm_of_last (fun x hx => ?_)
  rw [List.getLast?_eq_getElem?] at hx
  have hl : (xs.take j).length = j := by simp; omega
  rw [hl, List.getElem?_take, if_pos (by omega)] at hx
  rw [hx] at h
  simpa using h

theorem Came.take {w : World} {a : Option Addr} {c : Nat} {xs : List Int} (h : Came w a c xs) {j d : Nat} (hj : j ≤ xs.length) (hd : j ≤ d) (hc : d ≤ c) : Came w a d (xs.take j) := by
  have hl : (xs.take j).length = j := by simp; omega
  refine ⟨h.lim.take j, by omega, Nat.le_trans hc h.max, fun hne => ?_⟩
  have hne' : xs ≠ [] := by intro e; simp [e] at hne
  obtain ⟨b, off, ha, hcell⟩ := h.cells hne'
  refine ⟨b, off, ha, fun i hi => ?_⟩
  rw [hcell i (by omega), List.getElem?_take, if_pos (by omega)]
theorem Sees.take {w : World} {a : Option Addr} {c : Nat} {xs : List Int} (h : Sees w a c xs) {j d : Nat} (hj : j ≤ xs.length) (hd : j ≤ d) (hc : d ≤ c) : Sees w a d (xs.take j) :=
  ⟨h.toCame.take hj hd hc, h.shape.imp (fun ⟨e, z⟩ => ⟨e, by omega⟩) id⟩
theorem Own.take {base : Nat} {w : World} {a : Option Addr} {c : Nat} {xs : List Int} (h : Own base w a c xs) {j d : Nat} (hj : j ≤ xs.length) (hd : j ≤ d) (hc : d ≤ c) : Own base w a d (xs.take j) := by
  have hl : (xs.take j).length = j := by simp; omega
  refine ⟨h.toSees.take hj hd hc, fun b off ha hne => ?_⟩
  have hne' : xs ≠ [] := by intro e; simp [e] at hne
  obtain ⟨h1, h2⟩ := h.new b off ha hne'
  exact ⟨h1, fun i hi => h2 i (by omega)⟩
theorem Own.nil (base : Nat) (w : World) : Own base w none 0 [] :=
  ⟨⟨⟨Lim.nil, by simp, by simp [maxLen], fun h => absurd rfl h⟩, .inl ⟨rfl, rfl⟩⟩, fun _ _ _ h => absurd rfl h⟩

theorem Own.empty (base : Nat) (w : World) (b off : Nat) : Own base w (some ⟨b, off, none⟩) 0 [] :=
  ⟨⟨⟨Lim.nil, by simp, by simp [maxLen], fun h => absurd rfl h⟩, .inr ⟨b, off, rfl⟩⟩, fun _ _ _ h => absurd rfl h⟩

theorem Own.cut {base : Nat} {w : World} {a a' : Option Addr} {c : Nat} {xs : List Int} (h : Own base w a c xs) {j : Nat} (hj : j ≤ xs.length) (ha : (j = 0 ∧ a' = none) ∨ a' = a) : Own base w a' j (xs.take j) := by
  rcases ha with ⟨rfl, rfl⟩ | rfl
  · exact Own.nil _ _
  · exact h.take hj (Nat.le_refl _) (Nat.le_trans hj h.fits)

/-- Cut at j: noughts from j on, and none right below. -/
theorem cut_facts {xs : List Int} {j : Nat} (hj : j ≤ xs.length) (hz : ∀ i, j ≤ i → xs[i]?.getD 0 = 0) (hn : j = 0 ∨ xs[j - 1]?.getD 0 ≠ 0) : Nrm (xs.take j) ∧ val (xs.take j) = val xs ∧ (xs.take j).length = j := by
  refine ⟨?_, val_take_zeros xs j hz, by simp; omega⟩
  by_cases h0 : j = 0
  · subst h0; simp [Nrm]
  · exact Nrm_take (by omega) hj (by rcases hn with h | h; exact absurd h h0; exact h)

theorem zeros_step {xs : List Int} {j : Nat} (hz : ∀ i, j ≤ i → xs[i]?.getD 0 = 0) (h : xs[j - 1]?.getD 0 = 0) : ∀ i, j - 1 ≤ i → xs[i]?.getD 0 = 0 := by
  intro i hi
  by_cases e : i = j - 1
  · rw [e]; exact h
  · exact hz i (by omega)

/-! ### 'append' to an empty row -/
theorem ownsRow_empty2 (w : World) (o : Obj) (e : TypeId) : ((w.alloc o).alloc (.cells #[] e)).ownsRow (w.heap.size + 1) e 1 (.slice (some ⟨w.heap.size + 1, 0, none⟩) 0 0) 0 [] := by
  refine ⟨by simp, .inr ⟨_, 0, #[], rfl, Nat.le_refl _, ?_, Nat.le_refl _, by simp [maxLen], by simp, by simp⟩⟩
  have := heap_alloc_new (w.alloc o) (.cells #[] e)
  rw [World.size_alloc] at this
  exact this
theorem ownsRow_empty1 (w : World) (e : TypeId) : (w.alloc (.cells #[] e)).ownsRow w.heap.size e 1 (.slice (some ⟨w.heap.size, 0, none⟩) 0 0) 0 [] :=
  ⟨by simp, .inr ⟨_, 0, #[], rfl, Nat.le_refl _, heap_alloc_new w (.cells #[] e), Nat.le_refl _, by simp [maxLen], by simp, by simp⟩⟩
theorem Came.news {w : World} {b off c j : Nat} {xs : List Int} (h : Came w (some ⟨b, off, none⟩) c xs) (hj : j ≤ xs.length) :
    ∀ q u, ((xs.take j).map (Value.int .u32))[q]? = some u → w.cell? ((⟨b, off, none⟩ : Addr).add q) = some u := by
  intro q u hu
  rw [List.getElem?_map, List.getElem?_take] at hu
  split at hu
  · next hq =>
    have hne : xs ≠ [] := by intro e; simp [e] at hj; omega
    obtain ⟨b', off', ha, hc⟩ := h.cells hne
    simp only [Option.some.injEq, Addr.mk.injEq] at ha
    obtain ⟨rfl, rfl, _⟩ := ha
    rw [Addr.add_lit, hc q (by omega), List.getElem?_eq_getElem (by omega)]
    rw [List.getElem?_eq_getElem (by omega)] at hu
    exact hu
  · simp at hu
theorem Own.of_append {w : World} {base e n : Nat} {v : Value} {xs : List Int} (h : w.ownsRow base e 1 v n (xs.map (Value.int .u32))) (hl : Lim xs) (hn : 0 < n) :
    ∃ g cap, v = .slice (some ⟨g, 0, none⟩) xs.length cap ∧ Own base w (some ⟨g, 0, none⟩) cap xs := by
  have h' := h
  obtain ⟨h1, h2⟩ := h
  rcases h2 with ⟨_, h2⟩ | ⟨g, cap, cur, rfl, _⟩
  · omega
  · obtain ⟨ho, e⟩ := Own.of_row h' hl
    exact ⟨g, cap, by rw [e], ho⟩

theorem ones (ys : List Int) : ∀ u ∈ ys.map (Value.int .u32), u.oneCell' = true := by
  intro u hu; obtain ⟨y, _, rfl⟩ := List.mem_map.1 hu; rfl
theorem grown_at {w w' : World} {row : Option Nat} (hg : w.grownBy w' row) {b : Nat} (hb : b < w.heap.size) (hr : some b ≠ row) :
    (∀ o, w'.cell? ⟨b, o, none⟩ = w.cell? ⟨b, o, none⟩) ∧ (∀ o, w'.frozen? ⟨b, o, none⟩ = w.frozen? ⟨b, o, none⟩) :=
  ⟨fun o => World.cell?_of_block (a := ⟨b, o, none⟩) (hg.block b hb hr), fun o => World.frozen?_of_block (a := ⟨b, o, none⟩) (hg.block b hb hr)⟩

/-- Two limbs, laid. -/
theorem Own.lit2 (w : World) (e : TypeId) (x y : Int) (hx : 0 ≤ x ∧ x < 4294967296) (hy : 0 ≤ y ∧ y < 4294967296) :
    Own w.heap.size (w.alloc (.cells #[.int .u32 x, .int .u32 y] e)) (some ⟨w.heap.size, 0, none⟩) 2 [x, y] := by
  have hh := heap_alloc_new w (.cells #[.int .u32 x, .int .u32 y] e)
  refine (Own.of_row (n := 2) ⟨rfl, .inr ⟨w.heap.size, 2, #[.int .u32 x, .int .u32 y], rfl, Nat.le_refl _, hh, Nat.le_refl _, by simp [maxLen], rfl, rfl⟩⟩ (Lim.mk hx (Lim.mk hy Lim.nil))).1

/-! ### Numbers -/
/-- A sign's number. -/
def sg (neg : Bool) (v : Int) : Int := if neg then -v else v
/-- A size. -/
def mg (z : Int) : Int := if z < 0 then -z else z

/-- The value is the number z, whose limbs lie from block 'base' on. -/
def IsNum (base : Nat) (w : World) (v : Value) (z : Int) : Prop :=
  ∃ a c ys, v = .agg #[.bool (decide (z < 0)), .slice a ys.length c] ∧ Own base w a c ys ∧ Nrm ys ∧ val ys = mg z

theorem sg_flag {neg : Bool} {ys : List Int} (hl : Lim ys) (hn : Nrm ys) : decide (sg neg (val ys) < 0) = (neg && decide (0 < ys.length)) := by
  have h0 := val_nonneg hl
  by_cases e : ys = []
  · subst e; cases neg <;> simp [sg, val]
  · have := val_pos hl hn e
    have hp : 0 < ys.length := List.length_pos_iff.2 e
    cases neg
    · simp only [sg]; simp; omega
    · simp only [sg]; simp; omega
theorem mg_sg {neg : Bool} {v : Int} (h : 0 ≤ v) : mg (sg neg v) = v := by
  unfold mg sg
  cases neg
  · simp; omega
  · simp only [if_true]; split <;> omega

theorem IsNum.mk {base : Nat} {w : World} {neg : Bool} {a : Option Addr} {c : Nat} {ys : List Int} (ho : Own base w a c ys) (hn : Nrm ys) :
    IsNum base w (.agg #[.bool (neg && decide (0 < ys.length)), .slice a ys.length c]) (sg neg (val ys)) :=
  ⟨a, c, ys, by rw [sg_flag ho.lim hn], ho, hn, (mg_sg (val_nonneg ho.lim)).symm⟩

theorem IsNum.zero (base : Nat) (w : World) (b off : Nat) (neg : Bool) {v : Int} (hv : v = 0) : IsNum base w (.agg #[.bool false, .slice (some ⟨b, off, none⟩) 0 0]) (sg neg v) := by
  subst hv
  have : sg neg 0 = 0 := by cases neg <;> rfl
  rw [this]
  exact ⟨_, 0, [], rfl, Own.empty _ _ _ _, trivial, rfl⟩

theorem IsNum.below {base : Nat} {w w' : World} {v : Value} {z : Int} (h : IsNum base w v z) (hb : Below w.heap.size w w') : IsNum base w' v z := by
  obtain ⟨a, c, ys, hv, ho, hn, he⟩ := h
  exact ⟨a, c, ys, hv, ho.below hb, hn, he⟩
theorem IsNum.base_le {base base' : Nat} {w : World} {v : Value} {z : Int} (h : IsNum base w v z) (hb : base' ≤ base) : IsNum base' w v z := by
  obtain ⟨a, c, ys, hv, ho, hn, he⟩ := h
  exact ⟨a, c, ys, hv, ho.base_le hb, hn, he⟩
theorem IsNum.shape {base : Nat} {w : World} {v : Value} {z : Int} (h : IsNum base w v z) : ∃ g a n c, v = .agg #[.bool g, .slice a n c] := by
  obtain ⟨a, c, ys, hv, _⟩ := h
  exact ⟨_, a, ys.length, c, hv⟩
theorem IsNum.setCell {base : Nat} {w : World} {v : Value} {z : Int} (h : IsNum base w v z) {p : Addr} (hp : p.block < base) (u : Value) : IsNum base (w.setCell p u) v z := by
  obtain ⟨a, c, ys, hv, ho, hn, he⟩ := h
  exact ⟨a, c, ys, hv, ho.setCell hp u, hn, he⟩
/-- A result that is put into its variable, at block b. -/
theorem IsNum.put {base b : Nat} {w : World} {v u0 u1 : Value} {z : Int} (h : IsNum base w v z) (hp : b < base) : IsNum b ((w.setCell ⟨b, 0, none⟩ u0).setCell ⟨b, 1, none⟩ u1) v z :=
  ((h.setCell (p := ⟨b, 0, none⟩) hp u0).setCell (p := ⟨b, 1, none⟩) hp u1).base_le (Nat.le_of_lt hp)
theorem below_put {b : Nat} {w w' : World} (h : Below b w w') (u0 u1 : Value) : Below b w ((w'.setCell ⟨b, 0, none⟩ u0).setCell ⟨b, 1, none⟩ u1) :=
  (h.setCell (p := ⟨b, 0, none⟩) (Nat.le_refl _) u0).setCell (p := ⟨b, 1, none⟩) (Nat.le_refl _) u1
theorem IsNum.eq {w : World} {base : Nat} {v : Value} {z z' : Int} (h : IsNum base w v z) (e : z = z') : IsNum base w v z' := e ▸ h

/-! ### How many limbs -/
theorem val_ge : ∀ {xs : List Int}, Lim xs → Nrm xs → xs ≠ [] → 4294967296 ^ (xs.length - 1) ≤ val xs
  | [], _, _, h => absurd rfl h
  | [x], h, hn, _ => by
    obtain ⟨hx, _⟩ := h.cons
    simp only [Nrm] at hn
    simp only [val, List.length_singleton, Nat.sub_self, Int.pow_zero]; omega
  | x :: y :: r, h, hn, _ => by
    obtain ⟨hx, hr⟩ := h.cons
    have := val_ge hr hn (by simp)
    simp only [val, List.length_cons, Nat.add_sub_cancel] at this ⊢
    rw [Int.pow_succ]
    omega
theorem p_pos (k : Nat) : (0 : Int) < 4294967296 ^ k := by
  induction k with
  | zero => simp
  | succ k ih => rw [Int.pow_succ]; omega
theorem p_mono (k d : Nat) : (4294967296 : Int) ^ k ≤ 4294967296 ^ (k + d) := by
  induction d with
  | zero => simp
  | succ d ih =>
    have := p_pos (k + d)
    rw [← Nat.add_assoc, Int.pow_succ]
    omega
theorem len_le {xs : List Int} (hl : Lim xs) (hn : Nrm xs) {k : Nat} (h : val xs < 4294967296 ^ k) : xs.length ≤ k := by
  rcases Nat.lt_or_ge k xs.length with hk | hk
  · exfalso
    have hne : xs ≠ [] := by intro e; simp [e] at hk
    have h1 := val_ge hl hn hne
    have h2 : (4294967296 : Int) ^ k ≤ 4294967296 ^ (xs.length - 1) := by
      have := p_mono k (xs.length - 1 - k)
      rw [show k + (xs.length - 1 - k) = xs.length - 1 by omega] at this
      exact this
    omega
  · exact hk

/-! ### Two that are the same number -/
theorem IsNum.same {b b' : Nat} {w w' : World} {v v' : Value} {z : Int} (h : IsNum b w v z) (k : IsNum b' w' v' z) :
    ∃ g a c a' c' ys, v = .agg #[.bool g, .slice a ys.length c] ∧ v' = .agg #[.bool g, .slice a' ys.length c'] ∧ Own b w a c ys ∧ Own b' w' a' c' ys ∧ Nrm ys ∧ val ys = mg z := by
  obtain ⟨a, c, ys, hv, ho, hn, he⟩ := h
  obtain ⟨a', c', ys', hv', ho', hn', he'⟩ := k
  obtain rfl : ys = ys' := val_inj ho.lim ho'.lim hn hn' (he.trans he'.symm)
  exact ⟨_, a, c, a', c', ys, hv, hv', ho, ho', hn, he⟩

/-- Another one of the same number. -/
theorem IsNum.as {b : Nat} {w : World} {v : Value} {z : Int} (h : IsNum b w v z) {ys : List Int} (hl : Lim ys) (hn : Nrm ys) (hv : val ys = mg z) :
    ∃ a c, v = .agg #[.bool (decide (z < 0)), .slice a ys.length c] ∧ Own b w a c ys := by
  obtain ⟨a, c, ys', hv', ho, hn', he⟩ := h
  obtain rfl : ys = ys' := val_inj hl ho.lim hn hn' (hv.trans he.symm)
  exact ⟨a, c, hv', ho⟩

/-! ### Rows apart -/
theorem row_ne_low {base p : Nat} {w : World} {a : Option Addr} {c : Nat} {xs : List Int} (k : Own base w a c xs) (hp : p < base) : some p ≠ rowOf a xs := by
  intro e
  unfold rowOf at e
  split at e
  · cases e
  · next hn =>
    obtain ⟨b2, off2, ha2, _⟩ := k.cells hn
    have := (k.new b2 off2 ha2 hn).1
    rw [ha2] at e
    simp at e
    omega
theorem row_ne_high {p : Nat} {w : World} {a : Option Addr} {c : Nat} {xs : List Int} (k : Came w a c xs) (hp : w.heap.size ≤ p) : some p ≠ rowOf a xs := by
  intro e
  unfold rowOf at e
  split at e
  · cases e
  · next hn =>
    obtain ⟨b2, off2, ha2, _⟩ := k.cells hn
    have := k.lt ha2 hn
    rw [ha2] at e
    simp at e
    omega

theorem IsNum.put' {base b b0 : Nat} {w : World} {v u0 u1 : Value} {z : Int} (h : IsNum base w v z) (hp : b < base) (h0 : b0 ≤ b) : IsNum b0 ((w.setCell ⟨b, 0, none⟩ u0).setCell ⟨b, 1, none⟩ u1) v z :=
  (h.put hp).base_le h0
theorem below_put' {b b0 : Nat} {w w' : World} (h : Below b0 w w') (h0 : b0 ≤ b) (u0 u1 : Value) : Below b0 w ((w'.setCell ⟨b, 0, none⟩ u0).setCell ⟨b, 1, none⟩ u1) :=
  (h.setCell (p := ⟨b, 0, none⟩) h0 u0).setCell (p := ⟨b, 1, none⟩) h0 u1

theorem cell_put {w : World} {b b' o : Nat} {u0 u1 : Value} (h : b' ≠ b) : ((w.setCell ⟨b, 0, none⟩ u0).setCell ⟨b, 1, none⟩ u1).cell? ⟨b', o, none⟩ = w.cell? ⟨b', o, none⟩ := by
  rw [World.cell?_setCell_other _ _ _ _ (by intro e; simp only [Addr.mk.injEq] at e; exact h e.1.symm), World.cell?_setCell_other _ _ _ _ (by intro e; simp only [Addr.mk.injEq] at e; exact h e.1.symm)]
theorem sg_not (g : Bool) (v : Int) : sg (!g) v = - sg g v := by cases g <;> simp [sg]
end Go.Proofs.Ytakfjpenpnjlhaa

/- Variables that a region makes: what lies in them, what is put into them. -/
namespace Go.Proofs.Ytakfjpenpnjlhaa
open Go.RowKit

theorem frozen_new (w : World) (c : Array Value) (t : TypeId) (o : Nat) : (w.alloc (.cells c t)).frozen? ⟨w.heap.size, o, none⟩ = false := by
  simp [go_sem]

theorem put_new2 {w : World} {p : Nat} {x0 x1 : Value} (h0 : w.cell? ⟨p, 0, none⟩ = some x0) (h1 : w.cell? ⟨p, 1, none⟩ = some x1) (u0 u1 : Value) :
    ((w.setCell ⟨p, 0, none⟩ u0).setCell ⟨p, 1, none⟩ u1).cell? ⟨p, 0, none⟩ = some u0 ∧ ((w.setCell ⟨p, 0, none⟩ u0).setCell ⟨p, 1, none⟩ u1).cell? ⟨p, 1, none⟩ = some u1 := by
  refine ⟨?_, ?_⟩
  · rw [World.cell?_setCell_other _ _ _ _ (by simp)]
    exact World.cell?_setCell_same _ _ _ h0
  · refine World.cell?_setCell_same (u := x1) _ _ _ ?_
    rw [World.cell?_setCell_other _ _ _ _ (by simp)]
    exact h1
theorem put_old2 {w : World} {b b' o : Nat} (h : b' ≠ b) (u0 u1 : Value) : ((w.setCell ⟨b, 0, none⟩ u0).setCell ⟨b, 1, none⟩ u1).cell? ⟨b', o, none⟩ = w.cell? ⟨b', o, none⟩ := cell_put h
theorem put_frozen2 {w : World} (b : Nat) (a : Addr) (u0 u1 : Value) : ((w.setCell ⟨b, 0, none⟩ u0).setCell ⟨b, 1, none⟩ u1).frozen? a = w.frozen? a := by
  rw [World.frozen?_setCell, World.frozen?_setCell]
theorem Own.put1 {base p : Nat} {w : World} {a : Option Addr} {c : Nat} {xs : List Int} (h : Own base w a c xs) (r : some p ≠ rowOf a xs) (o : Nat) (u : Value) : Own base (w.setCell ⟨p, o, none⟩ u) a c xs :=
  h.kept (grownBy_setCell (grownBy_refl w (some p)) rfl u) (fun b off ha hn e => by
    apply r
    unfold rowOf
    rw [if_neg hn, ha]
    simpa using e)
theorem Own.put2 {base p : Nat} {w : World} {a : Option Addr} {c : Nat} {xs : List Int} (h : Own base w a c xs) (r : some p ≠ rowOf a xs) (u0 u1 : Value) : Own base ((w.setCell ⟨p, 0, none⟩ u0).setCell ⟨p, 1, none⟩ u1) a c xs :=
  (h.put1 r 0 u0).put1 r 1 u1

theorem gt {l : List Oper} {i : Nat} {o : Oper} (h : l[i]? = some o) : l.toArray[i]? = some o := by simpa using h

/-- A variable of two cells that was made from block lo on. -/
structure Box2 (lo : Nat) (w : World) (p : Nat) (x0 x1 : Value) : Prop where
  c0 : w.cell? ⟨p, 0, none⟩ = some x0
  c1 : w.cell? ⟨p, 1, none⟩ = some x1
  fr : ∀ o, w.frozen? ⟨p, o, none⟩ = false
  lo : lo ≤ p
theorem Box2.new (w : World) {lo : Nat} (h : lo ≤ w.heap.size) (x0 x1 : Value) (t : TypeId) : Box2 lo (w.alloc (.cells #[x0, x1] t)) w.heap.size x0 x1 :=
  ⟨cell_new w #[x0, x1] t 0 rfl, cell_new w #[x0, x1] t 1 rfl, fun o => frozen_new _ _ _ o, h⟩
theorem Box2.lt {lo p : Nat} {w : World} {x0 x1 : Value} (h : Box2 lo w p x0 x1) : p < w.heap.size := World.block_lt_of_cell? _ _ h.c0
theorem Box2.below {lo p : Nat} {w w' : World} {x0 x1 : Value} (h : Box2 lo w p x0 x1) (hb : Below w.heap.size w w') : Box2 lo w' p x0 x1 :=
  ⟨bat hb h.c0, bat hb h.c1, fun o => (hb.frozen (p := ⟨p, o, none⟩) h.lt).trans (h.fr o), h.lo⟩
theorem Box2.put {lo p : Nat} {w : World} {x0 x1 : Value} (h : Box2 lo w p x0 x1) (u0 u1 : Value) : Box2 lo ((w.setCell ⟨p, 0, none⟩ u0).setCell ⟨p, 1, none⟩ u1) p u0 u1 :=
  ⟨(put_new2 h.c0 h.c1 u0 u1).1, (put_new2 h.c0 h.c1 u0 u1).2, fun o => (put_frozen2 p _ u0 u1).trans (h.fr o), h.lo⟩
theorem Box2.old {lo p q : Nat} {w : World} {x0 x1 : Value} (h : Box2 lo w q x0 x1) (ne : q ≠ p) (u0 u1 : Value) : Box2 lo ((w.setCell ⟨p, 0, none⟩ u0).setCell ⟨p, 1, none⟩ u1) q x0 x1 :=
  ⟨(put_old2 ne u0 u1).trans h.c0, (put_old2 ne u0 u1).trans h.c1, fun o => (put_frozen2 p _ u0 u1).trans (h.fr o), h.lo⟩
theorem Box2.chain {b : Nat} {W w : World} {p : Nat} {x0 x1 : Value} (N : Below b W w) (h : Box2 b w p x0 x1) (u0 u1 : Value) : Below b W ((w.setCell ⟨p, 0, none⟩ u0).setCell ⟨p, 1, none⟩ u1) :=
  (N.setCell (p := ⟨p, 0, none⟩) h.lo u0).setCell (p := ⟨p, 1, none⟩) h.lo u1

/-- A variable of four cells. -/
structure Box4 (lo : Nat) (w : World) (p : Nat) (x0 x1 x2 x3 : Value) : Prop where
  c0 : w.cell? ⟨p, 0, none⟩ = some x0
  c1 : w.cell? ⟨p, 1, none⟩ = some x1
  c2 : w.cell? ⟨p, 2, none⟩ = some x2
  c3 : w.cell? ⟨p, 3, none⟩ = some x3
  fr : ∀ o, w.frozen? ⟨p, o, none⟩ = false
  lo : lo ≤ p
theorem Box4.new (w : World) {lo : Nat} (h : lo ≤ w.heap.size) (x0 x1 x2 x3 : Value) (t : TypeId) : Box4 lo (w.alloc (.cells #[x0, x1, x2, x3] t)) w.heap.size x0 x1 x2 x3 :=
  ⟨cell_new w #[x0, x1, x2, x3] t 0 rfl, cell_new w #[x0, x1, x2, x3] t 1 rfl, cell_new w #[x0, x1, x2, x3] t 2 rfl, cell_new w #[x0, x1, x2, x3] t 3 rfl, fun o => frozen_new _ _ _ o, h⟩
theorem Box4.lt {lo p : Nat} {w : World} {x0 x1 x2 x3 : Value} (h : Box4 lo w p x0 x1 x2 x3) : p < w.heap.size := World.block_lt_of_cell? _ _ h.c0
theorem Box4.below {lo p : Nat} {w w' : World} {x0 x1 x2 x3 : Value} (h : Box4 lo w p x0 x1 x2 x3) (hb : Below w.heap.size w w') : Box4 lo w' p x0 x1 x2 x3 :=
  ⟨bat hb h.c0, bat hb h.c1, bat hb h.c2, bat hb h.c3, fun o => (hb.frozen (p := ⟨p, o, none⟩) h.lt).trans (h.fr o), h.lo⟩
theorem cell_same {w : World} {p o : Nat} {x : Value} (h : w.cell? ⟨p, o, none⟩ = some x) (u : Value) : (w.setCell ⟨p, o, none⟩ u).cell? ⟨p, o, none⟩ = some u := World.cell?_setCell_same _ _ _ h
theorem cell_other {w : World} {p o q i : Nat} (h : p ≠ q ∨ o ≠ i) (u : Value) : (w.setCell ⟨p, o, none⟩ u).cell? ⟨q, i, none⟩ = w.cell? ⟨q, i, none⟩ :=
  World.cell?_setCell_other _ _ _ _ (by intro e; simp only [Addr.mk.injEq] at e; rcases h with h | h <;> exact h (by simp [e]))
theorem Box4.put {lo p : Nat} {w : World} {x0 x1 x2 x3 : Value} (h : Box4 lo w p x0 x1 x2 x3) (u0 u1 u2 u3 : Value) : Box4 lo ((((w.setCell ⟨p, 0, none⟩ u0).setCell ⟨p, 1, none⟩ u1).setCell ⟨p, 2, none⟩ u2).setCell ⟨p, 3, none⟩ u3) p u0 u1 u2 u3 := by
  refine ⟨?_, ?_, ?_, ?_, fun o => ?_, h.lo⟩
  · rw [cell_other (.inr (by decide)), cell_other (.inr (by decide)), cell_other (.inr (by decide))]; exact cell_same h.c0 u0
  · rw [cell_other (.inr (by decide)), cell_other (.inr (by decide))]; exact cell_same ((cell_other (.inr (by decide)) u0).trans h.c1) u1
  · rw [cell_other (.inr (by decide))]; exact cell_same (((cell_other (.inr (by decide)) u1).trans (cell_other (.inr (by decide)) u0)).trans h.c2) u2
  · exact cell_same ((((cell_other (.inr (by decide)) u2).trans (cell_other (.inr (by decide)) u1)).trans (cell_other (.inr (by decide)) u0)).trans h.c3) u3
  · rw [World.frozen?_setCell, World.frozen?_setCell, World.frozen?_setCell, World.frozen?_setCell]; exact h.fr o
theorem Box4.old {lo p q : Nat} {w : World} {x0 x1 x2 x3 : Value} (h : Box4 lo w q x0 x1 x2 x3) (ne : q ≠ p) (u0 u1 u2 u3 : Value) : Box4 lo ((((w.setCell ⟨p, 0, none⟩ u0).setCell ⟨p, 1, none⟩ u1).setCell ⟨p, 2, none⟩ u2).setCell ⟨p, 3, none⟩ u3) q x0 x1 x2 x3 := by
  have e : ∀ o, ((((w.setCell ⟨p, 0, none⟩ u0).setCell ⟨p, 1, none⟩ u1).setCell ⟨p, 2, none⟩ u2).setCell ⟨p, 3, none⟩ u3).cell? ⟨q, o, none⟩ = w.cell? ⟨q, o, none⟩ := fun o => by
    rw [cell_other (.inl ne.symm), cell_other (.inl ne.symm), cell_other (.inl ne.symm), cell_other (.inl ne.symm)]
  refine ⟨(e 0).trans h.c0, (e 1).trans h.c1, (e 2).trans h.c2, (e 3).trans h.c3, fun o => ?_, h.lo⟩
  rw [World.frozen?_setCell, World.frozen?_setCell, World.frozen?_setCell, World.frozen?_setCell]; exact h.fr o
theorem Box4.chain {b : Nat} {W w : World} {p : Nat} {x0 x1 x2 x3 : Value} (N : Below b W w) (h : Box4 b w p x0 x1 x2 x3) (u0 u1 u2 u3 : Value) : Below b W ((((w.setCell ⟨p, 0, none⟩ u0).setCell ⟨p, 1, none⟩ u1).setCell ⟨p, 2, none⟩ u2).setCell ⟨p, 3, none⟩ u3) :=
  (((N.setCell (p := ⟨p, 0, none⟩) h.lo u0).setCell (p := ⟨p, 1, none⟩) h.lo u1).setCell (p := ⟨p, 2, none⟩) h.lo u2).setCell (p := ⟨p, 3, none⟩) h.lo u3
theorem Own.put4 {base p : Nat} {w : World} {a : Option Addr} {c : Nat} {xs : List Int} (h : Own base w a c xs) (r : some p ≠ rowOf a xs) (u0 u1 u2 u3 : Value) : Own base ((((w.setCell ⟨p, 0, none⟩ u0).setCell ⟨p, 1, none⟩ u1).setCell ⟨p, 2, none⟩ u2).setCell ⟨p, 3, none⟩ u3) a c xs :=
  (((h.put1 r 0 u0).put1 r 1 u1).put1 r 2 u2).put1 r 3 u3
end Go.Proofs.Ytakfjpenpnjlhaa

/- Limb by limb: the arithmetic of sums, of differences, of comparing. No program is named here. -/
namespace Go.Proofs.Ytakfjpenpnjlhaa
open Go.RowKit

theorem val_snoc (ws : List Int) (x : Int) : val (ws ++ [x]) = val ws + 4294967296 ^ ws.length * x := by
  rw [val_append]; simp [val]
theorem val_take_succ (xs : List Int) (j : Nat) : val (xs.take (j + 1)) = val (xs.take j) + 4294967296 ^ j * (xs[j]?.getD 0) := by
  by_cases h : j < xs.length
  · rw [List.take_succ_eq_append_getElem h, val_snoc, List.getElem?_eq_getElem h]
    have : (xs.take j).length = j := by simp; omega
    rw [this]; rfl
  · rw [List.take_of_length_le (by omega), List.take_of_length_le (by omega), List.getElem?_eq_none (by omega)]
    simp
theorem digit_step (P t : Int) : P * (t % 4294967296) + P * 4294967296 * (t / 4294967296) = P * t := by
  rw [Int.mul_assoc, ← Int.mul_add, Int.add_comm, Int.mul_ediv_add_emod]
theorem Lim.snoc {ws : List Int} (h : Lim ws) {x : Int} (hx : 0 ≤ x ∧ x < 4294967296) : Lim (ws ++ [x]) := h.append (Lim.mk hx Lim.nil)
theorem row_step {ws us : List Int} {j : Nat} (hw : ws.length = j) (hj : j < us.length) (x : Int) : (ws ++ us.drop j).set j x = (ws ++ [x]) ++ us.drop (j + 1) := by
  rw [List.set_append, if_neg (by omega), hw, Nat.sub_self, List.append_assoc, List.drop_eq_getElem_cons hj, List.set_cons_zero]
  rfl
theorem row_length {ws us : List Int} {j : Nat} (hw : ws.length = j) (hj : j ≤ us.length) : (ws ++ us.drop j).length = us.length := by simp; omega
theorem row_get {ws us : List Int} {j : Nat} (hw : ws.length = j) (_hj : j < us.length) : (ws ++ us.drop j)[j]?.getD 0 = us[j]?.getD 0 := by
  rw [List.getElem?_append_right (by omega), hw, Nat.sub_self, List.getElem?_drop, Nat.add_zero]

/-- One limb of a sum. -/
theorem add_round {ws us ys : List Int} {j : Nat} {cr : Int} (hw : ws.length = j) (h : val ws + 4294967296 ^ j * cr = val (us.take j) + val (ys.take j)) :
    val (ws ++ [(cr + us[j]?.getD 0 + ys[j]?.getD 0) % 4294967296]) + 4294967296 ^ (j + 1) * ((cr + us[j]?.getD 0 + ys[j]?.getD 0) / 4294967296) = val (us.take (j + 1)) + val (ys.take (j + 1)) := by
  rw [val_snoc, hw, val_take_succ, val_take_succ, Int.pow_succ]
  have := digit_step (4294967296 ^ j) (cr + us[j]?.getD 0 + ys[j]?.getD 0)
  rw [Int.mul_add, Int.mul_add] at this
  omega

/-- One limb of a difference: so often as 't' says. -/
theorem sub_round {ws us ys : List Int} {j : Nat} {ow t x : Int} (hw : ws.length = j) (h : val ws - 4294967296 ^ j * ow = val (us.take j) - t * val (ys.take j))
    {q : Int} (hx : x - 4294967296 * q = us[j]?.getD 0 - (ow + t * (ys[j]?.getD 0))) :
    val (ws ++ [x]) - 4294967296 ^ (j + 1) * q = val (us.take (j + 1)) - t * val (ys.take (j + 1)) := by
  rw [val_snoc, hw, val_take_succ, val_take_succ, Int.pow_succ]
  have e1 : (4294967296 : Int) ^ j * (x - 4294967296 * q) = 4294967296 ^ j * (us[j]?.getD 0 - (ow + t * (ys[j]?.getD 0))) := by rw [hx]
  rw [Int.mul_sub, Int.mul_sub, Int.mul_add, ← Int.mul_assoc, ← Int.mul_assoc] at e1
  rw [Int.mul_add, ← Int.mul_assoc t, Int.mul_comm t (4294967296 ^ j)]
  omega

theorem Own.of_heap {w : World} {base g : Nat} {e : TypeId} {xs : List Int} (h : w.heap[g]? = some (.cells (xs.map (Value.int .u32)).toArray e (0, 0))) (hl : Lim xs) (hm : xs.length ≤ maxLen) (hb : base ≤ g) :
    Own base w (some ⟨g, 0, none⟩) xs.length xs :=
  (Own.of_row (n := xs.length) ⟨by simp, .inr ⟨g, xs.length, _, rfl, hb, h, Nat.le_refl _, hm, by simp, by simp [List.take_of_length_le]⟩⟩ hl).1
theorem heap_of_made {w : World} {base e g n : Nat} {z : Value} (h : w.ownsRow base e 1 (.slice (some ⟨g, 0, none⟩) n n) n (List.replicate n z)) : w.heap[g]? = some (.cells (List.replicate n z).toArray e (0, 0)) := by
  obtain ⟨_, h2⟩ := h
  rcases h2 with ⟨h2, _⟩ | ⟨g', cap', cur, hv, hb, hh, hc, hm, hs, ht⟩
  · cases h2
  simp only [Value.slice.injEq, Option.some.injEq, Addr.mk.injEq, and_true] at hv
  obtain ⟨rfl, _, rfl⟩ := hv
  rw [hh]
  have : cur.toList = List.replicate n z := by
    rw [← ht, List.take_of_length_le]
    simpa using Nat.le_of_eq hs
  rw [← this]
/-- A copy laid over noughts. -/
theorem splice_front (xs : List Int) (n : Nat) (_h : xs.length ≤ n) : splice (List.replicate n (Value.int .u32 0)) 0 (xs.map (Value.int .u32)) = (xs ++ List.replicate (n - xs.length) 0).map (Value.int .u32) := by
  simp [splice, List.map_append, List.drop_replicate]
theorem val_zeros (n : Nat) : val (List.replicate n 0) = 0 := by
  induction n with
  | zero => rfl
  | succ n ih => simp [List.replicate_succ, val, ih]

/-! ### Comparing -/
/-- -1, 0 or 1. -/
def cmpZ (a b : Int) : Int := if a < b then -1 else if a = b then 0 else 1
theorem cmp_at {xs ys : List Int} {j : Nat} (hx : Lim xs) (hy : Lim ys) (hl : xs.length = ys.length) (hj : j < xs.length) (he : xs.drop (j + 1) = ys.drop (j + 1)) (hlt : xs[j]?.getD 0 < ys[j]?.getD 0) : val xs < val ys := by
  have e1 : val xs = val (xs.take (j + 1)) + 4294967296 ^ (j + 1) * val (xs.drop (j + 1)) := by
    have := val_append (xs.take (j + 1)) (xs.drop (j + 1))
    rw [List.take_append_drop] at this
    rw [this, List.length_take, Nat.min_eq_left (by omega)]
  have e2 : val ys = val (ys.take (j + 1)) + 4294967296 ^ (j + 1) * val (xs.drop (j + 1)) := by
    have := val_append (ys.take (j + 1)) (ys.drop (j + 1))
    rw [List.take_append_drop] at this
    rw [this, List.length_take, Nat.min_eq_left (by omega), he]
  rw [val_take_succ] at e1 e2
  have b1 := val_lt (hx.take j)
  have b2 := val_nonneg (hy.take j)
  rw [List.length_take, Nat.min_eq_left (by omega)] at b1
  have hp := p_pos j
  have hm : (4294967296 : Int) ^ j * (xs[j]?.getD 0 + 1) ≤ 4294967296 ^ j * (ys[j]?.getD 0) := Int.mul_le_mul_of_nonneg_left (by omega) (Int.le_of_lt hp)
  rw [Int.mul_add, Int.mul_one] at hm
  omega
theorem cmp_len {xs ys : List Int} (hx : Lim xs) (hy : Lim ys) (ny : Nrm ys) (hl : xs.length < ys.length) : val xs < val ys := by
  have hne : ys ≠ [] := by intro e; simp [e] at hl
  have h1 := val_lt hx
  have h2 := val_ge hy ny hne
  have h3 := p_mono xs.length (ys.length - 1 - xs.length)
  rw [show xs.length + (ys.length - 1 - xs.length) = ys.length - 1 by omega] at h3
  omega
theorem drop_step {xs ys : List Int} {j : Nat} (hl : xs.length = ys.length) (he : xs.drop (j + 1) = ys.drop (j + 1)) (h : xs[j]?.getD 0 = ys[j]?.getD 0) : xs.drop j = ys.drop j := by
  by_cases hj : j < xs.length
  · have hj' : j < ys.length := by omega
    rw [List.drop_eq_getElem_cons hj, List.drop_eq_getElem_cons hj', he]
    rw [List.getElem?_eq_getElem hj, List.getElem?_eq_getElem hj'] at h
    simp only [Option.getD_some] at h
    rw [h]
  · rw [List.drop_eq_nil_of_le (by omega), List.drop_eq_nil_of_le (by omega)]

end Go.Proofs.Ytakfjpenpnjlhaa

/- A number's digits, the lowest first; one limb after another divided by ten. No program is named here. -/
namespace Go.Proofs.Ytakfjpenpnjlhaa
open Go.RowKit

/-- The digits of a number, the lowest first; none of 0. -/
def digs (n : Nat) : List Nat := if h : n = 0 then [] else n % 10 :: digs (n / 10)
termination_by n
decreasing_by omega

theorem digs_zero : digs 0 = [] := by rw [digs]; simp
theorem digs_pos {n : Nat} (h : 0 < n) : digs n = n % 10 :: digs (n / 10) := by rw [digs, dif_neg (by omega)]
theorem digs_ne {n : Nat} (h : 0 < n) : digs n ≠ [] := by rw [digs_pos h]; simp
theorem digs_lt : ∀ (n : Nat), ∀ d ∈ digs n, d < 10 := by
  intro n
  induction n using Nat.strongRecOn with
  | _ n ih =>
    intro d hd
    rcases Nat.eq_zero_or_pos n with rfl | h
    · rw [digs_zero] at hd; cases hd
    · rw [digs_pos h] at hd
      rcases List.mem_cons.1 hd with rfl | hd
      · omega
      · exact ih (n / 10) (by omega) d hd
theorem digs_len : ∀ (k n : Nat), n < 10 ^ k → (digs n).length ≤ k := by
  intro k
  induction k with
  | zero => intro n h; obtain rfl : n = 0 := by simpa using h
            rw [digs_zero]; simp
  | succ k ih =>
    intro n h
    rcases Nat.eq_zero_or_pos n with rfl | h0
    · rw [digs_zero]; simp
    · rw [digs_pos h0, List.length_cons]
      have := ih (n / 10) (by rw [Nat.pow_succ] at h; omega)
      omega

/-- The byte of a digit. -/
def chr (d : Nat) : Int := 48 + d
/-- The bytes of a number's digits as whole numbers, the lowest first. -/
def digB (n : Nat) : List Int := (digs n).map chr
theorem digB_zero : digB 0 = [] := by simp [digB, digs_zero]
theorem digB_pos {n : Nat} (h : 0 < n) : digB n = (48 + ((n % 10 : Nat) : Int)) :: digB (n / 10) := by simp [digB, digs_pos h, chr]
theorem digB_byte (n : Nat) : ∀ x ∈ digB n, 0 ≤ x ∧ x < 256 := by
  intro x hx
  simp only [digB, List.mem_map] at hx
  obtain ⟨d, hd, rfl⟩ := hx
  have := digs_lt n d hd
  unfold chr; omega
theorem digB_len {k n : Nat} (h : n < 10 ^ k) : (digB n).length ≤ k := by simpa [digB] using digs_len k n h

/-- The text of a whole number, as bytes that are whole numbers. -/
def numB (z : Int) : List Int := if z = 0 then [48] else (digB z.natAbs ++ if z < 0 then [45] else []).reverse
/-- .. as bytes. -/
def strB (ds : List Int) : ByteArray := ⟨(ds.map (fun x : Int => UInt8.ofNat x.toNat)).toArray⟩
def numT (z : Int) : ByteArray := strB (numB z)
theorem numB_byte (z : Int) : ∀ x ∈ numB z, 0 ≤ x ∧ x < 256 := by
  intro x hx
  unfold numB at hx
  split at hx
  · simp at hx; omega
  · simp only [List.mem_reverse, List.mem_append] at hx
    rcases hx with hx | hx
    · exact digB_byte _ x hx
    · split at hx
      · simp at hx; omega
      · cases hx

/-! ### Divided by ten, limb by limb -/
/-- Of limbs xs those from place t on are divided by ten already: zs is what stands there, r the rest. -/
structure T10 (xs : List Int) (t : Nat) (r : Int) (zs : List Int) : Prop where
  le : t ≤ xs.length
  len : zs.length = xs.length
  low : zs.take t = xs.take t
  eq : val (zs.drop t) * 10 + r = val (xs.drop t)
  r0 : 0 ≤ r
  r1 : r < 10
  lim : Lim zs

theorem T10.start {xs : List Int} (h : Lim xs) : T10 xs xs.length 0 xs :=
  ⟨Nat.le_refl _, rfl, rfl, by simp [val], by decide, by decide, h⟩
theorem T10.get {xs zs : List Int} {t : Nat} {r : Int} (h : T10 xs (t + 1) r zs) : zs[t]?.getD 0 = xs[t]?.getD 0 := by
  have e : (zs.take (t + 1))[t]? = (xs.take (t + 1))[t]? := by rw [h.low]
  rw [List.getElem?_take, List.getElem?_take, if_pos (by omega), if_pos (by omega)] at e
  rw [e]
theorem drop_val {xs : List Int} {t : Nat} (h : t < xs.length) : val (xs.drop t) = xs[t]?.getD 0 + 4294967296 * val (xs.drop (t + 1)) := by
  rw [List.drop_eq_getElem_cons h, val, List.getElem?_eq_getElem h]; rfl
theorem T10.step {xs zs : List Int} {t : Nat} {r x : Int} (h : T10 xs (t + 1) r zs) (hx : xs[t]?.getD 0 = x) (hl : 0 ≤ x ∧ x < 4294967296) :
    T10 xs t ((r * 4294967296 + x) % 10) (zs.set t ((r * 4294967296 + x) / 10)) := by
  have ht : t < xs.length := h.le
  have hz : t < zs.length := by rw [h.len]; exact ht
  have hr0 := h.r0
  have hr1 := h.r1
  refine ⟨by omega, by rw [List.length_set]; exact h.len, ?_, ?_, by omega, by omega, ?_⟩
  · rw [List.take_set_of_le (Nat.le_refl _)]
    have e : (zs.take (t + 1)).take t = (xs.take (t + 1)).take t := by rw [h.low]
    rw [List.take_take, List.take_take, Nat.min_eq_left (by omega)] at e
    exact e
  · rw [drop_val (xs := xs) ht, hx, ← h.eq, drop_val (xs := zs.set t _) (by rw [List.length_set]; exact hz)]
    rw [List.getElem?_set_self (by exact hz), List.drop_set_of_lt (by omega)]
    simp only [Option.getD_some]
    omega
  · intro y hy
    rcases List.mem_or_eq_of_mem_set hy with hy | rfl
    · exact h.lim y hy
    · omega
theorem T10.done {xs zs : List Int} {r : Int} (h : T10 xs 0 r zs) : val zs = val xs / 10 ∧ r = val xs % 10 := by
  have e := h.eq
  have hr0 := h.r0
  have hr1 := h.r1
  simp only [List.drop_zero] at e
  omega

/-! ### The digits so far -/
/-- ds are the digits of V up to what is left, v. -/
def DigAt (V : Int) (ds : List Int) (v : Int) : Prop := 0 ≤ v ∧ ds ++ digB v.toNat = digB V.toNat
theorem DigAt.start {V : Int} (h : 0 ≤ V) : DigAt V [] V := ⟨h, by simp⟩
theorem DigAt.step {V v : Int} {ds : List Int} (h : DigAt V ds v) (h0 : 0 < v) : DigAt V (ds ++ [48 + v % 10]) (v / 10) := by
  refine ⟨by omega, ?_⟩
  rw [← h.2, List.append_assoc]
  congr 1
  rw [digB_pos (show 0 < v.toNat by omega)]
  simp only [List.singleton_append]
  have e1 : (48 + ((v.toNat % 10 : Nat) : Int)) = 48 + v % 10 := by omega
  have e2 : v.toNat / 10 = (v / 10).toNat := by omega
  rw [e1, e2]
theorem DigAt.done {V : Int} {ds : List Int} (h : DigAt V ds 0) : ds = digB V.toNat := by
  have := h.2
  simp only [Int.toNat_zero, digB_zero, List.append_nil] at this
  exact this
theorem DigAt.len {V v : Int} {ds : List Int} {k : Nat} (h : DigAt V ds v) (hV : V.toNat < 10 ^ k) : ds.length ≤ k := by
  have := digB_len hV
  rw [← h.2, List.length_append] at this
  omega

theorem p_digits : (4294967296 : Int) ^ 24 < (10 : Int) ^ 232 := by decide
theorem val_digits {xs : List Int} (hl : Lim xs) (h : xs.length ≤ 24) : (val xs).toNat < 10 ^ 232 := by
  have h1 := val_lt hl
  have h2 := p_mono xs.length (24 - xs.length)
  rw [show xs.length + (24 - xs.length) = 24 by omega] at h2
  have h3 := Int.lt_trans (Int.lt_of_lt_of_le h1 h2) p_digits
  have h4 : ((10 ^ 232 : Nat) : Int) = (10 : Int) ^ 232 := by simp
  rw [← h4] at h3
  generalize 10 ^ 232 = N at *
  omega

/-! ### Turned around in place -/
/-- The first k and the last k have changed places. -/
structure Flip (ds : List Int) (k : Nat) (zs : List Int) : Prop where
  len : zs.length = ds.length
  at' : ∀ i, i < ds.length → zs[i]?.getD 0 = if i < k ∨ ds.length - k ≤ i then ds[ds.length - 1 - i]?.getD 0 else ds[i]?.getD 0
theorem Flip.start (ds : List Int) : Flip ds 0 ds := ⟨rfl, fun i h => by rw [if_neg (by omega)]⟩
theorem set_at (zs : List Int) (j i : Nat) (v : Int) (h : j < zs.length) : (zs.set j v)[i]?.getD 0 = if i = j then v else zs[i]?.getD 0 := by
  rw [List.getElem?_set]
  by_cases e : j = i
  · subst e; simp [h]
  · rw [if_neg e, if_neg (Ne.symm e)]
theorem Flip.step {ds zs : List Int} {k : Nat} (h : Flip ds k zs) (hk : k < ds.length / 2) {x y : Int} (hx : zs[k]?.getD 0 = x) (hy : zs[ds.length - 1 - k]?.getD 0 = y) :
    Flip ds (k + 1) ((zs.set k y).set (ds.length - 1 - k) x) := by
  have hl := h.len
  refine ⟨by simp [hl], fun i hi => ?_⟩
  rw [set_at _ _ _ _ (by rw [List.length_set]; omega), set_at _ _ _ _ (by omega)]
  by_cases e1 : i = ds.length - 1 - k
  · rw [if_pos e1, if_pos (by omega), ← hx, h.at' k (by omega), if_neg (by omega)]
    congr 2; omega
  · rw [if_neg e1]
    by_cases e2 : i = k
    · rw [if_pos e2, if_pos (by omega), ← hy, h.at' _ (by omega), if_neg (by omega)]
      congr 2; omega
    · rw [if_neg e2, h.at' i hi]
      by_cases e3 : i < k ∨ ds.length - k ≤ i
      · rw [if_pos e3, if_pos (by omega)]
      · rw [if_neg e3, if_neg (by omega)]
theorem Flip.done {ds zs : List Int} {k : Nat} (h : Flip ds k zs) (hk : k = ds.length / 2) : zs = ds.reverse := by
  subst hk
  have hl := h.len
  refine List.ext_getElem (by simp [hl]) (fun i h1 h2 => ?_)
  have hi : i < ds.length := by omega
  have e := h.at' i hi
  rw [List.getElem?_eq_getElem h1] at e
  rw [List.getElem_reverse]
  simp only [Option.getD_some] at e
  rw [e]
  split
  · rw [List.getElem?_eq_getElem (by omega)]; rfl
  · have : i = ds.length - 1 - i := by omega
    rw [List.getElem?_eq_getElem hi]
    simp only [Option.getD_some]
    congr 1
end Go.Proofs.Ytakfjpenpnjlhaa
