import Derived.Deep.RegionHeld3
import Derived.WalkKit
import Derived.ProofKit
import Derived.Deep.Draws
import Derived.Laws.CopyOwn
import Derived.Test.YtnjbedhealpgcaaGreatProg
import Derived.WalkSpells
import Derived.WalkLawsBesides
import Derived.BigQuiet
import Derived.Deep.QuietTactic
import Derived.Deep.RegionHeld3
import Derived.Laws.AppendOwnNone
/- Limbs and their number; what a slice of limbs reads in memory. No program is named here. -/
namespace Go.Proofs.YtnjbedhealpgcaaGreat
open Go.RowKit

def val : List Int → Int
 | [] => 0
 | x :: r => x + 4294967296 * val r

def Lim (xs : List Int) : Prop := ∀ x ∈ xs, 0 ≤ x ∧ x < 4294967296

def Nrm : List Int → Prop
 | [] => True
 | [x] => x ≠ 0
 | _ :: y :: r => Nrm (y :: r)

theorem Lim.nil : Lim [] := by intro x h; cases h
theorem Lim.cons {x : Int} {r : List Int} (h : Lim (x :: r)) : (0 ≤ x ∧ x < 4294967296) ∧ Lim r :=
 ⟨h x (List.mem_cons_self), fun y hy => h y (List.mem_cons_of_mem _ hy)⟩
theorem Lim.mk {x : Int} {r : List Int} (h : 0 ≤ x ∧ x < 4294967296) (hr : Lim r) : Lim (x :: r) := by
 intro y hy
 rcases List.mem_cons.1 hy with rfl | hy
 ·exact h
 ·exact hr y hy

theorem val_nonneg : ∀ {xs : List Int}, Lim xs → 0 ≤ val xs
 | [], _ => by simp [val]
 | x :: r, h => by
  obtain ⟨hx, hr⟩ := h.cons
  have := val_nonneg hr
  simp only [val]; omega

theorem val_lt : ∀ {xs : List Int}, Lim xs → val xs < 4294967296 ^ xs.length
 | [], _ => by simp [val]
 | x :: r, h => by
  obtain ⟨hx, hr⟩ := h.cons
  have := val_lt hr
  simp only [val, List.length_cons, Int.pow_succ]
  omega

theorem val_pos : ∀ {xs : List Int}, Lim xs → Nrm xs → xs ≠ [] → 0 < val xs
 | [], _, _, h => absurd rfl h
 | [x], h, hn, _ => by
  obtain ⟨hx, _⟩ := h.cons
  simp only [Nrm] at hn
  simp only [val]; omega
 | x :: y :: r, h, hn, _ => by
  obtain ⟨hx, hr⟩ := h.cons
  have := val_pos hr hn (by simp)
  simp only [val] at this ⊢; omega

theorem val_inj : ∀ {xs ys : List Int}, Lim xs → Lim ys → Nrm xs → Nrm ys → val xs = val ys → xs = ys
 | [], [], _, _, _, _, _ => rfl
 | [], y :: s, _, h, _, hn, e => by
  have := val_pos h hn (by simp); simp only [val] at this e; omega
 | x :: r, [], h, _, hn, _, e => by
  have := val_pos h hn (by simp); simp only [val] at this e; omega
 | x :: r, y :: s, hx, hy, nx, ny, e => by
  obtain ⟨bx, lr⟩ := hx.cons
  obtain ⟨by', ls⟩ := hy.cons
  simp only [val] at e
  have e1 : x = y := by omega
  have e2 : val r = val s := by omega
  have nr : Nrm r := by cases r <;> simp_all [Nrm]
  have ns : Nrm s := by cases s <;> simp_all [Nrm]
  rw [e1, val_inj lr ls nr ns e2]

theorem val_append (xs ys : List Int) : val (xs ++ ys) = val xs + 4294967296 ^ xs.length * val ys := by
 induction xs with
 | nil => simp [val]
 | cons x r ih =>
  simp only [List.cons_append, val, ih, List.length_cons, Int.pow_succ]
  rw [Int.mul_add, ← Int.mul_assoc, Int.mul_comm 4294967296 (4294967296 ^ r.length), Int.add_assoc]

theorem Lim.take {xs : List Int} (h : Lim xs) (n : Nat) : Lim (xs.take n) := fun x hx => h x (List.mem_of_mem_take hx)
theorem Lim.append {xs ys : List Int} (h : Lim xs) (k : Lim ys) : Lim (xs ++ ys) := by
 intro x hx
 rcases List.mem_append.1 hx with hx | hx
 ·exact h x hx
 ·exact k x hx
theorem Lim.get {xs : List Int} (h : Lim xs) (i : Nat) : 0 ≤ xs[i]?.getD 0 ∧ xs[i]?.getD 0 < 4294967296 := by
 cases e : xs[i]? with
 | none => simp
 | some x => simpa using h x (List.mem_of_getElem? e)

theorem Nrm_of_last : ∀ {xs : List Int}, (∀ x, xs.getLast? = some x → x ≠ 0) → Nrm xs
 | [], _ => trivial
 | [x], h => h x (by simp)
 | x :: y :: r, h => Nrm_of_last (xs := y :: r) (fun z hz => h z (by simpa using hz))

theorem last_of_Nrm : ∀ {xs : List Int}, Nrm xs → ∀ x, xs.getLast? = some x → x ≠ 0
 | [], _, x, h => by simp at h
 | [y], hn, x, h => by simp only [List.getLast?_singleton, Option.some.injEq] at h; subst h; exact hn
 | _ :: y :: r, hn, x, h => last_of_Nrm (xs := y :: r) hn x (by simpa using h)

theorem val_take_zeros (xs : List Int) (n : Nat) (h : ∀ i, n ≤ i → xs[i]?.getD 0 = 0) : val (xs.take n) = val xs := by
 induction xs generalizing n with
 | nil => simp
 | cons x r ih =>
  cases n with
  | zero =>
   have hx : x = 0 := by simpa using h 0 (Nat.le_refl _)
   have := ih 0 (fun i hi => by simpa using h (i + 1) (by omega))
   simp only [List.take_zero, val] at this ⊢; omega
  | succ n =>
   have := ih n (fun i hi => by simpa using h (i + 1) (by omega))
   simp only [List.take_succ_cons, val, this]

/-! ### Memory -/

structure Came (w : World) (a : Option Addr) (cap : Nat) (xs : List Int) : Prop where
 lim : Lim xs
 fits : xs.length ≤ cap
 max : cap ≤ maxLen
 cells : xs ≠ [] → ∃ b off, a = some ⟨b, off, none⟩ ∧ ∀ i, i < xs.length → w.cell? ⟨b, off + i, none⟩ = some (.int .u32 (xs[i]?.getD 0))

structure Sees (w : World) (a : Option Addr) (cap : Nat) (xs : List Int) : Prop extends Came w a cap xs where
 shape : (a = none ∧ cap = 0) ∨ ∃ b off, a = some ⟨b, off, none⟩

structure Own (base : Nat) (w : World) (a : Option Addr) (cap : Nat) (xs : List Int) : Prop extends Sees w a cap xs where
 new : ∀ b off, a = some ⟨b, off, none⟩ → xs ≠ [] → base ≤ b ∧ ∀ i, i < xs.length → w.frozen? ⟨b, off + i, none⟩ = false

theorem Came.below {w w' : World} {a : Option Addr} {cap : Nat} {xs : List Int} (h : Came w a cap xs) (hb : Below w.heap.size w w') : Came w' a cap xs := by
 refine ⟨h.lim, h.fits, h.max, fun hne => ?_⟩
 obtain ⟨b, off, ha, hc⟩ := h.cells hne
 exact ⟨b, off, ha, fun i hi => (hb.cell (World.block_lt_of_cell? _ _ (hc i hi))).trans (hc i hi)⟩
theorem Sees.below {w w' : World} {a : Option Addr} {cap : Nat} {xs : List Int} (h : Sees w a cap xs) (hb : Below w.heap.size w w') : Sees w' a cap xs := ⟨h.toCame.below hb, h.shape⟩

theorem Own.below {base : Nat} {w w' : World} {a : Option Addr} {cap : Nat} {xs : List Int} (h : Own base w a cap xs) (hb : Below w.heap.size w w') : Own base w' a cap xs := by
 refine ⟨h.toSees.below hb, fun b off ha hne => ?_⟩
 obtain ⟨h1, h2⟩ := h.new b off ha hne
 obtain ⟨b', off', ha', hc⟩ := h.cells hne
 rw [ha] at ha'
 simp only [Option.some.injEq, Addr.mk.injEq] at ha'
 obtain ⟨rfl, rfl, _⟩ := ha'
 exact ⟨h1, fun i hi => (hb.frozen (p := ⟨b, off + i, none⟩) (World.block_lt_of_cell? _ _ (hc i hi))).trans (h2 i hi)⟩

theorem Own.base_le {base base' : Nat} {w : World} {a : Option Addr} {cap : Nat} {xs : List Int} (h : Own base w a cap xs) (hb : base' ≤ base) : Own base' w a cap xs :=
 ⟨h.toSees, fun b off ha hne => ⟨Nat.le_trans hb (h.new b off ha hne).1, (h.new b off ha hne).2⟩⟩

/-! ### Writing into one row -/

def rowOf (a : Option Addr) (xs : List Int) : Option Nat := if xs = [] then none else a.map (·.block)

theorem grownBy_refl (w : World) (row : Option Nat) : w.grownBy w row := ⟨rfl, rfl, rfl, Nat.le_refl _, fun _ _ _ => rfl⟩
theorem grownBy_trans {a b c : World} {row : Option Nat} (h : a.grownBy b row) (k : b.grownBy c row) : a.grownBy c row :=
 ⟨k.os.trans h.os, k.tape.trans h.tape, k.output.trans h.output, Nat.le_trans h.size k.size,
  fun i hi hr => (k.block i (Nat.lt_of_lt_of_le hi h.size) hr).trans (h.block i hi hr)⟩
theorem grownBy_setCell {a w : World} {row : Option Nat} (h : a.grownBy w row) {p : Addr} (hp : row = some p.block) (u : Value) : a.grownBy (w.setCell p u) row :=
 grownBy_trans h ⟨rfl, rfl, rfl, by simp, fun k _ hr => Below.heap_setCell _ _ _ _ (fun e => hr (by rw [hp, e]))⟩
theorem grownBy_drewN {a w : World} {row : Option Nat} (h : a.grownBy w row) (n : Nat) : a.grownBy (w.drewN n) row :=
 grownBy_trans h ⟨rfl, rfl, rfl, Nat.le_refl _, fun _ _ _ => rfl⟩

theorem Came.kept {w w' : World} {a : Option Addr} {cap : Nat} {xs : List Int} {row : Option Nat} (h : Came w a cap xs) (hg : w.grownBy w' row)
  (hne : ∀ b off, a = some ⟨b, off, none⟩ → xs ≠ [] → row ≠ some b) : Came w' a cap xs := by
 refine ⟨h.lim, h.fits, h.max, fun hn => ?_⟩
 obtain ⟨b, off, ha, hc⟩ := h.cells hn
 refine ⟨b, off, ha, fun i hi => ?_⟩
 exact (World.cell?_of_block (hg.block b (World.block_lt_of_cell? _ _ (hc i hi)) (fun e => hne b off ha hn e.symm))).trans (hc i hi)

theorem Sees.kept {w w' : World} {a : Option Addr} {cap : Nat} {xs : List Int} {row : Option Nat} (h : Sees w a cap xs) (hg : w.grownBy w' row)
  (hne : ∀ b off, a = some ⟨b, off, none⟩ → xs ≠ [] → row ≠ some b) : Sees w' a cap xs := ⟨h.toCame.kept hg hne, h.shape⟩

theorem Own.kept {base : Nat} {w w' : World} {a : Option Addr} {cap : Nat} {xs : List Int} {row : Option Nat} (h : Own base w a cap xs) (hg : w.grownBy w' row)
  (hne : ∀ b off, a = some ⟨b, off, none⟩ → xs ≠ [] → row ≠ some b) : Own base w' a cap xs := by
 refine ⟨h.toSees.kept hg hne, fun b off ha hn => ?_⟩
 obtain ⟨h1, h2⟩ := h.new b off ha hn
 obtain ⟨b', off', ha', hc⟩ := h.cells hn
 rw [ha] at ha'
 simp only [Option.some.injEq, Addr.mk.injEq] at ha'
 obtain ⟨rfl, rfl, _⟩ := ha'
 exact ⟨h1, fun i hi => (World.frozen?_of_block (a := ⟨b, off + i, none⟩) (hg.block b (World.block_lt_of_cell? _ _ (hc i hi)) (fun e => hne b off ha hn e.symm))).trans (h2 i hi)⟩

theorem Came.lt {w : World} {a : Option Addr} {cap : Nat} {xs : List Int} (h : Came w a cap xs) {b off : Nat} (ha : a = some ⟨b, off, none⟩) (hn : xs ≠ []) : b < w.heap.size := by
 obtain ⟨b', off', ha', hc⟩ := h.cells hn
 rw [ha] at ha'
 simp only [Option.some.injEq, Addr.mk.injEq] at ha'
 obtain ⟨rfl, rfl, _⟩ := ha'
 have hp : 0 < xs.length := List.length_pos_iff.2 hn
 exact World.block_lt_of_cell? _ _ (hc 0 hp)

theorem apart_later {w w2 : World} {a a2 : Option Addr} {c c2 : Nat} {xs xs2 : List Int} (h : Came w a c xs) (k : Own w.heap.size w2 a2 c2 xs2) :
  ∀ b off, a = some ⟨b, off, none⟩ → xs ≠ [] → rowOf a2 xs2 ≠ some b := by
 intro b off ha hn e
 have hlt := h.lt ha hn
 unfold rowOf at e
 split at e
 ·cases e
 ·next hn2 =>
  obtain ⟨b2, off2, ha2, _⟩ := k.cells hn2
  have := (k.new b2 off2 ha2 hn2).1
  rw [ha2] at e
  simp at e
  omega
theorem below_of_grown {base : Nat} {w w' : World} {a : Option Addr} {c : Nat} {xs : List Int} (k : Own base w a c xs) (hg : w.grownBy w' (rowOf a xs)) (hb : base ≤ w.heap.size) : Below base w w' := by
 refine ⟨hg.os, hg.tape, hg.output, hg.size, fun i hi => ?_⟩
 refine hg.block i (by omega) (fun e => ?_)
 unfold rowOf at e
 split at e
 ·cases e
 ·next hn =>
  obtain ⟨b2, off2, ha2, _⟩ := k.cells hn
  have := (k.new b2 off2 ha2 hn).1
  rw [ha2] at e
  simp at e
  omega

theorem Own.store {base : Nat} {w : World} {a : Option Addr} {cap : Nat} {xs : List Int} (h : Own base w a cap xs) {b off j : Nat} (ha : a = some ⟨b, off, none⟩) (hj : j < xs.length)
  {v : Int} (hv : 0 ≤ v ∧ v < 4294967296) : Own base (w.setCell ⟨b, off + j, none⟩ (.int .u32 v)) a cap (xs.set j v) := by
 have hn : xs ≠ [] := by intro e; simp [e] at hj
 obtain ⟨b', off', ha', hc⟩ := h.cells hn
 have hnew := h.new b off ha hn
 rw [ha] at ha'
 simp only [Option.some.injEq, Addr.mk.injEq] at ha'
 obtain ⟨rfl, rfl, _⟩ := ha'
 refine ⟨⟨⟨?_, by simpa using h.fits, h.max, fun _ => ⟨b, off, ha, fun i hi => ?_⟩⟩, h.shape⟩, fun b1 off1 ha1 _ => ?_⟩
 ·intro x hx
  rcases List.mem_or_eq_of_mem_set hx with hx | rfl
  ·exact h.lim x hx
  ·exact hv
 ·rw [List.length_set] at hi
  by_cases e : j = i
  ·subst e
   rw [World.cell?_setCell_same _ _ _ (hc j hj)]
   simp [hj]
  ·rw [World.cell?_setCell_other _ _ _ _ (by simp), hc i hi]
   simp [List.getElem?_set_ne e]
 ·rw [ha] at ha1
  simp only [Option.some.injEq, Addr.mk.injEq] at ha1
  obtain ⟨rfl, rfl, _⟩ := ha1
  exact ⟨hnew.1, fun i hi => by rw [World.frozen?_setCell]; exact hnew.2 i (by simpa using hi)⟩

theorem Own.setCell {base : Nat} {w : World} {a : Option Addr} {cap : Nat} {xs : List Int} (h : Own base w a cap xs) {p : Addr} (hp : p.block < base) (u : Value) : Own base (w.setCell p u) a cap xs :=
 h.kept (grownBy_setCell (grownBy_refl w (some p.block)) rfl u) (fun b off ha hn e => by have := (h.new b off ha hn).1; simp at e; omega)

/-! ### Writing into a part of a row -/
def Still (w w' : World) (a : Option Addr) (n : Nat) : Prop := ∀ b off, a = some ⟨b, off, none⟩ → ∀ j, (j < off ∨ off + n ≤ j) → w'.cell? ⟨b, j, none⟩ = w.cell? ⟨b, j, none⟩ ∧ w'.frozen? ⟨b, j, none⟩ = w.frozen? ⟨b, j, none⟩
def Wrote (w w' : World) (a : Option Addr) (n : Nat) (row : Option Nat) : Prop := w.grownBy w' row ∧ Still w w' a n
theorem Wrote.refl (w : World) (a : Option Addr) (n : Nat) (row : Option Nat) : Wrote w w a n row := ⟨grownBy_refl _ _, fun _ _ _ _ _ => ⟨rfl, rfl⟩⟩
theorem Wrote.trans {w w1 w2 : World} {a : Option Addr} {n : Nat} {row : Option Nat} (h : Wrote w w1 a n row) (k : Wrote w1 w2 a n row) : Wrote w w2 a n row :=
 ⟨grownBy_trans h.1 k.1, fun b off ha j hj => ⟨(k.2 b off ha j hj).1.trans (h.2 b off ha j hj).1, (k.2 b off ha j hj).2.trans (h.2 b off ha j hj).2⟩⟩
theorem Wrote.setCell {w w1 : World} {b off n : Nat} {row : Option Nat} (h : Wrote w w1 (some ⟨b, off, none⟩) n row) {j : Nat} (hr : row = some b) (hj : j < n) (u : Value) : Wrote w (w1.setCell ⟨b, off + j, none⟩ u) (some ⟨b, off, none⟩) n row := by
 refine ⟨grownBy_setCell h.1 hr u, fun b1 off1 ha i hi => ?_⟩
 have ha' := ha
 simp only [Option.some.injEq, Addr.mk.injEq] at ha'
 obtain ⟨rfl, rfl, _⟩ := ha'
 have hne : off + j ≠ i := by omega
 exact ⟨(World.cell?_setCell_other _ _ _ _ (by simp)).trans (h.2 _ _ ha i hi).1, (World.frozen?_setCell ..).trans (h.2 _ _ ha i hi).2⟩
theorem Wrote.drewN {w w1 : World} {a : Option Addr} {n : Nat} {row : Option Nat} (h : Wrote w w1 a n row) (m : Nat) : Wrote w (w1.drewN m) a n row :=
 ⟨grownBy_drewN h.1 m, fun b off ha j hj => h.2 b off ha j hj⟩

/-! ### Blocks of a call's own -/
theorem below1 (w : World) (o1 : Obj) : Below w.heap.size w (w.alloc o1) := (Below.refl _ _).alloc (Nat.le_refl _) _
theorem below2 (w : World) (o1 o2 : Obj) : Below w.heap.size w ((w.alloc o1).alloc o2) := (below1 w o1).alloc (by simp) _
theorem below3 (w : World) (o1 o2 o3 : Obj) : Below w.heap.size w (((w.alloc o1).alloc o2).alloc o3) := (below2 w o1 o2).alloc (by simp; omega) _
theorem below4 (w : World) (o1 o2 o3 o4 : Obj) : Below w.heap.size w ((((w.alloc o1).alloc o2).alloc o3).alloc o4) := (below3 w o1 o2 o3).alloc (by simp; omega) _
theorem bcell {W w1 : World} (hb : Below W.heap.size W w1) : (∀ b o, b < W.heap.size → w1.cell? ⟨b, o, none⟩ = W.cell? ⟨b, o, none⟩) ∧ (∀ b o, b < W.heap.size → w1.frozen? ⟨b, o, none⟩ = W.frozen? ⟨b, o, none⟩) :=
 ⟨fun b o h => hb.cell (p := ⟨b, o, none⟩) h, fun b o h => hb.frozen (p := ⟨b, o, none⟩) h⟩

theorem at_block {W w1 : World} (hb : Below W.heap.size W w1) {b : Nat} (h : b < W.heap.size) : (∀ o, w1.cell? ⟨b, o, none⟩ = W.cell? ⟨b, o, none⟩) ∧ (∀ o, w1.frozen? ⟨b, o, none⟩ = W.frozen? ⟨b, o, none⟩) :=
 ⟨fun o => hb.cell (p := ⟨b, o, none⟩) h, fun o => hb.frozen (p := ⟨b, o, none⟩) h⟩
theorem bat {W W' : World} (hb : Below W.heap.size W W') {p : Addr} {v : Value} (h : W.cell? p = some v) : W'.cell? p = some v := (hb.cell (World.block_lt_of_cell? _ _ h)).trans h
theorem cell_new (w : World) (c : Array Value) (t : TypeId) (i : Nat) {v : Value} (h : c[i]? = some v) : (w.alloc (.cells c t)).cell? ⟨w.heap.size, i, none⟩ = some v := by
 simp only [World.cell?, heap_alloc_new]
 exact h

/-! ### Marks -/
def marks (k : Int) : Nat → List Int
 | 0 => []
 | n + 1 => k :: marks (k + 1) n
theorem marks_length (k : Int) (n : Nat) : (marks k n).length = n := by
 induction n generalizing k with
 | zero => rfl
 | succ n ih => simp [marks, ih]
theorem marks_get (k : Int) (n j : Nat) (h : j < n) : (marks k n)[j]?.getD 0 = k + j := by
 induction n generalizing k j with
 | zero => omega
 | succ n ih =>
  cases j with
  | zero => simp [marks]
  | succ j =>
   have := ih (k + 1) j (by omega)
   simp only [marks, List.getElem?_cons_succ, this]
   omega
theorem marks_snoc (k : Int) (n : Nat) : marks k n ++ [k + n] = marks k (n + 1) := by
 induction n generalizing k with
 | zero => simp [marks]
 | succ n ih =>
  have := ih (k + 1)
  simp only [marks, List.cons_append] at this ⊢
  rw [← this]
  congr 3
  omega
theorem marks_step (k : Int) (xs : List Int) (j : Nat) (h : j < xs.length) : (marks k j ++ xs.drop j).set j (k + j) = marks k (j + 1) ++ xs.drop (j + 1) := by
 rw [List.set_append, if_neg (by rw [marks_length]; omega), marks_length, Nat.sub_self, ← marks_snoc, List.append_assoc]
 congr 1
 rw [List.drop_eq_getElem_cons h, List.set_cons_zero]
 rfl

/-! ### Rows that were made -/
theorem Own.of_row {w : World} {base e g n cap : Nat} {xs : List Int} (h : w.ownsRow base e 1 (.slice (some ⟨g, 0, none⟩) n cap) n (xs.map (Value.int .u32))) (hl : Lim xs) : Own base w (some ⟨g, 0, none⟩) cap xs ∧ n = xs.length := by
 obtain ⟨h1, h2⟩ := h
 have hn : n = xs.length := by simpa using h1.symm
 refine ⟨?_, hn⟩
 rcases h2 with ⟨h2, _⟩ | ⟨g', cap', cur, hv, hb, hh, hc, hm, hs, ht⟩
 ·cases h2
 simp only [Value.slice.injEq, Option.some.injEq, Addr.mk.injEq, and_true] at hv
 obtain ⟨rfl, _, rfl⟩ := hv
 refine ⟨⟨⟨hl, by omega, hm, fun _ => ⟨g, 0, rfl, fun i hi => ?_⟩⟩, .inr ⟨g, 0, rfl⟩⟩, fun b off ha _ => ?_⟩
 ·rw [cell_of_row w g (0 + i) cur e (0, 0) hh]
  have : (cur.toList.take (n * 1))[i]? = (xs.map (Value.int .u32))[i]? := by rw [ht]
  rw [List.getElem?_take, if_pos (by omega), List.getElem?_map] at this
  simp only [Nat.zero_add]
  rw [Array.getElem?_toList] at this
  rw [this, List.getElem?_eq_getElem hi]
  rfl
 ·simp only [Option.some.injEq, Addr.mk.injEq] at ha
  obtain ⟨rfl, rfl, _⟩ := ha
  exact ⟨hb, fun i _ => by simp [World.frozen?, hh]⟩

theorem Lim.zeros (n : Nat) : Lim (List.replicate n 0) := by
 intro x hx
 have := List.eq_of_mem_replicate hx
 omega

def copied (xs : List Int) (j : Nat) : List Int := xs.take j ++ List.replicate (xs.length - j) 0
theorem copied_step (xs : List Int) (j : Nat) (h : j < xs.length) : (copied xs j).set j (xs[j]?.getD 0) = copied xs (j + 1) := by
 unfold copied
 have hl : (xs.take j).length = j := by simp; omega
 rw [List.set_append, if_neg (by rw [hl]; omega), hl, Nat.sub_self, List.take_succ_eq_append_getElem h, List.append_assoc]
 congr 1
 rw [show xs.length - j = (xs.length - (j + 1)) + 1 by omega, List.replicate_succ, List.set_cons_zero, List.getElem?_eq_getElem h]
 rfl

/-! ### Noughts on top, cut off -/
theorem Nrm_take {xs : List Int} {j : Nat} (h0 : 0 < j) (hj : j ≤ xs.length) (h : xs[j - 1]?.getD 0 ≠ 0) : Nrm (xs.take j) := by
 refine Nrm_of_last (fun x hx => ?_)
 rw [List.getLast?_eq_getElem?] at hx
 have hl : (xs.take j).length = j := by simp; omega
 rw [hl, List.getElem?_take, if_pos (by omega)] at hx
 rw [hx] at h
 simpa using h

theorem Came.take {w : World} {a : Option Addr} {c : Nat} {xs : List Int} (h : Came w a c xs) {j d : Nat} (hj : j ≤ xs.length) (hd : j ≤ d) (hc : d ≤ c) : Came w a d (xs.take j) := by
 have hl : (xs.take j).length = j := by simp; omega
 refine ⟨h.lim.take j, by omega, Nat.le_trans hc h.max, fun hne => ?_⟩
 have hne' : xs ≠ [] := by intro e; simp [e] at hne
 obtain ⟨b, off, ha, hcell⟩ := h.cells hne'
 refine ⟨b, off, ha, fun i hi => ?_⟩
 rw [hcell i (by omega), List.getElem?_take, if_pos (by omega)]
theorem Sees.take {w : World} {a : Option Addr} {c : Nat} {xs : List Int} (h : Sees w a c xs) {j d : Nat} (hj : j ≤ xs.length) (hd : j ≤ d) (hc : d ≤ c) : Sees w a d (xs.take j) :=
 ⟨h.toCame.take hj hd hc, h.shape.imp (fun ⟨e, z⟩ => ⟨e, by omega⟩) id⟩
theorem Own.take {base : Nat} {w : World} {a : Option Addr} {c : Nat} {xs : List Int} (h : Own base w a c xs) {j d : Nat} (hj : j ≤ xs.length) (hd : j ≤ d) (hc : d ≤ c) : Own base w a d (xs.take j) := by
 have hl : (xs.take j).length = j := by simp; omega
 refine ⟨h.toSees.take hj hd hc, fun b off ha hne => ?_⟩
 have hne' : xs ≠ [] := by intro e; simp [e] at hne
 obtain ⟨h1, h2⟩ := h.new b off ha hne'
 exact ⟨h1, fun i hi => h2 i (by omega)⟩
theorem Own.nil (base : Nat) (w : World) : Own base w none 0 [] :=
 ⟨⟨⟨Lim.nil, by simp, by simp [maxLen], fun h => absurd rfl h⟩, .inl ⟨rfl, rfl⟩⟩, fun _ _ _ h => absurd rfl h⟩

theorem Own.empty (base : Nat) (w : World) (b off : Nat) : Own base w (some ⟨b, off, none⟩) 0 [] :=
 ⟨⟨⟨Lim.nil, by simp, by simp [maxLen], fun h => absurd rfl h⟩, .inr ⟨b, off, rfl⟩⟩, fun _ _ _ h => absurd rfl h⟩

theorem Own.cut {base : Nat} {w : World} {a a' : Option Addr} {c : Nat} {xs : List Int} (h : Own base w a c xs) {j : Nat} (hj : j ≤ xs.length) (ha : (j = 0 ∧ a' = none) ∨ a' = a) : Own base w a' j (xs.take j) := by
 rcases ha with ⟨rfl, rfl⟩ | rfl
 ·exact Own.nil _ _
 ·exact h.take hj (Nat.le_refl _) (Nat.le_trans hj h.fits)

theorem cut_facts {xs : List Int} {j : Nat} (hj : j ≤ xs.length) (hz : ∀ i, j ≤ i → xs[i]?.getD 0 = 0) (hn : j = 0 ∨ xs[j - 1]?.getD 0 ≠ 0) : Nrm (xs.take j) ∧ val (xs.take j) = val xs ∧ (xs.take j).length = j := by
 refine ⟨?_, val_take_zeros xs j hz, by simp; omega⟩
 by_cases h0 : j = 0
 ·subst h0; simp [Nrm]
 ·exact Nrm_take (by omega) hj (by rcases hn with h | h; exact absurd h h0; exact h)

theorem zeros_step {xs : List Int} {j : Nat} (hz : ∀ i, j ≤ i → xs[i]?.getD 0 = 0) (h : xs[j - 1]?.getD 0 = 0) : ∀ i, j - 1 ≤ i → xs[i]?.getD 0 = 0 := by
 intro i hi
 by_cases e : i = j - 1
 ·rw [e]; exact h
 ·exact hz i (by omega)

/-! ### 'append' to an empty row -/
theorem ownsRow_empty2 (w : World) (o : Obj) (e : TypeId) : ((w.alloc o).alloc (.cells #[] e)).ownsRow (w.heap.size + 1) e 1 (.slice (some ⟨w.heap.size + 1, 0, none⟩) 0 0) 0 [] := by
 refine ⟨by simp, .inr ⟨_, 0, #[], rfl, Nat.le_refl _, ?_, Nat.le_refl _, by simp [maxLen], by simp, by simp⟩⟩
 have := heap_alloc_new (w.alloc o) (.cells #[] e)
 rw [World.size_alloc] at this
 exact this
theorem ownsRow_empty1 (w : World) (e : TypeId) : (w.alloc (.cells #[] e)).ownsRow w.heap.size e 1 (.slice (some ⟨w.heap.size, 0, none⟩) 0 0) 0 [] :=
 ⟨by simp, .inr ⟨_, 0, #[], rfl, Nat.le_refl _, heap_alloc_new w (.cells #[] e), Nat.le_refl _, by simp [maxLen], by simp, by simp⟩⟩
theorem Came.news {w : World} {b off c j : Nat} {xs : List Int} (h : Came w (some ⟨b, off, none⟩) c xs) (hj : j ≤ xs.length) :
  ∀ q u, ((xs.take j).map (Value.int .u32))[q]? = some u → w.cell? ((⟨b, off, none⟩ : Addr).add q) = some u := by
 intro q u hu
 rw [List.getElem?_map, List.getElem?_take] at hu
 split at hu
 ·next hq =>
  have hne : xs ≠ [] := by intro e; simp [e] at hj; omega
  obtain ⟨b', off', ha, hc⟩ := h.cells hne
  simp only [Option.some.injEq, Addr.mk.injEq] at ha
  obtain ⟨rfl, rfl, _⟩ := ha
  rw [Addr.add_lit, hc q (by omega), List.getElem?_eq_getElem (by omega)]
  rw [List.getElem?_eq_getElem (by omega)] at hu
  exact hu
 ·simp at hu
theorem Own.of_append {w : World} {base e n : Nat} {v : Value} {xs : List Int} (h : w.ownsRow base e 1 v n (xs.map (Value.int .u32))) (hl : Lim xs) (hn : 0 < n) :
  ∃ g cap, v = .slice (some ⟨g, 0, none⟩) xs.length cap ∧ Own base w (some ⟨g, 0, none⟩) cap xs := by
 have h' := h
 obtain ⟨h1, h2⟩ := h
 rcases h2 with ⟨_, h2⟩ | ⟨g, cap, cur, rfl, _⟩
 ·omega
 ·obtain ⟨ho, e⟩ := Own.of_row h' hl
  exact ⟨g, cap, by rw [e], ho⟩

theorem ones (ys : List Int) : ∀ u ∈ ys.map (Value.int .u32), u.oneCell' = true := by
 intro u hu; obtain ⟨y, _, rfl⟩ := List.mem_map.1 hu; rfl
theorem grown_at {w w' : World} {row : Option Nat} (hg : w.grownBy w' row) {b : Nat} (hb : b < w.heap.size) (hr : some b ≠ row) :
  (∀ o, w'.cell? ⟨b, o, none⟩ = w.cell? ⟨b, o, none⟩) ∧ (∀ o, w'.frozen? ⟨b, o, none⟩ = w.frozen? ⟨b, o, none⟩) :=
 ⟨fun o => World.cell?_of_block (a := ⟨b, o, none⟩) (hg.block b hb hr), fun o => World.frozen?_of_block (a := ⟨b, o, none⟩) (hg.block b hb hr)⟩

theorem Own.lit2 (w : World) (e : TypeId) (x y : Int) (hx : 0 ≤ x ∧ x < 4294967296) (hy : 0 ≤ y ∧ y < 4294967296) :
  Own w.heap.size (w.alloc (.cells #[.int .u32 x, .int .u32 y] e)) (some ⟨w.heap.size, 0, none⟩) 2 [x, y] := by
 have hh := heap_alloc_new w (.cells #[.int .u32 x, .int .u32 y] e)
 refine (Own.of_row (n := 2) ⟨rfl, .inr ⟨w.heap.size, 2, #[.int .u32 x, .int .u32 y], rfl, Nat.le_refl _, hh, Nat.le_refl _, by simp [maxLen], rfl, rfl⟩⟩ (Lim.mk hx (Lim.mk hy Lim.nil))).1

/-! ### Numbers -/
def sg (neg : Bool) (v : Int) : Int := if neg then -v else v
def mg (z : Int) : Int := if z < 0 then -z else z

def IsNum (base : Nat) (w : World) (v : Value) (z : Int) : Prop :=
 ∃ a c ys, v = .agg #[.bool (decide (z < 0)), .slice a ys.length c] ∧ Own base w a c ys ∧ Nrm ys ∧ val ys = mg z

theorem sg_flag {neg : Bool} {ys : List Int} (hl : Lim ys) (hn : Nrm ys) : decide (sg neg (val ys) < 0) = (neg && decide (0 < ys.length)) := by
 have h0 := val_nonneg hl
 by_cases e : ys = []
 ·subst e; cases neg <;> simp [sg, val]
 ·have := val_pos hl hn e
  have hp : 0 < ys.length := List.length_pos_iff.2 e
  cases neg
  ·simp only [sg]; simp; omega
  ·simp only [sg]; simp; omega
theorem mg_sg {neg : Bool} {v : Int} (h : 0 ≤ v) : mg (sg neg v) = v := by
 unfold mg sg
 cases neg
 ·simp; omega
 ·simp only [if_true]; split <;> omega

theorem IsNum.mk {base : Nat} {w : World} {neg : Bool} {a : Option Addr} {c : Nat} {ys : List Int} (ho : Own base w a c ys) (hn : Nrm ys) :
  IsNum base w (.agg #[.bool (neg && decide (0 < ys.length)), .slice a ys.length c]) (sg neg (val ys)) :=
 ⟨a, c, ys, by rw [sg_flag ho.lim hn], ho, hn, (mg_sg (val_nonneg ho.lim)).symm⟩

theorem IsNum.zero (base : Nat) (w : World) (b off : Nat) (neg : Bool) {v : Int} (hv : v = 0) : IsNum base w (.agg #[.bool false, .slice (some ⟨b, off, none⟩) 0 0]) (sg neg v) := by
 subst hv
 have : sg neg 0 = 0 := by cases neg <;> rfl
 rw [this]
 exact ⟨_, 0, [], rfl, Own.empty _ _ _ _, trivial, rfl⟩

theorem IsNum.base_le {base base' : Nat} {w : World} {v : Value} {z : Int} (h : IsNum base w v z) (hb : base' ≤ base) : IsNum base' w v z := by
 obtain ⟨a, c, ys, hv, ho, hn, he⟩ := h
 exact ⟨a, c, ys, hv, ho.base_le hb, hn, he⟩
theorem IsNum.shape {base : Nat} {w : World} {v : Value} {z : Int} (h : IsNum base w v z) : ∃ g a n c, v = .agg #[.bool g, .slice a n c] := by
 obtain ⟨a, c, ys, hv, _⟩ := h
 exact ⟨_, a, ys.length, c, hv⟩
theorem IsNum.setCell {base : Nat} {w : World} {v : Value} {z : Int} (h : IsNum base w v z) {p : Addr} (hp : p.block < base) (u : Value) : IsNum base (w.setCell p u) v z := by
 obtain ⟨a, c, ys, hv, ho, hn, he⟩ := h
 exact ⟨a, c, ys, hv, ho.setCell hp u, hn, he⟩
theorem IsNum.put {base b : Nat} {w : World} {v u0 u1 : Value} {z : Int} (h : IsNum base w v z) (hp : b < base) : IsNum b ((w.setCell ⟨b, 0, none⟩ u0).setCell ⟨b, 1, none⟩ u1) v z :=
 ((h.setCell (p := ⟨b, 0, none⟩) hp u0).setCell (p := ⟨b, 1, none⟩) hp u1).base_le (Nat.le_of_lt hp)
theorem below_put {b : Nat} {w w' : World} (h : Below b w w') (u0 u1 : Value) : Below b w ((w'.setCell ⟨b, 0, none⟩ u0).setCell ⟨b, 1, none⟩ u1) :=
 (h.setCell (p := ⟨b, 0, none⟩) (Nat.le_refl _) u0).setCell (p := ⟨b, 1, none⟩) (Nat.le_refl _) u1
theorem IsNum.eq {w : World} {base : Nat} {v : Value} {z z' : Int} (h : IsNum base w v z) (e : z = z') : IsNum base w v z' := e ▸ h

/-! ### How many limbs -/
theorem val_ge : ∀ {xs : List Int}, Lim xs → Nrm xs → xs ≠ [] → 4294967296 ^ (xs.length - 1) ≤ val xs
 | [], _, _, h => absurd rfl h
 | [x], h, hn, _ => by
  obtain ⟨hx, _⟩ := h.cons
  simp only [Nrm] at hn
  simp only [val, List.length_singleton, Nat.sub_self, Int.pow_zero]; omega
 | x :: y :: r, h, hn, _ => by
  obtain ⟨hx, hr⟩ := h.cons
  have := val_ge hr hn (by simp)
  simp only [val, List.length_cons, Nat.add_sub_cancel] at this ⊢
  rw [Int.pow_succ]
  omega
theorem p_pos (k : Nat) : (0 : Int) < 4294967296 ^ k := by
 induction k with
 | zero => simp
 | succ k ih => rw [Int.pow_succ]; omega
theorem p_mono (k d : Nat) : (4294967296 : Int) ^ k ≤ 4294967296 ^ (k + d) := by
 induction d with
 | zero => simp
 | succ d ih =>
  have := p_pos (k + d)
  rw [← Nat.add_assoc, Int.pow_succ]
  omega
theorem len_le {xs : List Int} (hl : Lim xs) (hn : Nrm xs) {k : Nat} (h : val xs < 4294967296 ^ k) : xs.length ≤ k := by
 rcases Nat.lt_or_ge k xs.length with hk | hk
 ·exfalso
  have hne : xs ≠ [] := by intro e; simp [e] at hk
  have h1 := val_ge hl hn hne
  have h2 : (4294967296 : Int) ^ k ≤ 4294967296 ^ (xs.length - 1) := by
   have := p_mono k (xs.length - 1 - k)
   rw [show k + (xs.length - 1 - k) = xs.length - 1 by omega] at this
   exact this
  omega
 ·exact hk

/-! ### Two that are the same number -/
/-! ### Rows apart -/
theorem row_ne_low {base p : Nat} {w : World} {a : Option Addr} {c : Nat} {xs : List Int} (k : Own base w a c xs) (hp : p < base) : some p ≠ rowOf a xs := by
 intro e
 unfold rowOf at e
 split at e
 ·cases e
 ·next hn =>
  obtain ⟨b2, off2, ha2, _⟩ := k.cells hn
  have := (k.new b2 off2 ha2 hn).1
  rw [ha2] at e
  simp at e
  omega
theorem row_ne_high {p : Nat} {w : World} {a : Option Addr} {c : Nat} {xs : List Int} (k : Came w a c xs) (hp : w.heap.size ≤ p) : some p ≠ rowOf a xs := by
 intro e
 unfold rowOf at e
 split at e
 ·cases e
 ·next hn =>
  obtain ⟨b2, off2, ha2, _⟩ := k.cells hn
  have := k.lt ha2 hn
  rw [ha2] at e
  simp at e
  omega

theorem IsNum.put' {base b b0 : Nat} {w : World} {v u0 u1 : Value} {z : Int} (h : IsNum base w v z) (hp : b < base) (h0 : b0 ≤ b) : IsNum b0 ((w.setCell ⟨b, 0, none⟩ u0).setCell ⟨b, 1, none⟩ u1) v z :=
 (h.put hp).base_le h0
theorem below_put' {b b0 : Nat} {w w' : World} (h : Below b0 w w') (h0 : b0 ≤ b) (u0 u1 : Value) : Below b0 w ((w'.setCell ⟨b, 0, none⟩ u0).setCell ⟨b, 1, none⟩ u1) :=
 (h.setCell (p := ⟨b, 0, none⟩) h0 u0).setCell (p := ⟨b, 1, none⟩) h0 u1

theorem cell_put {w : World} {b b' o : Nat} {u0 u1 : Value} (h : b' ≠ b) : ((w.setCell ⟨b, 0, none⟩ u0).setCell ⟨b, 1, none⟩ u1).cell? ⟨b', o, none⟩ = w.cell? ⟨b', o, none⟩ := by
 rw [World.cell?_setCell_other _ _ _ _ (by intro e; simp only [Addr.mk.injEq] at e; exact h e.1.symm), World.cell?_setCell_other _ _ _ _ (by intro e; simp only [Addr.mk.injEq] at e; exact h e.1.symm)]
theorem sg_not (g : Bool) (v : Int) : sg (!g) v = - sg g v := by cases g <;> simp [sg]
open Go.RowKit

theorem val_snoc (ws : List Int) (x : Int) : val (ws ++ [x]) = val ws + 4294967296 ^ ws.length * x := by
 rw [val_append]; simp [val]
theorem val_take_succ (xs : List Int) (j : Nat) : val (xs.take (j + 1)) = val (xs.take j) + 4294967296 ^ j * (xs[j]?.getD 0) := by
 by_cases h : j < xs.length
 ·rw [List.take_succ_eq_append_getElem h, val_snoc, List.getElem?_eq_getElem h]
  have : (xs.take j).length = j := by simp; omega
  rw [this]; rfl
 ·rw [List.take_of_length_le (by omega), List.take_of_length_le (by omega), List.getElem?_eq_none (by omega)]
  simp
theorem digit_step (P t : Int) : P * (t % 4294967296) + P * 4294967296 * (t / 4294967296) = P * t := by
 rw [Int.mul_assoc, ← Int.mul_add, Int.add_comm, Int.mul_ediv_add_emod]
theorem Lim.snoc {ws : List Int} (h : Lim ws) {x : Int} (hx : 0 ≤ x ∧ x < 4294967296) : Lim (ws ++ [x]) := h.append (Lim.mk hx Lim.nil)
theorem row_step {ws us : List Int} {j : Nat} (hw : ws.length = j) (hj : j < us.length) (x : Int) : (ws ++ us.drop j).set j x = (ws ++ [x]) ++ us.drop (j + 1) := by
 rw [List.set_append, if_neg (by omega), hw, Nat.sub_self, List.append_assoc, List.drop_eq_getElem_cons hj, List.set_cons_zero]
 rfl
theorem row_length {ws us : List Int} {j : Nat} (hw : ws.length = j) (hj : j ≤ us.length) : (ws ++ us.drop j).length = us.length := by simp; omega
theorem row_get {ws us : List Int} {j : Nat} (hw : ws.length = j) (_hj : j < us.length) : (ws ++ us.drop j)[j]?.getD 0 = us[j]?.getD 0 := by
 rw [List.getElem?_append_right (by omega), hw, Nat.sub_self, List.getElem?_drop, Nat.add_zero]

theorem add_round {ws us ys : List Int} {j : Nat} {cr : Int} (hw : ws.length = j) (h : val ws + 4294967296 ^ j * cr = val (us.take j) + val (ys.take j)) :
  val (ws ++ [(cr + us[j]?.getD 0 + ys[j]?.getD 0) % 4294967296]) + 4294967296 ^ (j + 1) * ((cr + us[j]?.getD 0 + ys[j]?.getD 0) / 4294967296) = val (us.take (j + 1)) + val (ys.take (j + 1)) := by
 rw [val_snoc, hw, val_take_succ, val_take_succ, Int.pow_succ]
 have := digit_step (4294967296 ^ j) (cr + us[j]?.getD 0 + ys[j]?.getD 0)
 rw [Int.mul_add, Int.mul_add] at this
 omega

theorem sub_round {ws us ys : List Int} {j : Nat} {ow t x : Int} (hw : ws.length = j) (h : val ws - 4294967296 ^ j * ow = val (us.take j) - t * val (ys.take j))
  {q : Int} (hx : x - 4294967296 * q = us[j]?.getD 0 - (ow + t * (ys[j]?.getD 0))) :
  val (ws ++ [x]) - 4294967296 ^ (j + 1) * q = val (us.take (j + 1)) - t * val (ys.take (j + 1)) := by
 rw [val_snoc, hw, val_take_succ, val_take_succ, Int.pow_succ]
 have e1 : (4294967296 : Int) ^ j * (x - 4294967296 * q) = 4294967296 ^ j * (us[j]?.getD 0 - (ow + t * (ys[j]?.getD 0))) := by rw [hx]
 rw [Int.mul_sub, Int.mul_sub, Int.mul_add, ← Int.mul_assoc, ← Int.mul_assoc] at e1
 rw [Int.mul_add, ← Int.mul_assoc t, Int.mul_comm t (4294967296 ^ j)]
 omega

theorem Own.of_heap {w : World} {base g : Nat} {e : TypeId} {xs : List Int} (h : w.heap[g]? = some (.cells (xs.map (Value.int .u32)).toArray e (0, 0))) (hl : Lim xs) (hm : xs.length ≤ maxLen) (hb : base ≤ g) :
  Own base w (some ⟨g, 0, none⟩) xs.length xs :=
 (Own.of_row (n := xs.length) ⟨by simp, .inr ⟨g, xs.length, _, rfl, hb, h, Nat.le_refl _, hm, by simp, by simp [List.take_of_length_le]⟩⟩ hl).1
theorem heap_of_made {w : World} {base e g n : Nat} {z : Value} (h : w.ownsRow base e 1 (.slice (some ⟨g, 0, none⟩) n n) n (List.replicate n z)) : w.heap[g]? = some (.cells (List.replicate n z).toArray e (0, 0)) := by
 obtain ⟨_, h2⟩ := h
 rcases h2 with ⟨h2, _⟩ | ⟨g', cap', cur, hv, hb, hh, hc, hm, hs, ht⟩
 ·cases h2
 simp only [Value.slice.injEq, Option.some.injEq, Addr.mk.injEq, and_true] at hv
 obtain ⟨rfl, _, rfl⟩ := hv
 rw [hh]
 have : cur.toList = List.replicate n z := by
  rw [← ht, List.take_of_length_le]
  simpa using Nat.le_of_eq hs
 rw [← this]
theorem splice_front (xs : List Int) (n : Nat) (_h : xs.length ≤ n) : splice (List.replicate n (Value.int .u32 0)) 0 (xs.map (Value.int .u32)) = (xs ++ List.replicate (n - xs.length) 0).map (Value.int .u32) := by
 simp [splice, List.map_append, List.drop_replicate]
theorem val_zeros (n : Nat) : val (List.replicate n 0) = 0 := by
 induction n with
 | zero => rfl
 | succ n ih => simp [List.replicate_succ, val, ih]

/-! ### Comparing -/
def cmpZ (a b : Int) : Int := if a < b then -1 else if a = b then 0 else 1
theorem cmp_at {xs ys : List Int} {j : Nat} (hx : Lim xs) (hy : Lim ys) (hl : xs.length = ys.length) (hj : j < xs.length) (he : xs.drop (j + 1) = ys.drop (j + 1)) (hlt : xs[j]?.getD 0 < ys[j]?.getD 0) : val xs < val ys := by
 have e1 : val xs = val (xs.take (j + 1)) + 4294967296 ^ (j + 1) * val (xs.drop (j + 1)) := by
  have := val_append (xs.take (j + 1)) (xs.drop (j + 1))
  rw [List.take_append_drop] at this
  rw [this, List.length_take, Nat.min_eq_left (by omega)]
 have e2 : val ys = val (ys.take (j + 1)) + 4294967296 ^ (j + 1) * val (xs.drop (j + 1)) := by
  have := val_append (ys.take (j + 1)) (ys.drop (j + 1))
  rw [List.take_append_drop] at this
  rw [this, List.length_take, Nat.min_eq_left (by omega), he]
 rw [val_take_succ] at e1 e2
 have b1 := val_lt (hx.take j)
 have b2 := val_nonneg (hy.take j)
 rw [List.length_take, Nat.min_eq_left (by omega)] at b1
 have hp := p_pos j
 have hm : (4294967296 : Int) ^ j * (xs[j]?.getD 0 + 1) ≤ 4294967296 ^ j * (ys[j]?.getD 0) := Int.mul_le_mul_of_nonneg_left (by omega) (Int.le_of_lt hp)
 rw [Int.mul_add, Int.mul_one] at hm
 omega
theorem cmp_len {xs ys : List Int} (hx : Lim xs) (hy : Lim ys) (ny : Nrm ys) (hl : xs.length < ys.length) : val xs < val ys := by
 have hne : ys ≠ [] := by intro e; simp [e] at hl
 have h1 := val_lt hx
 have h2 := val_ge hy ny hne
 have h3 := p_mono xs.length (ys.length - 1 - xs.length)
 rw [show xs.length + (ys.length - 1 - xs.length) = ys.length - 1 by omega] at h3
 omega
theorem drop_step {xs ys : List Int} {j : Nat} (hl : xs.length = ys.length) (he : xs.drop (j + 1) = ys.drop (j + 1)) (h : xs[j]?.getD 0 = ys[j]?.getD 0) : xs.drop j = ys.drop j := by
 by_cases hj : j < xs.length
 ·have hj' : j < ys.length := by omega
  rw [List.drop_eq_getElem_cons hj, List.drop_eq_getElem_cons hj', he]
  rw [List.getElem?_eq_getElem hj, List.getElem?_eq_getElem hj'] at h
  simp only [Option.getD_some] at h
  rw [h]
 ·rw [List.drop_eq_nil_of_le (by omega), List.drop_eq_nil_of_le (by omega)]

open Go.RowKit

set_option maxHeartbeats 400000 in
theorem eqU (a b : Option Addr) (c d : Nat) (xs : List Int) (w : World) (h : Sees w a c xs) (k : Sees w b d xs) :
  Calls Tryz.prog 55 #[.slice a xs.length c, .slice b xs.length d] w fun e w' => e = .returned (.bool true) ∧ ∃ n, w' = w.drewN n := by
 have hm := h.max
 have hf := h.fits
 unfold maxLen at hm
 have hne : ((xs.length : Int) != (xs.length : Int)) = false := by simp
 go_enter Tryz.func55, Tryz.ntmps55
 go_wp2
 go_loopw [5] (fun i wr => ∃ j n : Nat, j ≤ xs.length ∧ i = .int .i64 j ∧ wr = w.drewN n) (fun i _ => xs.length - (intOf i).toNat)
 case atStart => exact ⟨0, 0, Nat.zero_le _, rfl, rfl⟩
 case round =>
  obtain ⟨j, n, hj, rfl, rfl⟩ := hrel
  by_cases hlt : j < xs.length
  ·obtain ⟨b1, o1, rfl, hc1⟩ := h.cells (by intro e; simp [e] at hlt)
   obtain ⟨b2, o2, rfl, hc2⟩ := k.cells (by intro e; simp [e] at hlt)
   have g1 := hc1 j hlt
   have g2 := hc2 j hlt
   clear hc1 hc2 h k
   go_wp2
   go_quiet (fail)
   go_wp2
   go_roundw
   case rel => exact ⟨j + 1, _, by omega, by go_num, rfl⟩
   case measure => simp [intOf]; omega
  ·go_wp2
   go_ret
   exact ⟨rfl, n, rfl⟩
set_option maxHeartbeats 400000 in
theorem markU (base : Nat) (a : Option Addr) (c : Nat) (xs : List Int) (k : Int) (w : World) (h : Own base w a c xs) (hk : 0 ≤ k) (hs : k + xs.length < 4294967296) :
  Calls Tryz.prog 58 #[.slice a xs.length c, .int .i64 k] w fun e w' => e = .returned (.int .i64 (k + xs.length)) ∧ Own base w' a c (marks k xs.length) ∧ w.grownBy w' (rowOf a xs) := by
 have hm := h.max
 have hf := h.fits
 unfold maxLen at hm
 go_enter Tryz.func58, Tryz.ntmps58
 go_wp2
 go_loopw [1, 5] (fun q i wr => ∃ j : Nat, j ≤ xs.length ∧ i = .int .i64 j ∧ q = .int .i64 (k + j) ∧ Own base wr a c (marks k j ++ xs.drop j) ∧ w.grownBy wr (rowOf a xs)) (fun _ i _ => xs.length - (intOf i).toNat)
 case atStart => exact ⟨0, Nat.zero_le _, rfl, by simp, by simpa [marks] using h, grownBy_refl _ _⟩
 case round =>
  obtain ⟨j, hj, rfl, rfl, hown, hg⟩ := hrel
  by_cases hlt : j < xs.length
  ·have hne : xs ≠ [] := by intro e; simp [e] at hlt
   obtain ⟨b1, o1, rfl, _⟩ := h.cells hne
   have hlen : (marks k j ++ xs.drop j).length = xs.length := by simp [marks_length]; omega
   have hst := hown.store (j := j) rfl (by omega) (v := k + j) ⟨by omega, by omega⟩
   have hne2 : marks k j ++ xs.drop j ≠ [] := by intro e; rw [e] at hlen; simp at hlen; omega
   obtain ⟨b2, o2, e2, hc⟩ := hown.cells hne2
   simp only [Option.some.injEq, Addr.mk.injEq] at e2
   obtain ⟨rfl, rfl, _⟩ := e2
   have g1 := hc j (by omega)
   have g2 := (hown.new b1 o1 rfl hne2).2 j (by omega)
   rw [marks_step k xs j hlt] at hst
   have HS := hst
   have hg' := grownBy_setCell hg (p := ⟨b1, o1 + j, none⟩) (by simp [rowOf, hne]) (.int .u32 (k + j))
   clear hc hown hne2 hlen h hst
   go_wp2
   go_roundw
   case rel => exact ⟨j + 1, by omega, by go_num, by go_num, HS, hg'⟩
   case measure => simp [intOf]; omega
  ·have : j = xs.length := by omega
   subst this
   go_wp2
   go_ret
   exact ⟨rfl, by simpa using hown, hg⟩

set_option maxHeartbeats 400000 in
theorem heldU (a : Option Addr) (c : Nat) (n : Nat) (k : Int) (w : World) (h : Sees w a c (marks k n)) (hk : 0 ≤ k) (hs : k + n < 4294967296) :
  Calls Tryz.prog 59 #[.slice a n c, .int .i64 k] w fun e w' => e = .returned (.int .i64 (k + n)) ∧ ∃ m, w' = w.drewN m := by
 have hm := h.max
 have hf := h.fits
 rw [marks_length] at hf
 unfold maxLen at hm
 go_enter Tryz.func59, Tryz.ntmps59
 go_wp2
 go_loopw [1, 5] (fun q i wr => ∃ j m : Nat, j ≤ n ∧ i = .int .i64 j ∧ q = .int .i64 (k + j) ∧ wr = w.drewN m) (fun _ i _ => n - (intOf i).toNat)
 case atStart => exact ⟨0, 0, Nat.zero_le _, rfl, by simp, rfl⟩
 case round =>
  obtain ⟨j, m, hj, rfl, rfl, rfl⟩ := hrel
  by_cases hlt : j < n
  ·have hne : marks k n ≠ [] := by intro e; have := marks_length k n; rw [e] at this; simp at this; omega
   obtain ⟨b1, o1, rfl, hc⟩ := h.cells hne
   have g1 := hc j (by rw [marks_length]; exact hlt)
   rw [marks_get k n j hlt] at g1
   clear hc hne h
   go_wp2
   go_roundw
   case rel => exact ⟨j + 1, m, by omega, by go_num, by go_num, rfl⟩
   case measure => simp [intOf]; omega
  ·have : j = n := by omega
   subst this
   go_wp2
   go_ret
   exact ⟨rfl, m, rfl⟩
open Go.RowKit

set_option maxHeartbeats 1000000 in
theorem cmpMagC (a b : Option Addr) (c d : Nat) (xs ys : List Int) (w : World) (h : Sees w a c xs) (k : Sees w b d ys) (nx : Nrm xs) (ny : Nrm ys) :
  Calls Tryz.prog 123 #[.slice a xs.length c, .slice b ys.length d] w fun e w' => e = .returned (.int .i64 (cmpZ (val xs) (val ys))) ∧ ∃ n, w' = w.drewN n := by
 have hm := h.max
 have hf := h.fits
 have hm2 := k.max
 have hf2 := k.fits
 unfold maxLen at hm hm2
 by_cases hl : xs.length = ys.length
 ·have HL : Hid (xs.length = ys.length) := hl
  have HX : Hid (Lim xs ∧ Nrm xs) := ⟨h.lim, nx⟩
  have HY : Hid (Lim ys ∧ Nrm ys) := ⟨k.lim, ny⟩
  rw [← hl]
  rw [← hl] at hf2
  clear hl nx ny
  go_enter Tryz.func123, Tryz.ntmps123
  go_wp2
  go_loopw [5] (fun i wr => ∃ (j n : Nat), j ≤ xs.length ∧ i = .int .i64 ((j : Int) - 1) ∧ wr = w.drewN n ∧ Hid (xs.drop j = ys.drop j)) (fun i _ => (intOf i + 1).toNat)
  case atStart => exact ⟨xs.length, 0, Nat.le_refl _, rfl, rfl, by show _ = _; rw [List.drop_eq_nil_of_le (Nat.le_refl _), List.drop_eq_nil_of_le (by rw [HL.out]; exact Nat.le_refl _)]⟩
  case round =>
   obtain ⟨j, n, hj, rfl, rfl, he⟩ := hrel
   by_cases h0 : j = 0
   ·subst h0
    have E : Hid (cmpZ (val xs) (val ys) = 0) := by
     have := he.out
     simp only [List.drop_zero] at this
     show _ = _
     rw [this]; simp [cmpZ]
    clear he
    go_wp2
    go_ret
    exact ⟨by rw [E.out]; rfl, n, rfl⟩
   ·have hne : xs ≠ [] := by intro e; simp [e] at hj; omega
    have hne' : ys ≠ [] := by intro e; have := HL.out; rw [e] at this; simp at this; exact hne this
    obtain ⟨b1, o1, rfl, hc1⟩ := h.cells hne
    obtain ⟨b2, o2, rfl, hc2⟩ := k.cells hne'
    have g1 := hc1 (j - 1) (by omega)
    have g2 := hc2 (j - 1) (by have := HL.out; omega)
    have hp : 0 < j := by omega
    have hsub : j - 1 + 1 = j := by omega
    rcases Int.lt_trichotomy (xs[j - 1]?.getD 0) (ys[j - 1]?.getD 0) with hlt | heq | hgt
    ·have E : Hid (cmpZ (val xs) (val ys) = -1) := by
      have := cmp_at (j := j - 1) HX.out.1 HY.out.1 HL.out (by omega) (by rw [hsub]; exact he.out) hlt
      show _ = _
      unfold cmpZ; rw [if_pos this]
     have hne3 : (xs[j - 1]?.getD 0 != ys[j - 1]?.getD 0) = true := by simp; omega
     clear hc1 hc2 h k he hsub
     generalize xs[j - 1]?.getD 0 = x at *
     generalize ys[j - 1]?.getD 0 = y at *
     go_wp2
     go_quiet (fail)
     go_wp2
     go_quiet (fail)
     go_wp2
     go_ret
     exact ⟨by rw [E.out]; rfl, _, by rw [World.drewN_drewN, World.drewN_drewN]⟩
    ·have E : Hid (xs.drop (j - 1) = ys.drop (j - 1)) := drop_step HL.out (by rw [hsub]; exact he.out) heq
     rw [heq] at g1
     clear hc1 hc2 h k he hsub heq
     generalize ys[j - 1]?.getD 0 = y at *
     go_wp2
     go_quiet (fail)
     go_wp2
     go_roundw
     case rel => exact ⟨j - 1, _, by omega, by go_num, rfl, E⟩
     case measure => simp [intOf]; omega
    ·have E : Hid (cmpZ (val xs) (val ys) = 1) := by
      have := cmp_at (j := j - 1) HY.out.1 HX.out.1 HL.out.symm (by have := HL.out; omega) (by rw [hsub]; exact he.out.symm) hgt
      show _ = _
      unfold cmpZ; rw [if_neg (by omega), if_neg (by omega)]
     have hne3 : (xs[j - 1]?.getD 0 != ys[j - 1]?.getD 0) = true := by simp; omega
     have hge : ¬ xs[j - 1]?.getD 0 < ys[j - 1]?.getD 0 := by omega
     have hdd : decide (xs[j - 1]?.getD 0 < ys[j - 1]?.getD 0) = false := by simp; omega
     clear hc1 hc2 h k he hsub
     generalize xs[j - 1]?.getD 0 = x at *
     generalize ys[j - 1]?.getD 0 = y at *
     go_wp2
     go_quiet (fail)
     go_wp2
     go_quiet (fail)
     go_wp2
     go_ret
     exact ⟨by rw [E.out]; rfl, _, by rw [World.drewN_drewN, World.drewN_drewN]⟩
 ·have hne : ((xs.length : Int) != (ys.length : Int)) = true := by simp; omega
  by_cases hlt : xs.length < ys.length
  ·have E : Hid (cmpZ (val xs) (val ys) = -1) := by
    have := cmp_len h.lim k.lim ny hlt
    show _ = _
    unfold cmpZ; rw [if_pos this]
   clear h k nx ny hl
   go_enter Tryz.func123, Tryz.ntmps123
   go_wp2
   go_ret
   exact ⟨by rw [E.out]; rfl, 0, rfl⟩
  ·have E : Hid (cmpZ (val xs) (val ys) = 1) := by
    have := cmp_len k.lim h.lim nx (by omega)
    show _ = _
    unfold cmpZ; rw [if_neg (by omega), if_neg (by omega)]
   clear h k nx ny hl
   go_enter Tryz.func123, Tryz.ntmps123
   go_wp2
   go_ret
   exact ⟨by rw [E.out]; rfl, 0, rfl⟩
open Go.RowKit

theorem infoU : (Tryz.prog.info? 100).map (fun i => (i.zero, i.size, i.bytes)) = some (some (.int .u32 0), 1, 4) := by kernel_rfl

theorem eqN (g : Bool) (a b : Option Addr) (c d : Nat) (xs : List Int) (w : World) (h : Sees w a c xs) (k : Sees w b d xs) :
  Calls Tryz.prog 29 #[.agg #[.bool g, .slice a xs.length c], .agg #[.bool g, .slice b xs.length d]] w fun e w' => e = .returned (.bool true) ∧ Below w.heap.size w w' := by
 go_enter Tryz.func29, Tryz.ntmps29
 go_wp2_with (go_at_call 55; refine (eqU a b c d xs _ (h.below ?h1) (k.below ?h2)).mono ?_)
 case h1 => exact ((Below.refl _ _).alloc (Nat.le_refl _) _).alloc (by simp) _
 case h2 => exact ((Below.refl _ _).alloc (Nat.le_refl _) _).alloc (by simp) _
 rintro e w' ⟨rfl, n, rfl⟩
 go_wp2
 go_ret
 exact ⟨rfl, below_drewN (((Below.refl _ _).alloc (Nat.le_refl _) _).alloc (by simp) _) n⟩
theorem markN (base : Nat) (g : Bool) (a : Option Addr) (c : Nat) (xs : List Int) (k : Int) (w : World) (h : Own base w a c xs) (hk : 0 ≤ k) (hs : k + xs.length < 4294967296) :
  Calls Tryz.prog 32 #[.agg #[.bool g, .slice a xs.length c], .int .i64 k] w fun e w' => e = .returned (.int .i64 (k + xs.length)) ∧ Own base w' a c (marks k xs.length) ∧ w.grownBy w' (rowOf a xs) := by
 go_enter Tryz.func32, Tryz.ntmps32
 go_wp2_with (go_at_call 58; refine (markU base a c xs k _ (h.below ?h1) hk hs).mono ?_)
 case h1 => exact (Below.refl _ _).alloc (Nat.le_refl _) _
 rintro e w' ⟨rfl, ho, hg⟩
 go_wp2
 go_ret
 exact ⟨rfl, ho, grownBy_trans (World.grownBy_alloc _ _ _) hg⟩

theorem heldN (g : Bool) (a : Option Addr) (c : Nat) (n : Nat) (k : Int) (w : World) (h : Sees w a c (marks k n)) (hk : 0 ≤ k) (hs : k + n < 4294967296) :
  Calls Tryz.prog 33 #[.agg #[.bool g, .slice a n c], .int .i64 k] w fun e w' => e = .returned (.int .i64 (k + n)) ∧ Below w.heap.size w w' := by
 have h0 : 0 ≤ k + n := by omega
 go_enter Tryz.func33, Tryz.ntmps33
 go_wp2_with (go_at_call 59; refine (heldU a c n k _ (h.below ?h1) hk hs).mono ?_)
 case h1 => exact (Below.refl _ _).alloc (Nat.le_refl _) _
 rintro e w' ⟨rfl, m, rfl⟩
 go_wp2
 go_ret
 exact ⟨rfl, below_drewN ((Below.refl _ _).alloc (Nat.le_refl _) _) m⟩
open Go.RowKit

def okB (g : Bool) (xs : List Int) : Bool := if xs.length = 0 then !g else decide (xs.length ≤ 24) && (xs[xs.length - 1]?.getD 0 != 0)

theorem Sees.last {w : World} {a : Option Addr} {c : Nat} {xs : List Int} (h : Sees w a c xs) (hn : ¬ xs.length = 0) :
  ∃ b off, a = some ⟨b, off, none⟩ ∧ b < w.heap.size ∧ w.cell? ⟨b, off + (xs.length - 1), none⟩ = some (.int .u32 (xs[xs.length - 1]?.getD 0)) := by
 have hne : xs ≠ [] := by intro e; simp [e] at hn
 obtain ⟨b, off, ha, hc⟩ := h.cells hne
 exact ⟨b, off, ha, h.lt ha hne, hc _ (by omega)⟩

theorem implOk (g : Bool) (a : Option Addr) (c : Nat) (xs : List Int) (w : World) (h : Sees w a c xs) :
  Calls Tryz.prog 121 #[.agg #[.bool g, .slice a xs.length c]] w fun e w' => e = .returned (.bool (okB g xs)) ∧ Below w.heap.size w w' := by
 have hm := h.max
 have hf := h.fits
 unfold maxLen at hm
 unfold okB
 by_cases hn : xs.length = 0
 ·rw [if_pos hn, hn]
  clear h hf hn
  go_enter Tryz.func121, Tryz.ntmps121
  go_wp2
  go_ret
  exact ⟨rfl, (Below.refl _ _).alloc (Nat.le_refl _) _⟩
 ·rw [if_neg hn]
  obtain ⟨b, off, rfl, hlt, hc⟩ := h.last hn
  generalize xs[xs.length - 1]?.getD 0 = x at hc ⊢
  generalize xs.length = n at *
  have hn0 : ((n : Int) == 0) = false := by simpa using hn
  clear h
  by_cases hl : n ≤ 24
  ·have hp : 0 < n := by omega
   rw [decide_eq_true hl, Bool.true_and]
   go_enter Tryz.func121, Tryz.ntmps121
   go_wp2
   go_ret
   exact ⟨rfl, (Below.refl _ _).alloc (Nat.le_refl _) _⟩
  ·rw [decide_eq_false hl, Bool.false_and]
   have hd : decide ((n : Int) ≤ 24) = false := by simp; omega
   go_enter Tryz.func121, Tryz.ntmps121
   go_wp2
   go_ret
   exact ⟨rfl, (Below.refl _ _).alloc (Nat.le_refl _) _⟩

theorem specOk (g : Bool) (a : Option Addr) (c : Nat) (xs : List Int) (w : World) (h : Sees w a c xs) :
  Calls Tryz.prog 127 #[.agg #[.bool g, .slice a xs.length c]] w fun e w' => e = .returned (.bool (okB g xs)) ∧ Below w.heap.size w w' := by
 have hm := h.max
 have hf := h.fits
 unfold maxLen at hm
 unfold okB
 by_cases hn : xs.length = 0
 ·rw [if_pos hn, hn]
  clear h hf hn
  cases g
  all_goals
   go_enter Tryz.func127, Tryz.ntmps127
   go_wp2
   go_ret
   exact ⟨rfl, (Below.refl _ _).alloc (Nat.le_refl _) _⟩
 ·rw [if_neg hn]
  obtain ⟨b, off, rfl, hlt, hc⟩ := h.last hn
  generalize xs[xs.length - 1]?.getD 0 = x at hc ⊢
  generalize xs.length = n at *
  have hn0 : ((n : Int) == 0) = false := by simpa using hn
  clear h
  by_cases hl : n ≤ 24
  ·have hp : 0 < n := by omega
   have hpi : (0 : Int) < n := by omega
   rw [decide_eq_true hl, Bool.true_and]
   go_enter Tryz.func127, Tryz.ntmps127
   go_wp2
   go_ret
   exact ⟨rfl, (Below.refl _ _).alloc (Nat.le_refl _) _⟩
  ·rw [decide_eq_false hl, Bool.false_and]
   have hd : decide ((n : Int) ≤ 24) = false := by simp; omega
   go_enter Tryz.func127, Tryz.ntmps127
   go_wp2
   go_ret
   exact ⟨rfl, (Below.refl _ _).alloc (Nat.le_refl _) _⟩
open Go.RowKit

def tkG (g : Bool) (xs : List Int) : Bool := okB g xs && g
def tkL (g : Bool) (xs : List Int) : List Int := if okB g xs = true then xs else []
def tk (g : Bool) (xs : List Int) : Int := sg (tkG g xs) (val (tkL g xs))

theorem tk_facts (g : Bool) (xs : List Int) (hl : Lim xs) : Lim (tkL g xs) ∧ Nrm (tkL g xs) ∧ (tkL g xs).length ≤ 24 ∧ (tkL g xs = [] → tkG g xs = false) := by
 unfold tkL tkG
 by_cases hk : okB g xs = true
 ·rw [if_pos hk, hk]
  unfold okB at hk
  by_cases h0 : xs.length = 0
  ·rw [if_pos h0] at hk
   obtain rfl : xs = [] := List.eq_nil_of_length_eq_zero h0
   exact ⟨Lim.nil, trivial, by simp, fun _ => by simpa using hk⟩
  ·rw [if_neg h0] at hk
   simp only [Bool.and_eq_true, decide_eq_true_eq, bne_iff_ne] at hk
   refine ⟨hl, ?_, hk.1, fun e => absurd (by simp [e]) h0⟩
   have := Nrm_take (xs := xs) (j := xs.length) (by omega) (Nat.le_refl _) hk.2
   rwa [List.take_length] at this
 ·rw [if_neg hk]
  have : okB g xs = false := by simpa using hk
  rw [this]
  exact ⟨Lim.nil, trivial, by simp, fun _ => rfl⟩

set_option maxHeartbeats 400000 in
theorem takenC (g : Bool) (a : Option Addr) (c : Nat) (xs : List Int) (w : World) (h : Sees w a c xs) :
  Calls Tryz.prog 144 #[.agg #[.bool g, .slice a xs.length c]] w fun e w' => ∃ a' c', e = .returned (.agg #[.bool (tkG g xs), .slice a' (tkL g xs).length c']) ∧ Sees w' a' c' (tkL g xs) ∧ Below w.heap.size w w' := by
 by_cases hk : okB g xs = true
 ·have e1 : tkG g xs = g := by unfold tkG; rw [hk]; simp
  have e2 : tkL g xs = xs := by unfold tkL; rw [if_pos hk]
  rw [e1, e2]
  clear e1 e2
  go_enter Tryz.func144, Tryz.ntmps144
  go_wp2_with fail
  refine (implOk g a c xs _ (h.below (below2 _ _ _))).mono ?_
  rintro e w1 ⟨rfl, hb⟩
  obtain ⟨q1, q2⟩ := at_block hb (b := w.heap.size) (by simp; omega)
  obtain ⟨q3, q4⟩ := at_block hb (b := w.heap.size + 1) (by simp)
  have hz : w.heap.size + 1 < w1.heap.size := by have := hb.size; simp at this; omega
  have hB := (below2 _ _ _).trans (hb.mono (by simp; omega))
  clear hb
  go_wp2
  have hF := (hB.setCell (p := ⟨w.heap.size + 1, 0, none⟩) (by dsimp only; omega) (.bool g)).setCell (p := ⟨w.heap.size + 1, 1, none⟩) (by dsimp only; omega) (.slice a xs.length c)
  exact bodyPost_ret (v := .agg #[.bool g, .slice a xs.length c]) (by simp [results, Tryz.results144, go_sem, q3]) rfl ⟨a, c, rfl, h.below hF, hF⟩
 ·have hk' : okB g xs = false := by simpa using hk
  have e1 : tkG g xs = false := by unfold tkG; rw [hk']; simp
  have e2 : tkL g xs = [] := by unfold tkL; rw [if_neg hk]
  rw [e1, e2]
  clear e1 e2 hk
  go_enter Tryz.func144, Tryz.ntmps144
  go_wp2_with fail
  refine (implOk g a c xs _ (h.below (below2 _ _ _))).mono ?_
  rintro e w1 ⟨rfl, hb⟩
  obtain ⟨q3, q4⟩ := at_block hb (b := w.heap.size + 1) (by simp)
  have hz : w.heap.size + 1 < w1.heap.size := by have := hb.size; simp at this; omega
  have hB := (below2 _ _ _).trans (hb.mono (by simp; omega))
  clear hb
  go_wp2
  exact bodyPost_ret (v := .agg #[.bool false, .slice none 0 0]) (by simp [results, Tryz.results144, go_sem, q3]) rfl ⟨none, 0, rfl, (Own.nil 0 _).toSees, (hB.setCell (by dsimp only; omega) _).setCell (by dsimp only; omega) _⟩

set_option maxHeartbeats 400000 in
theorem l1MagC (g : Bool) (a : Option Addr) (c : Nat) (xs : List Int) (w : World) (h : Sees w a c xs) :
  Calls Tryz.prog 146 #[.agg #[.bool g, .slice a xs.length c]] w fun e w' => ∃ a' c', e = .returned (.slice a' (tkL g xs).length c') ∧ Sees w' a' c' (tkL g xs) ∧ Below w.heap.size w w' := by
 by_cases hk : okB g xs = true
 ·have e2 : tkL g xs = xs := by unfold tkL; rw [if_pos hk]
  rw [e2]
  clear e2
  go_enter Tryz.func146, Tryz.ntmps146
  go_wp2_with fail
  refine (specOk g a c xs _ (h.below (below1 _ _))).mono ?_
  rintro e w1 ⟨rfl, hb⟩
  obtain ⟨q1, q2⟩ := at_block hb (b := w.heap.size) (by simp)
  have hB := (below1 _ _).trans (hb.mono (by simp))
  clear hb
  go_wp2
  go_ret
  exact ⟨a, c, rfl, h.below hB, hB⟩
 ·have hk' : okB g xs = false := by simpa using hk
  have e2 : tkL g xs = [] := by unfold tkL; rw [if_neg hk]
  rw [e2]
  clear e2 hk
  go_enter Tryz.func146, Tryz.ntmps146
  go_wp2_with fail
  refine (specOk g a c xs _ (h.below (below1 _ _))).mono ?_
  rintro e w1 ⟨rfl, hb⟩
  have hB := (below1 _ _).trans (hb.mono (by simp))
  clear hb
  go_wp2
  go_ret
  exact ⟨_, 0, rfl, (Own.empty 0 _ _ _).toSees, hB.trans ((below1 _ _).mono hB.size)⟩
open Go.RowKit

theorem cmpZ_neg (x y : Int) : cmpZ (-x) (-y) = cmpZ y x := by
 unfold cmpZ
 by_cases h1 : y < x
 ·rw [if_pos (by omega), if_pos h1]
 ·rw [if_neg (by omega), if_neg h1]
  by_cases h2 : y = x
  ·rw [if_pos (by omega), if_pos h2]
  ·rw [if_neg (by omega), if_neg h2]

set_option maxHeartbeats 1000000 in
theorem comparedC (g g' : Bool) (a b : Option Addr) (c d : Nat) (xs ys : List Int) (w : World) (h : Sees w a c xs) (k : Sees w b d ys) (nx : Nrm xs) (ny : Nrm ys) (hg : xs = [] → g = false) (kg : ys = [] → g' = false) :
  Calls Tryz.prog 89 #[.agg #[.bool g, .slice a xs.length c], .agg #[.bool g', .slice b ys.length d]] w fun e w' => e = .returned (.int .i64 (cmpZ (sg g (val xs)) (sg g' (val ys)))) ∧ Below w.heap.size w w' := by
 have px : g = true → 0 < val xs := fun e => val_pos h.lim nx (fun e2 => by rw [hg e2] at e; cases e)
 have py : g' = true → 0 < val ys := fun e => val_pos k.lim ny (fun e2 => by rw [kg e2] at e; cases e)
 have x0 := val_nonneg h.lim
 have y0 := val_nonneg k.lim
 clear hg kg
 rcases g with _ | _ <;> rcases g' with _ | _
 ·have E : Hid (cmpZ (sg false (val xs)) (sg false (val ys)) = cmpZ (val xs) (val ys)) := by show _ = _; simp [sg]
  clear px py x0 y0
  go_enter Tryz.func89, Tryz.ntmps89
  go_wp2_with fail
  refine (cmpMagC a b c d xs ys _ (h.below (below2 _ _ _)) (k.below (below2 _ _ _)) nx ny).mono ?_
  rintro e w2 ⟨rfl, n, rfl⟩
  go_wp2
  go_ret
  exact ⟨by rw [E.out]; rfl, below_drewN (below2 _ _ _) n⟩
 ·have E : Hid (cmpZ (sg false (val xs)) (sg true (val ys)) = 1) := by
   have := py rfl
   show _ = _
   simp only [sg]; simp; unfold cmpZ; rw [if_neg (by omega), if_neg (by omega)]
  clear px py x0 y0 h k
  go_enter Tryz.func89, Tryz.ntmps89
  go_wp2
  go_ret
  exact ⟨by rw [E.out]; rfl, below2 _ _ _⟩
 ·have E : Hid (cmpZ (sg true (val xs)) (sg false (val ys)) = -1) := by
   have := px rfl
   show _ = _
   simp only [sg]; simp; unfold cmpZ; rw [if_pos (by omega)]
  clear px py x0 y0 h k
  go_enter Tryz.func89, Tryz.ntmps89
  go_wp2
  go_ret
  exact ⟨by rw [E.out]; rfl, below2 _ _ _⟩
 ·have E : Hid (cmpZ (sg true (val xs)) (sg true (val ys)) = cmpZ (val ys) (val xs)) := by show _ = _; simp only [sg]; simp; exact cmpZ_neg _ _
  clear px py x0 y0
  go_enter Tryz.func89, Tryz.ntmps89
  go_wp2_with fail
  refine (cmpMagC b a d c ys xs _ (k.below (below2 _ _ _)) (h.below (below2 _ _ _)) ny nx).mono ?_
  rintro e w2 ⟨rfl, n, rfl⟩
  go_wp2
  go_ret
  exact ⟨by rw [E.out]; rfl, below_drewN (below2 _ _ _) n⟩

set_option maxHeartbeats 1000000 in
theorem implSign (g : Bool) (a : Option Addr) (c : Nat) (xs : List Int) (w : World) (h : Sees w a c xs) :
  Calls Tryz.prog 122 #[.agg #[.bool g, .slice a xs.length c]] w fun e w' => e = .returned (.int .i64 (cmpZ (tk g xs) 0)) ∧ Below w.heap.size w w' := by
 obtain ⟨tl, tn, t24, t0⟩ := tk_facts g xs h.lim
 have HT : Hid (Nrm (tkL g xs) ∧ (tkL g xs = [] → tkG g xs = false)) := ⟨tn, t0⟩
 clear tl tn t24 t0
 go_enter Tryz.func122, Tryz.ntmps122
 go_wp2_with fail
 refine (takenC g a c xs _ (h.below (below1 _ _))).mono ?_
 rintro e w1 ⟨a1, c1, rfl, hs1, hb⟩
 have B1 := (below1 w _).trans (hb.mono (by simp))
 clear hb h
 go_wp2_with fail
 refine (comparedC (tkG g xs) false a1 none c1 0 (tkL g xs) [] _ hs1 (Own.nil 0 _).toSees HT.out.1 trivial HT.out.2 (fun _ => rfl)).mono ?_
 rintro e w2 ⟨rfl, hb⟩
 have B2 := B1.trans (hb.mono B1.size)
 clear hb B1
 go_wp2
 go_ret
 exact ⟨rfl, B2⟩

theorem tk_zero {g : Bool} {xs : List Int} (h : tkL g xs = []) : tk g xs = 0 := by
 unfold tk; rw [h]; unfold sg; split <;> simp [val]
theorem tk_sign {g : Bool} {xs : List Int} (hl : Lim xs) (h : ¬ tkL g xs = []) : tkG g xs = g ∧ 0 < val (tkL g xs) := by
 obtain ⟨tl, tn, _, _⟩ := tk_facts g xs hl
 refine ⟨?_, val_pos tl tn h⟩
 unfold tkL at h
 unfold tkG
 by_cases hk : okB g xs = true
 ·rw [hk]; simp
 ·rw [if_neg hk] at h; exact absurd rfl h

set_option maxHeartbeats 1000000 in
theorem specSign (g : Bool) (a : Option Addr) (c : Nat) (xs : List Int) (w : World) (h : Sees w a c xs) :
  Calls Tryz.prog 128 #[.agg #[.bool g, .slice a xs.length c]] w fun e w' => e = .returned (.int .i64 (cmpZ (tk g xs) 0)) ∧ Below w.heap.size w w' := by
 obtain ⟨_, _, t24, _⟩ := tk_facts g xs h.lim
 by_cases h0 : tkL g xs = []
 ·have E : Hid (cmpZ (tk g xs) 0 = 0) := by show _ = _; rw [tk_zero h0]; simp [cmpZ]
  have HL : Hid ((tkL g xs).length = 0) := by show _ = _; rw [h0]; rfl
  clear h0
  go_enter Tryz.func128, Tryz.ntmps128
  go_wp2_with fail
  refine (l1MagC g a c xs _ (h.below (below1 _ _))).mono ?_
  rintro e w1 ⟨a1, c1, rfl, hs1, hb⟩
  rw [HL.out]
  have B1 := (below1 w _).trans (hb.mono (by simp))
  clear hb h hs1
  go_wp2
  go_ret
  exact ⟨by rw [E.out]; rfl, B1⟩
 ·obtain ⟨e1, e2⟩ := tk_sign h.lim h0
  have hp : 0 < (tkL g xs).length := List.length_pos_iff.2 h0
  have hne : (((tkL g xs).length : Int) == 0) = false := by simp; exact h0
  rcases g with _ | _
  ·have E : Hid (cmpZ (tk false xs) 0 = 1) := by
    show _ = _
    unfold tk; rw [e1]; simp only [sg]; simp; unfold cmpZ; rw [if_neg (by omega), if_neg (by omega)]
   clear h0 e1 e2
   go_enter Tryz.func128, Tryz.ntmps128
   go_wp2_with fail
   refine (l1MagC false a c xs _ (h.below (below1 _ _))).mono ?_
   rintro e w1 ⟨a1, c1, rfl, hs1, hb⟩
   obtain ⟨q1, q2⟩ := at_block hb (b := w.heap.size) (by simp)
   have B1 := (below1 w _).trans (hb.mono (by simp))
   clear hb h hs1
   generalize (tkL false xs).length = n at *
   go_wp2
   go_ret
   exact ⟨by rw [E.out]; rfl, B1⟩
  ·have E : Hid (cmpZ (tk true xs) 0 = -1) := by
    show _ = _
    unfold tk; rw [e1]; simp only [sg]; simp; unfold cmpZ; rw [if_pos (by omega)]
   clear h0 e1 e2
   go_enter Tryz.func128, Tryz.ntmps128
   go_wp2_with fail
   refine (l1MagC true a c xs _ (h.below (below1 _ _))).mono ?_
   rintro e w1 ⟨a1, c1, rfl, hs1, hb⟩
   obtain ⟨q1, q2⟩ := at_block hb (b := w.heap.size) (by simp)
   have B1 := (below1 w _).trans (hb.mono (by simp))
   clear hb h hs1
   generalize (tkL true xs).length = n at *
   go_wp2
   go_ret
   exact ⟨by rw [E.out]; rfl, B1⟩
open Go.RowKit

def fOk (g : Bool) (xs : List Int) (h : Bool) (ys : List Int) : Bool := okB g xs && okB h ys && decide (0 < cmpZ (tk h ys) 0)

set_option maxHeartbeats 1000000 in
theorem implFracOk (g h : Bool) (a b : Option Addr) (c d : Nat) (xs ys : List Int) (w : World) (hx : Sees w a c xs) (hy : Sees w b d ys) :
  Calls Tryz.prog 88 #[.agg #[.bool g, .slice a xs.length c, .bool h, .slice b ys.length d]] w fun e w' => e = .returned (.bool (fOk g xs h ys)) ∧ Below w.heap.size w w' := by
 have hb0 := below1 w (.cells #[.bool g, .slice a xs.length c, .bool h, .slice b ys.length d] 32)
 by_cases h1 : okB g xs = true
 ·by_cases h2 : okB h ys = true
  ·have E : Hid (fOk g xs h ys = decide (0 < cmpZ (tk h ys) 0)) := by show _ = _; unfold fOk; rw [h1, h2]; rfl
   obtain ⟨z, hz⟩ : ∃ z, cmpZ (tk h ys) 0 = z := ⟨_, rfl⟩
   go_enter Tryz.func88, Tryz.ntmps88
   go_wp2_with fail
   refine (implOk g a c xs _ (hx.below hb0)).mono ?_
   rintro e w1 ⟨rfl, hb⟩
   rw [h1]
   obtain ⟨q, _⟩ := at_block hb (b := w.heap.size) (by simp)
   have B1 := hb0.trans (hb.mono (by simp))
   have hz1 : w.heap.size < w1.heap.size := by have := hb.size; simp at this; omega
   clear hb
   go_wp2_with fail
   refine (implOk h b d ys _ (hy.below B1)).mono ?_
   rintro e w2 ⟨rfl, hb⟩
   rw [h2]
   have q2 : ∀ o, w2.cell? ⟨w.heap.size, o, none⟩ = w1.cell? ⟨w.heap.size, o, none⟩ := fun o => hb.cell (p := ⟨w.heap.size, o, none⟩) hz1
   have B2 := B1.trans (hb.mono B1.size)
   clear hb
   go_wp2_with fail
   refine (implSign h b d ys _ (hy.below B2)).mono ?_
   rintro e w3 ⟨rfl, hb⟩
   rw [hz]
   have B3 := B2.trans (hb.mono B2.size)
   clear hb
   go_wp2
   go_ret
   exact ⟨by rw [E.out, hz]; rfl, B3⟩
  ·have h2' : okB h ys = false := by simpa using h2
   have E : Hid (fOk g xs h ys = false) := by show _ = _; unfold fOk; rw [h2']; simp
   go_enter Tryz.func88, Tryz.ntmps88
   go_wp2_with fail
   refine (implOk g a c xs _ (hx.below hb0)).mono ?_
   rintro e w1 ⟨rfl, hb⟩
   rw [h1]
   obtain ⟨q, _⟩ := at_block hb (b := w.heap.size) (by simp)
   have B1 := hb0.trans (hb.mono (by simp))
   have hz1 : w.heap.size < w1.heap.size := by have := hb.size; simp at this; omega
   clear hb
   go_wp2_with fail
   refine (implOk h b d ys _ (hy.below B1)).mono ?_
   rintro e w2 ⟨rfl, hb⟩
   rw [h2']
   have B2 := B1.trans (hb.mono B1.size)
   clear hb
   go_wp2
   go_ret
   exact ⟨by rw [E.out]; rfl, B2⟩
 ·have h1' : okB g xs = false := by simpa using h1
  have E : Hid (fOk g xs h ys = false) := by show _ = _; unfold fOk; rw [h1']; rfl
  go_enter Tryz.func88, Tryz.ntmps88
  go_wp2_with fail
  refine (implOk g a c xs _ (hx.below hb0)).mono ?_
  rintro e w1 ⟨rfl, hb⟩
  rw [h1']
  have B1 := hb0.trans (hb.mono (by simp))
  clear hb
  go_wp2
  go_ret
  exact ⟨by rw [E.out]; rfl, B1⟩

set_option maxHeartbeats 1000000 in
theorem specFracOk (g h : Bool) (a b : Option Addr) (c d : Nat) (xs ys : List Int) (w : World) (hx : Sees w a c xs) (hy : Sees w b d ys) :
  Calls Tryz.prog 99 #[.agg #[.bool g, .slice a xs.length c, .bool h, .slice b ys.length d]] w fun e w' => e = .returned (.bool (fOk g xs h ys)) ∧ Below w.heap.size w w' := by
 have hb0 := below1 w (.cells #[.bool g, .slice a xs.length c, .bool h, .slice b ys.length d] 32)
 by_cases h1 : okB g xs = true
 ·by_cases h2 : okB h ys = true
  ·have E : Hid (fOk g xs h ys = decide (0 < cmpZ (tk h ys) 0)) := by show _ = _; unfold fOk; rw [h1, h2]; rfl
   obtain ⟨z, hz⟩ : ∃ z, cmpZ (tk h ys) 0 = z := ⟨_, rfl⟩
   go_enter Tryz.func99, Tryz.ntmps99
   go_wp2_with fail
   refine (specOk g a c xs _ (hx.below hb0)).mono ?_
   rintro e w1 ⟨rfl, hb⟩
   rw [h1]
   obtain ⟨q, _⟩ := at_block hb (b := w.heap.size) (by simp)
   have B1 := hb0.trans (hb.mono (by simp))
   have hz1 : w.heap.size < w1.heap.size := by have := hb.size; simp at this; omega
   clear hb
   go_wp2_with fail
   refine (specOk h b d ys _ (hy.below B1)).mono ?_
   rintro e w2 ⟨rfl, hb⟩
   rw [h2]
   have q2 : ∀ o, w2.cell? ⟨w.heap.size, o, none⟩ = w1.cell? ⟨w.heap.size, o, none⟩ := fun o => hb.cell (p := ⟨w.heap.size, o, none⟩) hz1
   have B2 := B1.trans (hb.mono B1.size)
   clear hb
   go_wp2_with fail
   refine (specSign h b d ys _ (hy.below B2)).mono ?_
   rintro e w3 ⟨rfl, hb⟩
   rw [hz]
   have B3 := B2.trans (hb.mono B2.size)
   clear hb
   go_wp2
   go_ret
   exact ⟨by rw [E.out, hz]; rfl, B3⟩
  ·have h2' : okB h ys = false := by simpa using h2
   have E : Hid (fOk g xs h ys = false) := by show _ = _; unfold fOk; rw [h2']; simp
   go_enter Tryz.func99, Tryz.ntmps99
   go_wp2_with fail
   refine (specOk g a c xs _ (hx.below hb0)).mono ?_
   rintro e w1 ⟨rfl, hb⟩
   rw [h1]
   obtain ⟨q, _⟩ := at_block hb (b := w.heap.size) (by simp)
   have B1 := hb0.trans (hb.mono (by simp))
   have hz1 : w.heap.size < w1.heap.size := by have := hb.size; simp at this; omega
   clear hb
   go_wp2_with fail
   refine (specOk h b d ys _ (hy.below B1)).mono ?_
   rintro e w2 ⟨rfl, hb⟩
   rw [h2']
   have B2 := B1.trans (hb.mono B1.size)
   clear hb
   go_wp2
   go_ret
   exact ⟨by rw [E.out]; rfl, B2⟩
 ·have h1' : okB g xs = false := by simpa using h1
  have E : Hid (fOk g xs h ys = false) := by show _ = _; unfold fOk; rw [h1']; rfl
  go_enter Tryz.func99, Tryz.ntmps99
  go_wp2_with fail
  refine (specOk g a c xs _ (hx.below hb0)).mono ?_
  rintro e w1 ⟨rfl, hb⟩
  rw [h1']
  have B1 := hb0.trans (hb.mono (by simp))
  clear hb
  go_wp2
  go_ret
  exact ⟨by rw [E.out]; rfl, B1⟩
open Go.RowKit

set_option maxHeartbeats 400000 in
theorem trimmedC (base : Nat) (a : Option Addr) (c : Nat) (xs : List Int) (w : World) (h : Own base w a c xs) :
  Calls Tryz.prog 115 #[.slice a xs.length c] w fun e w' => w' = w ∧ ∃ a' j, e = .returned (.slice a' j j) ∧ j ≤ xs.length ∧ ((j = 0 ∧ a' = none) ∨ a' = a) ∧ Nrm (xs.take j) ∧ val (xs.take j) = val xs := by
 have hm := h.max
 have hf := h.fits
 unfold maxLen at hm
 go_enter Tryz.func115, Tryz.ntmps115
 go_wp2
 go_loop [3] (fun n => ∃ j : Nat, j ≤ xs.length ∧ n = .int .i64 j ∧ Hid (∀ i, j ≤ i → xs[i]?.getD 0 = 0)) (fun n => (intOf n).toNat)
 case atStart => exact ⟨xs.length, Nat.le_refl _, rfl, fun i hi => by rw [List.getElem?_eq_none hi]; rfl⟩
 case round =>
  obtain ⟨j, hj, rfl, hz⟩ := hrel
  by_cases h0 : j = 0
  ·have H : Hid (val (xs.take j) = val xs) := (cut_facts hj hz.out (.inl h0)).2.1
   subst h0
   clear hz
   go_wp2
   go_ret
   exact ⟨rfl, none, 0, rfl, Nat.zero_le _, .inl ⟨rfl, rfl⟩, trivial, H.out⟩
  ·have hne : xs ≠ [] := by intro e; simp [e] at hj; omega
   obtain ⟨b, off, rfl, hc⟩ := h.cells hne
   have g1 := hc (j - 1) (by omega)
   have hp : (0 : Int) < j := by omega
   clear hc
   by_cases hx : xs[j - 1]?.getD 0 = 0
   ·rw [hx] at g1
    have hz' : Hid (∀ i, j - 1 ≤ i → xs[i]?.getD 0 = 0) := zeros_step hz.out hx
    clear hz hx h
    go_wp2
    go_round
    case rel => exact ⟨j - 1, by omega, by go_num, hz'⟩
    case measure => simp [intOf]; omega
   ·have H := cut_facts hj hz.out (.inr hx)
    have hj0 : ((j : Int) == 0) = false := by simpa using h0
    have hx' : (xs[j - 1]?.getD 0 == 0) = false := by simpa using hx
    generalize xs[j - 1]?.getD 0 = x at g1 hx'
    have HH : Hid (Nrm (xs.take j) ∧ val (xs.take j) = val xs ∧ (xs.take j).length = j) := H
    clear hz hx h H
    go_wp2
    go_ret
    exact ⟨rfl, _, j, rfl, hj, .inr rfl, HH.out.1, HH.out.2.1⟩

set_option maxHeartbeats 400000 in
theorem signedC (base : Nat) (neg : Bool) (a : Option Addr) (c : Nat) (xs : List Int) (w : World) (h : Own base w a c xs) :
  Calls Tryz.prog 78 #[.bool neg, .slice a xs.length c] w fun e w' => ∃ v, e = .returned v ∧ IsNum base w' v (sg neg (val xs)) ∧ Below w.heap.size w w' := by
 go_enter Tryz.func78, Tryz.ntmps78
 go_wp2_with fail
 refine (trimmedC base a c xs _ (h.below (below1 _ _))).mono ?_
 rintro e w' ⟨rfl, a', j, rfl, hj, ha, hn, hv⟩
 have hl : (xs.take j).length = j := by simp; omega
 have hm := h.max
 have hf := h.fits
 unfold maxLen at hm
 have key : ∀ o, IsNum base (w.alloc o) (.agg #[.bool (neg && decide (0 < j)), .slice a' j j]) (sg neg (val xs)) := fun o => by
  have := IsNum.mk (neg := neg) (h.below (below1 w o) |>.cut hj ha) hn
  rw [hv, hl] at this
  exact this
 clear h hn hv hl ha
 have K : Hid (∀ o, IsNum base (w.alloc o) (.agg #[.bool (neg && decide (0 < j)), .slice a' j j]) (sg neg (val xs))) := key
 clear key
 cases neg
 ·go_wp2
  exact bodyPost_ret (v := .agg #[.bool (false && decide (0 < j)), .slice a' j j]) (by simp [results, Tryz.results78, go_sem]) rfl ⟨_, rfl, K.out _, below1 _ _⟩
 ·by_cases h0 : 0 < j
  ·have hp : (0 : Int) < j := by omega
   go_wp2
   exact bodyPost_ret (v := .agg #[.bool (true && decide (0 < j)), .slice a' j j]) (by simp [results, Tryz.results78, go_sem, h0]) rfl ⟨_, rfl, K.out _, below1 _ _⟩
  ·obtain rfl : j = 0 := by omega
   go_wp2
   exact bodyPost_ret (v := .agg #[.bool (true && decide (0 < 0)), .slice a' 0 0]) (by simp [results, Tryz.results78, go_sem]) rfl ⟨_, rfl, K.out _, below1 _ _⟩

open Go.RowKit

set_option maxHeartbeats 1000000 in
theorem l1NumC (neg : Bool) (a : Option Addr) (c : Nat) (xs : List Int) (w : World) (h : Sees w a c xs) (hs : xs.length ≤ 2097152) :
  Calls Tryz.prog 62 #[.bool neg, .slice a xs.length c] w fun e w' => ∃ v, e = .returned v ∧ IsNum w.heap.size w' v (sg neg (val xs)) ∧ Below w.heap.size w w' := by
 have hm := h.max
 have hf := h.fits
 unfold maxLen at hm
 have HS : Hid (xs.length ≤ 2097152) := hs
 clear hs
 go_enter Tryz.func62, Tryz.ntmps62
 go_wp2
 go_loop [5] (fun n => ∃ j : Nat, j ≤ xs.length ∧ n = .int .i64 j ∧ Hid (∀ i, j ≤ i → xs[i]?.getD 0 = 0)) (fun n => (intOf n).toNat)
 case atStart => exact ⟨xs.length, Nat.le_refl _, rfl, fun i hi => by rw [List.getElem?_eq_none hi]; rfl⟩
 case round =>
  obtain ⟨j, hj, rfl, hz⟩ := hrel
  by_cases h0 : j = 0
  ·have H : Hid (val xs = 0) := by
    have := (cut_facts hj hz.out (.inl h0)).2.1
    subst h0; exact this.symm
   subst h0
   clear hz
   rcases h.shape with ⟨rfl, rfl⟩ | ⟨b, off, rfl⟩
   all_goals
    clear h
    cases neg
    all_goals
     go_wp2
     exact bodyPost_ret (v := .agg #[.bool false, .slice (some ⟨w.heap.size + 1, 0, none⟩) 0 0]) (by simp [results, Tryz.results62, go_sem]) rfl ⟨_, rfl, IsNum.zero _ _ _ _ _ H.out, below2 _ _ _⟩
  ·have hne : xs ≠ [] := by intro e; simp [e] at hj; omega
   obtain ⟨b, off, rfl, hc⟩ := h.cells hne
   have g1 := hc (j - 1) (by omega)
   have hp : (0 : Int) < j := by omega
   have hlt := World.block_lt_of_cell? _ _ g1
   by_cases hx : xs[j - 1]?.getD 0 = 0
   ·rw [hx] at g1
    have hz' : Hid (∀ i, j - 1 ≤ i → xs[i]?.getD 0 = 0) := zeros_step hz.out hx
    clear hz hx h hc
    go_wp2
    go_round
    case rel => exact ⟨j - 1, by omega, by go_num, hz'⟩
    case measure => simp [intOf]; omega
   ·have H := cut_facts hj hz.out (.inr hx)
    have hx' : (xs[j - 1]?.getD 0 == 0) = false := by simpa using hx
    generalize xs[j - 1]?.getD 0 = x at g1 hx'
    have HH : Hid (Nrm (xs.take j) ∧ val (xs.take j) = val xs ∧ (xs.take j).length = j) := H
    have HC : Hid (Sees w (some ⟨b, off, none⟩) c xs) := h
    have HL : Lim (xs.take j) := h.lim.take j
    obtain ⟨i0, hi, hz0, hz1, hz2⟩ := info_parts infoU
    clear hz hx h H hc
    have HJ : Hid (j * 4 ≤ 140737488355328) := by have := HS.out; show _ ≤ _; omega
    have HK : ∀ o1 o2, Hid (∀ q u, ((xs.take j).map (Value.int .u32))[q]? = some u → ((w.alloc o1).alloc o2).cell? ((⟨b, off, none⟩ : Addr).add q) = some u) := fun o1 o2 => (HC.out.below (below2 _ _ _)).toCame.news hj
    clear HC HS
    have hj' : 0 < j := by omega
    rcases neg with _ | _
    all_goals
     go_wp2_with (at_builtin; refine wpList_append_own _ rfl (.tmp 25) (.tmp 28) 28 rfl (w.heap.size + 1) 100 i0 (.int .u32 0) 1 4 Tryz.underlying28 hi hz0 hz1 hz2 rfl (by decide) (.slice (some ⟨w.heap.size + 1, 0, none⟩) 0 0) 0 [] rfl (ownsRow_empty2 _ _ _) ⟨b, off, none⟩ j _ ((xs.take j).map (Value.int .u32)) rfl (by rw [List.length_map, HH.out.2.2, Nat.mul_one]) ((HK _ _).out) (ones _) (by unfold maxLen; omega) (by have := HJ.out; omega) (by simp) ?_; intro v' w' hown' hgrow' _; obtain ⟨q1, q2⟩ := grown_at hgrow' (b := w.heap.size) (by simp; omega) (by simp [Value.ownBlock]); obtain ⟨g, cap', hv, ho⟩ := Own.of_append hown' HL (by omega); rw [HH.out.2.2] at hv; rw [hv]; have hz : w.heap.size < w'.heap.size := (by have := hgrow'.size; simp at this; omega); have hB : Below w.heap.size w w' := ((below2 _ _ _).grown hgrow' (by simp; omega) (by intro k hk; simp [Value.ownBlock] at hk; omega)); clear hown' hgrow' hv)
    ·have hI := IsNum.mk (neg := false) (((ho.setCell (p := ⟨w.heap.size, 0, none⟩) (by dsimp only; omega) (.bool false)).setCell (p := ⟨w.heap.size, 1, none⟩) (by dsimp only; omega) (.slice (some ⟨g, 0, none⟩) j cap')).base_le (Nat.le_succ _)) HH.out.1
     rw [HH.out.2.1, HH.out.2.2] at hI
     exact bodyPost_ret (v := .agg #[.bool (false && decide (0 < j)), .slice (some ⟨g, 0, none⟩) j cap']) (by simp [results, Tryz.results62, go_sem, q1]) rfl ⟨_, rfl, hI, (hB.setCell (by dsimp only; omega) _).setCell (by dsimp only; omega) _⟩
    ·have hI := IsNum.mk (neg := true) (((ho.setCell (p := ⟨w.heap.size, 0, none⟩) (by dsimp only; omega) (.bool true)).setCell (p := ⟨w.heap.size, 1, none⟩) (by dsimp only; omega) (.slice (some ⟨g, 0, none⟩) j cap')).base_le (Nat.le_succ _)) HH.out.1
     rw [HH.out.2.1, HH.out.2.2] at hI
     exact bodyPost_ret (v := .agg #[.bool (true && decide (0 < j)), .slice (some ⟨g, 0, none⟩) j cap']) (by simp [results, Tryz.results62, go_sem, q1, hj']) rfl ⟨_, rfl, hI, (hB.setCell (by dsimp only; omega) _).setCell (by dsimp only; omega) _⟩

open Go.RowKit

theorem val2 (x y : Int) : val [x, y] = x + 4294967296 * y := by simp [val]

theorem signed2 (base : Nat) (neg : Bool) (a : Option Addr) (x y : Int) (w : World) (h : Own base w a 2 [x, y]) :
  Calls Tryz.prog 78 #[.bool neg, .slice a 2 2] w fun e w' => ∃ v, e = .returned v ∧ IsNum base w' v (sg neg (x + 4294967296 * y)) ∧ Below w.heap.size w w' := by
 have := signedC base neg a 2 [x, y] w h
 rw [val2] at this
 exact this
theorem l1Num2 (neg : Bool) (a : Option Addr) (x y : Int) (w : World) (h : Sees w a 2 [x, y]) :
  Calls Tryz.prog 62 #[.bool neg, .slice a 2 2] w fun e w' => ∃ v, e = .returned v ∧ IsNum w.heap.size w' v (sg neg (x + 4294967296 * y)) ∧ Below w.heap.size w w' := by
 have := l1NumC neg a 2 [x, y] w h (by simp)
 rw [val2] at this
 exact this

theorem wrap_neg {n : Int} (h1 : -9223372036854775808 ≤ n) (h0 : n < 0) : IntKind.u64.wrap (-IntKind.u64.wrap n) = -n := by
 simp only [IntKind.wrap, IntKind.bits, IntKind.signed]
 simp
 omega

theorem sg_two {n : Int} (_h : ¬ n < 0) : sg false (n % 4294967296 + 4294967296 * (n / 4294967296)) = n := by simp only [sg]; simp; omega
theorem sg_two' {n : Int} (_h : n < 0) : sg true (-n % 4294967296 + 4294967296 * (-n / 4294967296)) = n := by simp only [sg]; simp; omega

set_option maxHeartbeats 1000000 in
theorem implOf (n : Int) (w : World) (h1 : -9223372036854775808 ≤ n) (h2 : n ≤ 9223372036854775807) :
  Calls Tryz.prog 46 #[.int .i64 n] w fun e w' => ∃ v, e = .returned v ∧ IsNum w.heap.size w' v n ∧ Below w.heap.size w w' := by
 by_cases h0 : n < 0
 ·have hw := wrap_neg h1 h0
  have E : Hid (_ = n) := sg_two' h0
  have ho := fun o => Own.lit2 (w.alloc o) 100 (-n % 4294967296) (-n / 4294967296) (by omega) (by omega)
  simp only [World.size_alloc] at ho
  have HO : Hid (∀ o, Own (w.heap.size + 1) ((w.alloc o).alloc (.cells #[.int .u32 (-n % 4294967296), .int .u32 (-n / 4294967296)] 100)) (some ⟨w.heap.size + 1, 0, none⟩) 2 [-n % 4294967296, -n / 4294967296]) := ho
  clear ho
  go_enter Tryz.func46, Tryz.ntmps46
  go_wp2_with fail
  refine (signed2 (w.heap.size + 1) true _ _ _ _ (HO.out _)).mono ?_
  rintro e w' ⟨v, rfl, hI, hb⟩
  replace hI := hI.eq E.out
  obtain ⟨g, a', l, c', rfl⟩ := hI.shape
  obtain ⟨q1, q2⟩ := at_block hb (b := w.heap.size) (by simp; omega)
  have hz : w.heap.size < w'.heap.size := by have := hb.size; simp at this; omega
  have hB := (below2 _ _ _).trans (hb.mono (by simp; omega))
  clear hb HO
  go_wp2
  exact bodyPost_ret (v := .agg #[.bool g, .slice a' l c']) (by simp [results, Tryz.results46, go_sem, q1]) rfl ⟨_, rfl, hI.put (Nat.lt_succ_self _), below_put hB _ _⟩
 ·have E : Hid (_ = n) := sg_two h0
  have ho := fun o => Own.lit2 (w.alloc o) 100 (n % 4294967296) (n / 4294967296) (by omega) (by omega)
  simp only [World.size_alloc] at ho
  have HO : Hid (∀ o, Own (w.heap.size + 1) ((w.alloc o).alloc (.cells #[.int .u32 (n % 4294967296), .int .u32 (n / 4294967296)] 100)) (some ⟨w.heap.size + 1, 0, none⟩) 2 [n % 4294967296, n / 4294967296]) := ho
  clear ho
  go_enter Tryz.func46, Tryz.ntmps46
  go_wp2_with fail
  refine (signed2 (w.heap.size + 1) false _ _ _ _ (HO.out _)).mono ?_
  rintro e w' ⟨v, rfl, hI, hb⟩
  replace hI := hI.eq E.out
  obtain ⟨g, a', l, c', rfl⟩ := hI.shape
  obtain ⟨q1, q2⟩ := at_block hb (b := w.heap.size) (by simp; omega)
  have hz : w.heap.size < w'.heap.size := by have := hb.size; simp at this; omega
  have hB := (below2 _ _ _).trans (hb.mono (by simp; omega))
  clear hb HO
  go_wp2
  exact bodyPost_ret (v := .agg #[.bool g, .slice a' l c']) (by simp [results, Tryz.results46, go_sem, q1]) rfl ⟨_, rfl, hI.put (Nat.lt_succ_self _), below_put hB _ _⟩

set_option maxHeartbeats 1000000 in
theorem specOf (n : Int) (w : World) (h1 : -9223372036854775808 ≤ n) (h2 : n ≤ 9223372036854775807) :
  Calls Tryz.prog 37 #[.int .i64 n] w fun e w' => ∃ v, e = .returned v ∧ IsNum w.heap.size w' v n ∧ Below w.heap.size w w' := by
 by_cases h0 : n < 0
 ·have E : Hid (_ = n) := sg_two' h0
  have ho := fun o => Own.lit2 (w.alloc o) 100 (-n % 4294967296) (-n / 4294967296) (by omega) (by omega)
  simp only [World.size_alloc] at ho
  have HO : Hid (∀ o, Own (w.heap.size + 1) ((w.alloc o).alloc (.cells #[.int .u32 (-n % 4294967296), .int .u32 (-n / 4294967296)] 100)) (some ⟨w.heap.size + 1, 0, none⟩) 2 [-n % 4294967296, -n / 4294967296]) := ho
  clear ho
  go_enter Tryz.func37, Tryz.ntmps37
  go_wp2_with fail
  rw [show -(n + 1) + 1 = -n by omega]
  refine (l1Num2 true _ _ _ _ (HO.out _).toSees).mono ?_
  rintro e w' ⟨v, rfl, hI, hb⟩
  replace hI := hI.eq E.out
  obtain ⟨g, a', l, c', rfl⟩ := hI.shape
  obtain ⟨q1, q2⟩ := at_block hb (b := w.heap.size) (by simp; omega)
  have hz : w.heap.size < w'.heap.size := by have := hb.size; simp at this; omega
  have hB := (below2 _ _ _).trans (hb.mono (by simp; omega))
  simp only [World.size_alloc] at hI
  clear hb HO
  go_wp2
  exact bodyPost_ret (v := .agg #[.bool g, .slice a' l c']) (by simp [results, Tryz.results37, go_sem, q1]) rfl ⟨_, rfl, hI.put (by omega), below_put hB _ _⟩
 ·have E : Hid (_ = n) := sg_two h0
  have ho := fun o => Own.lit2 (w.alloc o) 100 (n % 4294967296) (n / 4294967296) (by omega) (by omega)
  simp only [World.size_alloc] at ho
  have HO : Hid (∀ o, Own (w.heap.size + 1) ((w.alloc o).alloc (.cells #[.int .u32 (n % 4294967296), .int .u32 (n / 4294967296)] 100)) (some ⟨w.heap.size + 1, 0, none⟩) 2 [n % 4294967296, n / 4294967296]) := ho
  clear ho
  go_enter Tryz.func37, Tryz.ntmps37
  go_wp2_with fail
  refine (l1Num2 false _ _ _ _ (HO.out _).toSees).mono ?_
  rintro e w' ⟨v, rfl, hI, hb⟩
  replace hI := hI.eq E.out
  obtain ⟨g, a', l, c', rfl⟩ := hI.shape
  obtain ⟨q1, q2⟩ := at_block hb (b := w.heap.size) (by simp; omega)
  have hz : w.heap.size < w'.heap.size := by have := hb.size; simp at this; omega
  have hB := (below2 _ _ _).trans (hb.mono (by simp; omega))
  simp only [World.size_alloc] at hI
  clear hb HO
  go_wp2
  exact bodyPost_ret (v := .agg #[.bool g, .slice a' l c']) (by simp [results, Tryz.results37, go_sem, q1]) rfl ⟨_, rfl, hI.put (by omega), below_put hB _ _⟩

open Go.RowKit

theorem var_new (w : World) (g : Bool) (a : Option Addr) (n c : Nat) (T : TypeId) :
  (w.alloc (.cells #[.bool g, .slice a n c] T)).cell? ⟨w.heap.size, 0, none⟩ = some (.bool g) ∧ (w.alloc (.cells #[.bool g, .slice a n c] T)).cell? ⟨w.heap.size, 1, none⟩ = some (.slice a n c) :=
 ⟨cell_new w #[.bool g, .slice a n c] T 0 rfl, cell_new w #[.bool g, .slice a n c] T 1 rfl⟩

theorem pA {l : List Value} {i : Nat} {a : Value} : l.toArray.setIfInBounds i a = (l.set i a).toArray := List.setIfInBounds_toArray ..
theorem pB {a b : Value} {l : List Value} : (a :: l).set 0 b = b :: l := rfl
theorem pC {a b : Value} {l : List Value} {n : Nat} : (a :: l).set (n + 1) b = a :: l.set n b := rfl
theorem takeA {P : Program} {ops : Array Oper} {Q : Exit → Act → World → Prop} {md : Region.Mode} {S : World → Prop} {i : Nat} {oi : Oper} {v : Value} {fuel : Nat} {listed : Array Bool} {a a' : Act} {w : World} (hi : ops[i]? = some oi := by first | (simp only [List.getElem?_toArray, List.getElem?_cons_succ, List.getElem?_cons_zero]; exact rfl) | (simp only [List.getElem?_toArray, List.getElem?_cons_zero]; exact rfl))
  (hs : Region.noSelect ops = true := by kernel_rfl) (hf : Region.free md ops listed i = true := by kernel_rfl) (hr : (Region.ready md ops listed).contains i = true := by kernel_rfl)
  (hQ : ∀ c a w, Q (.panic c) (a.put oi.dst v) w → Q (.panic c) a w := by exact fun _ _ _ h => h) (hw : Region.wanted oi (yielded ops a.tmps) = true := by rfl)
  (hy : ∀ w, S w → (execOp a.eval oi).run P w = .ok (.value v) w := by (intro wq hSw; go_simp <;> with_reducible rfl)) (hS : S w := by assumption)
  (ha : a.put oi.dst v = a' := by first | (simp only [Act.put, pA, pB, pC]; exact rfl) | (simp only [Act.put, pA, pB, pC]; done) | exact rfl)
  (h : wpAnyH P md ops Q S fuel (listed.setIfInBounds i true) a' w) : wpAnyH P md ops Q S (fuel + 1) listed a w :=
  wpAnyH_take hi hs hf hr hQ (Or.inl ⟨hw, hy⟩) hS (ha ▸ h)
theorem rdA {P : Program} {ops : Array Oper} {Q : Exit → Act → World → Prop} {md : Region.Mode} {S : World → Prop} {fuel : Nat} {listed : Array Bool} {a : Act} {w : World} {i : Nat} {o : Oper} (hr : Region.ready md ops listed = [i] := by kernel_rfl) (ho : ops[i]? = some o := by first | (simp only [List.getElem?_toArray, List.getElem?_cons_succ, List.getElem?_cons_zero]; exact rfl) | (simp only [List.getElem?_toArray, List.getElem?_cons_zero]; exact rfl))
  (h : ∀ K' : Act → World → Prop, Shut (∀ a w, S w → (S w → wpAnyH P md ops Q S fuel (listed.setIfInBounds i true) a w) → K' a w) → if Region.wanted o (yielded ops a.tmps) = true then Oper.wp P o a w K' Q else K' (a.put o.dst undef) w) : wpAnyH P md ops Q S (fuel + 1) listed a w := wpAnyH_ready hr (by simp) (AllReadyH.cons ho h AllReadyH.nil)
theorem gtA {ops : List Oper} {i : Nat} {o : Oper} (h : ops[i]? = some o) : ops.toArray[i]? = some o := by rw [List.getElem?_toArray]; exact h
end Go.Proofs.YtnjbedhealpgcaaGreat
