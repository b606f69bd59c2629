/- Limbs and their number; what a slice of limbs reads in memory. No program is named here. -/
import Derived.WalkKit
import Derived.ProofKit
import Derived.Deep.Draws
namespace Go.Proofs.Ytniphhgjfdjjgah
open Go.RowKit

/-- A number of its limbs, the lowest first. -/
def val : List Int → Int
  | [] => 0
  | x :: r => x + 4294967296 * val r

/-- Each is a limb. -/
def Lim (xs : List Int) : Prop := ∀ x ∈ xs, 0 ≤ x ∧ x < 4294967296

/-- The highest limb, if there is one, is not 0. -/
def Nrm : List Int → Prop
  | [] => True
  | [x] => x ≠ 0
  | _ :: y :: r => Nrm (y :: r)

theorem Lim.nil : Lim [] := by intro x h; cases h
theorem Lim.cons {x : Int} {r : List Int} (h : Lim (x :: r)) : (0 ≤ x ∧ x < 4294967296) ∧ Lim r :=
  ⟨h x (List.mem_cons_self), fun y hy => h y (List.mem_cons_of_mem _ hy)⟩
theorem Lim.mk {x : Int} {r : List Int} (h : 0 ≤ x ∧ x < 4294967296) (hr : Lim r) : Lim (x :: r) := by
  intro y hy
  rcases List.mem_cons.1 hy with rfl | hy
  · exact h
  · exact hr y hy

theorem val_nonneg : ∀ {xs : List Int}, Lim xs → 0 ≤ val xs
  | [], _ => by simp [val]
  | x :: r, h => by
    obtain ⟨hx, hr⟩ := h.cons
    have := val_nonneg hr
    simp only [val]; omega

theorem val_lt : ∀ {xs : List Int}, Lim xs → val xs < 4294967296 ^ xs.length
  | [], _ => by simp [val]
  | x :: r, h => by
    obtain ⟨hx, hr⟩ := h.cons
    have := val_lt hr
    simp only [val, List.length_cons, Int.pow_succ]
    omega

theorem val_pos : ∀ {xs : List Int}, Lim xs → Nrm xs → xs ≠ [] → 0 < val xs
  | [], _, _, h => absurd rfl h
  | [x], h, hn, _ => by
    obtain ⟨hx, _⟩ := h.cons
    simp only [Nrm] at hn
    simp only [val]; omega
  | x :: y :: r, h, hn, _ => by
    obtain ⟨hx, hr⟩ := h.cons
    have := val_pos hr hn (by simp)
    simp only [val] at this ⊢; omega

theorem val_inj : ∀ {xs ys : List Int}, Lim xs → Lim ys → Nrm xs → Nrm ys → val xs = val ys → xs = ys
  | [], [], _, _, _, _, _ => rfl
  | [], y :: s, _, h, _, hn, e => by
    have := val_pos h hn (by simp); simp only [val] at this e; omega
  | x :: r, [], h, _, hn, _, e => by
    have := val_pos h hn (by simp); simp only [val] at this e; omega
  | x :: r, y :: s, hx, hy, nx, ny, e => by
    obtain ⟨bx, lr⟩ := hx.cons
    obtain ⟨by', ls⟩ := hy.cons
    simp only [val] at e
    have e1 : x = y := by omega
    have e2 : val r = val s := by omega
    have nr : Nrm r := by cases r <;> simp_all [Nrm]
    have ns : Nrm s := by cases s <;> simp_all [Nrm]
    rw [e1, val_inj lr ls nr ns e2]

theorem val_append (xs ys : List Int) : val (xs ++ ys) = val xs + 4294967296 ^ xs.length * val ys := by
  induction xs with
  | nil => simp [val]
  | cons x r ih =>
    simp only [List.cons_append, val, ih, List.length_cons, Int.pow_succ]
    rw [Int.mul_add, ← Int.mul_assoc, Int.mul_comm 4294967296 (4294967296 ^ r.length), Int.add_assoc]

theorem Lim.take {xs : List Int} (h : Lim xs) (n : Nat) : Lim (xs.take n) := fun x hx => h x (List.mem_of_mem_take hx)
theorem Lim.append {xs ys : List Int} (h : Lim xs) (k : Lim ys) : Lim (xs ++ ys) := by
  intro x hx
  rcases List.mem_append.1 hx with hx | hx
  · exact h x hx
  · exact k x hx
theorem Lim.get {xs : List Int} (h : Lim xs) (i : Nat) : 0 ≤ xs[i]?.getD 0 ∧ xs[i]?.getD 0 < 4294967296 := by
  cases e : xs[i]? with
  | none => simp
  | some x => simpa using h x (List.mem_of_getElem? e)

/-- The limbs below the noughts on top. -/
theorem Nrm_of_last : ∀ {xs : List Int}, (∀ x, xs.getLast? = some x → x ≠ 0) → Nrm xs
  | [], _ => trivial
  | [x], h => h x (by simp)
  | x :: y :: r, h => Nrm_of_last (xs := y :: r) (fun z hz => h z (by simpa using hz))

theorem last_of_Nrm : ∀ {xs : List Int}, Nrm xs → ∀ x, xs.getLast? = some x → x ≠ 0
  | [], _, x, h => by simp at h
  | [y], hn, x, h => by simp only [List.getLast?_singleton, Option.some.injEq] at h; subst h; exact hn
  | _ :: y :: r, hn, x, h => last_of_Nrm (xs := y :: r) hn x (by simpa using h)

/-- Noughts on top do not count. -/
theorem val_take_zeros (xs : List Int) (n : Nat) (h : ∀ i, n ≤ i → xs[i]?.getD 0 = 0) : val (xs.take n) = val xs := by
  induction xs generalizing n with
  | nil => simp
  | cons x r ih =>
    cases n with
    | zero =>
      have hx : x = 0 := by simpa using h 0 (Nat.le_refl _)
      have := ih 0 (fun i hi => by simpa using h (i + 1) (by omega))
      simp only [List.take_zero, val] at this ⊢; omega
    | succ n =>
      have := ih n (fun i hi => by simpa using h (i + 1) (by omega))
      simp only [List.take_succ_cons, val, this]

/-! ### Memory -/

/-- A slice (its address, its capacity) whose elements read as the limbs xs. -/
structure Sees (w : World) (a : Option Addr) (cap : Nat) (xs : List Int) : Prop where
  lim : Lim xs
  fits : xs.length ≤ cap
  max : cap ≤ maxLen
  cells : xs ≠ [] → ∃ b off, a = some ⟨b, off, none⟩ ∧ ∀ i, i < xs.length → w.cell? ⟨b, off + i, none⟩ = some (.int .u32 (xs[i]?.getD 0))

/-- .. that lies from block 'base' on, and may be written. -/
structure Own (base : Nat) (w : World) (a : Option Addr) (cap : Nat) (xs : List Int) : Prop extends Sees w a cap xs where
  new : ∀ b off, a = some ⟨b, off, none⟩ → xs ≠ [] → base ≤ b ∧ ∀ i, i < xs.length → w.frozen? ⟨b, off + i, none⟩ = false

theorem Sees.below {w w' : World} {a : Option Addr} {cap : Nat} {xs : List Int} (h : Sees w a cap xs) (hb : Below w.heap.size w w') : Sees w' a cap xs := by
  refine ⟨h.lim, h.fits, h.max, fun hne => ?_⟩
  obtain ⟨b, off, ha, hc⟩ := h.cells hne
  exact ⟨b, off, ha, fun i hi => (hb.cell (World.block_lt_of_cell? _ _ (hc i hi))).trans (hc i hi)⟩

theorem Own.below {base : Nat} {w w' : World} {a : Option Addr} {cap : Nat} {xs : List Int} (h : Own base w a cap xs) (hb : Below w.heap.size w w') : Own base w' a cap xs := by
  refine ⟨h.toSees.below hb, fun b off ha hne => ?_⟩
  obtain ⟨h1, h2⟩ := h.new b off ha hne
  obtain ⟨b', off', ha', hc⟩ := h.cells hne
  rw [ha] at ha'
  simp only [Option.some.injEq, Addr.mk.injEq] at ha'
  obtain ⟨rfl, rfl, _⟩ := ha'
  exact ⟨h1, fun i hi => (hb.frozen (p := ⟨b, off + i, none⟩) (World.block_lt_of_cell? _ _ (hc i hi))).trans (h2 i hi)⟩

theorem Own.base_le {base base' : Nat} {w : World} {a : Option Addr} {cap : Nat} {xs : List Int} (h : Own base w a cap xs) (hb : base' ≤ base) : Own base' w a cap xs :=
  ⟨h.toSees, fun b off ha hne => ⟨Nat.le_trans hb (h.new b off ha hne).1, (h.new b off ha hne).2⟩⟩

/-! ### Writing into one row -/

/-- The block in which a slice's elements lie, if it has any. -/
def rowOf (a : Option Addr) (xs : List Int) : Option Nat := if xs = [] then none else a.map (·.block)

theorem grownBy_refl (w : World) (row : Option Nat) : w.grownBy w row := ⟨rfl, rfl, rfl, Nat.le_refl _, fun _ _ _ => rfl⟩
theorem grownBy_trans {a b c : World} {row : Option Nat} (h : a.grownBy b row) (k : b.grownBy c row) : a.grownBy c row :=
  ⟨k.os.trans h.os, k.tape.trans h.tape, k.output.trans h.output, Nat.le_trans h.size k.size,
    fun i hi hr => (k.block i (Nat.lt_of_lt_of_le hi h.size) hr).trans (h.block i hi hr)⟩
theorem grownBy_setCell {a w : World} {row : Option Nat} (h : a.grownBy w row) {p : Addr} (hp : row = some p.block) (u : Value) : a.grownBy (w.setCell p u) row :=
  grownBy_trans h ⟨rfl, rfl, rfl, by simp, fun k _ hr => Below.heap_setCell _ _ _ _ (fun e => hr (by rw [hp, e]))⟩
theorem grownBy_drewN {a w : World} {row : Option Nat} (h : a.grownBy w row) (n : Nat) : a.grownBy (w.drewN n) row :=
  grownBy_trans h ⟨rfl, rfl, rfl, Nat.le_refl _, fun _ _ _ => rfl⟩

theorem Sees.kept {w w' : World} {a : Option Addr} {cap : Nat} {xs : List Int} {row : Option Nat} (h : Sees w a cap xs) (hg : w.grownBy w' row)
    (hne : ∀ b off, a = some ⟨b, off, none⟩ → xs ≠ [] → row ≠ some b) : Sees w' a cap xs := by
  refine ⟨h.lim, h.fits, h.max, fun hn => ?_⟩
  obtain ⟨b, off, ha, hc⟩ := h.cells hn
  refine ⟨b, off, ha, fun i hi => ?_⟩
  exact (World.cell?_of_block (hg.block b (World.block_lt_of_cell? _ _ (hc i hi)) (fun e => hne b off ha hn e.symm))).trans (hc i hi)

theorem Own.kept {base : Nat} {w w' : World} {a : Option Addr} {cap : Nat} {xs : List Int} {row : Option Nat} (h : Own base w a cap xs) (hg : w.grownBy w' row)
    (hne : ∀ b off, a = some ⟨b, off, none⟩ → xs ≠ [] → row ≠ some b) : Own base w' a cap xs := by
  refine ⟨h.toSees.kept hg hne, fun b off ha hn => ?_⟩
  obtain ⟨h1, h2⟩ := h.new b off ha hn
  obtain ⟨b', off', ha', hc⟩ := h.cells hn
  rw [ha] at ha'
  simp only [Option.some.injEq, Addr.mk.injEq] at ha'
  obtain ⟨rfl, rfl, _⟩ := ha'
  exact ⟨h1, fun i hi => (World.frozen?_of_block (a := ⟨b, off + i, none⟩) (hg.block b (World.block_lt_of_cell? _ _ (hc i hi)) (fun e => hne b off ha hn e.symm))).trans (h2 i hi)⟩

theorem Sees.lt {w : World} {a : Option Addr} {cap : Nat} {xs : List Int} (h : Sees w a cap xs) {b off : Nat} (ha : a = some ⟨b, off, none⟩) (hn : xs ≠ []) : b < w.heap.size := by
  obtain ⟨b', off', ha', hc⟩ := h.cells hn
  rw [ha] at ha'
  simp only [Option.some.injEq, Addr.mk.injEq] at ha'
  obtain ⟨rfl, rfl, _⟩ := ha'
  have hp : 0 < xs.length := List.length_pos_iff.2 hn
  exact World.block_lt_of_cell? _ _ (hc 0 hp)

/-- What lay there before does not lie in a row that came later. -/
theorem apart_later {w w2 : World} {a a2 : Option Addr} {c c2 : Nat} {xs xs2 : List Int} (h : Sees w a c xs) (k : Own w.heap.size w2 a2 c2 xs2) :
    ∀ b off, a = some ⟨b, off, none⟩ → xs ≠ [] → rowOf a2 xs2 ≠ some b := by
  intro b off ha hn e
  have hlt := h.lt ha hn
  unfold rowOf at e
  split at e
  · cases e
  · next hn2 =>
    obtain ⟨b2, off2, ha2, _⟩ := k.cells hn2
    have := (k.new b2 off2 ha2 hn2).1
    rw [ha2] at e
    simp at e
    omega
/-- .. nor what came later in a row that lay there before. -/
theorem apart_before {w w2 : World} {a a2 : Option Addr} {c c2 : Nat} {xs xs2 : List Int} (h : Sees w a c xs) (k : Own w.heap.size w2 a2 c2 xs2) :
    ∀ b off, a2 = some ⟨b, off, none⟩ → xs2 ≠ [] → rowOf a xs ≠ some b := by
  intro b off ha hn e
  have h1 := (k.new b off ha hn).1
  unfold rowOf at e
  split at e
  · cases e
  · next hn2 =>
    obtain ⟨b2, off2, ha2, _⟩ := h.cells hn2
    have := h.lt ha2 hn2
    rw [ha2] at e
    simp at e
    omega

theorem below_of_grown {base : Nat} {w w' : World} {a : Option Addr} {c : Nat} {xs : List Int} (k : Own base w a c xs) (hg : w.grownBy w' (rowOf a xs)) (hb : base ≤ w.heap.size) : Below base w w' := by
  refine ⟨hg.os, hg.tape, hg.output, hg.size, fun i hi => ?_⟩
  refine hg.block i (by omega) (fun e => ?_)
  unfold rowOf at e
  split at e
  · cases e
  · next hn =>
    obtain ⟨b2, off2, ha2, _⟩ := k.cells hn
    have := (k.new b2 off2 ha2 hn).1
    rw [ha2] at e
    simp at e
    omega

theorem Own.store {base : Nat} {w : World} {a : Option Addr} {cap : Nat} {xs : List Int} (h : Own base w a cap xs) {b off j : Nat} (ha : a = some ⟨b, off, none⟩) (hj : j < xs.length)
    {v : Int} (hv : 0 ≤ v ∧ v < 4294967296) : Own base (w.setCell ⟨b, off + j, none⟩ (.int .u32 v)) a cap (xs.set j v) := by
  have hn : xs ≠ [] := by intro e; simp [e] at hj
  obtain ⟨b', off', ha', hc⟩ := h.cells hn
  have hnew := h.new b off ha hn
  rw [ha] at ha'
  simp only [Option.some.injEq, Addr.mk.injEq] at ha'
  obtain ⟨rfl, rfl, _⟩ := ha'
  refine ⟨⟨?_, by simpa using h.fits, h.max, fun _ => ⟨b, off, ha, fun i hi => ?_⟩⟩, fun b1 off1 ha1 _ => ?_⟩
  · intro x hx
    rcases List.mem_or_eq_of_mem_set hx with hx | rfl
    · exact h.lim x hx
    · exact hv
  · rw [List.length_set] at hi
    by_cases e : j = i
    · subst e
      rw [World.cell?_setCell_same _ _ _ (hc j hj)]
      simp [hj]
    · rw [World.cell?_setCell_other _ _ _ _ (by simp), hc i hi]
      simp [List.getElem?_set_ne e]
  · rw [ha] at ha1
    simp only [Option.some.injEq, Addr.mk.injEq] at ha1
    obtain ⟨rfl, rfl, _⟩ := ha1
    exact ⟨hnew.1, fun i hi => by rw [World.frozen?_setCell]; exact hnew.2 i (by simpa using hi)⟩

theorem Own.setCell {base : Nat} {w : World} {a : Option Addr} {cap : Nat} {xs : List Int} (h : Own base w a cap xs) {p : Addr} (hp : p.block < base) (u : Value) : Own base (w.setCell p u) a cap xs :=
  h.kept (grownBy_setCell (grownBy_refl w (some p.block)) rfl u) (fun b off ha hn e => by have := (h.new b off ha hn).1; simp at e; omega)

/-! ### Blocks of a call's own -/
theorem below1 (w : World) (o1 : Obj) : Below w.heap.size w (w.alloc o1) := (Below.refl _ _).alloc (Nat.le_refl _) _
theorem below2 (w : World) (o1 o2 : Obj) : Below w.heap.size w ((w.alloc o1).alloc o2) := (below1 w o1).alloc (by simp) _
theorem below3 (w : World) (o1 o2 o3 : Obj) : Below w.heap.size w (((w.alloc o1).alloc o2).alloc o3) := (below2 w o1 o2).alloc (by simp; omega) _
theorem below4 (w : World) (o1 o2 o3 o4 : Obj) : Below w.heap.size w ((((w.alloc o1).alloc o2).alloc o3).alloc o4) := (below3 w o1 o2 o3).alloc (by simp; omega) _
theorem below5 (w : World) (o1 o2 o3 o4 o5 : Obj) : Below w.heap.size w (((((w.alloc o1).alloc o2).alloc o3).alloc o4).alloc o5) := (below4 w o1 o2 o3 o4).alloc (by simp; omega) _
theorem bcell {W w1 : World} (hb : Below W.heap.size W w1) : (∀ b o, b < W.heap.size → w1.cell? ⟨b, o, none⟩ = W.cell? ⟨b, o, none⟩) ∧ (∀ b o, b < W.heap.size → w1.frozen? ⟨b, o, none⟩ = W.frozen? ⟨b, o, none⟩) :=
  ⟨fun b o h => hb.cell (p := ⟨b, o, none⟩) h, fun b o h => hb.frozen (p := ⟨b, o, none⟩) h⟩

theorem bat {W W' : World} (hb : Below W.heap.size W W') {p : Addr} {v : Value} (h : W.cell? p = some v) : W'.cell? p = some v := (hb.cell (World.block_lt_of_cell? _ _ h)).trans h
theorem cell_new (w : World) (c : Array Value) (t : TypeId) (i : Nat) {v : Value} (h : c[i]? = some v) : (w.alloc (.cells c t)).cell? ⟨w.heap.size, i, none⟩ = some v := by
  simp only [World.cell?, heap_alloc_new]
  exact h

/-! ### Marks -/
def marks (k : Int) : Nat → List Int
  | 0 => []
  | n + 1 => k :: marks (k + 1) n
theorem marks_length (k : Int) (n : Nat) : (marks k n).length = n := by
  induction n generalizing k with
  | zero => rfl
  | succ n ih => simp [marks, ih]
theorem marks_get (k : Int) (n j : Nat) (h : j < n) : (marks k n)[j]?.getD 0 = k + j := by
  induction n generalizing k j with
  | zero => omega
  | succ n ih =>
    cases j with
    | zero => simp [marks]
    | succ j =>
      have := ih (k + 1) j (by omega)
      simp only [marks, List.getElem?_cons_succ, this]
      omega
theorem marks_snoc (k : Int) (n : Nat) : marks k n ++ [k + n] = marks k (n + 1) := by
  induction n generalizing k with
  | zero => simp [marks]
  | succ n ih =>
    have := ih (k + 1)
    simp only [marks, List.cons_append] at this ⊢
    rw [← this]
    congr 3
    omega
theorem marks_step (k : Int) (xs : List Int) (j : Nat) (h : j < xs.length) : (marks k j ++ xs.drop j).set j (k + j) = marks k (j + 1) ++ xs.drop (j + 1) := by
  rw [List.set_append, if_neg (by rw [marks_length]; omega), marks_length, Nat.sub_self, ← marks_snoc, List.append_assoc]
  congr 1
  rw [List.drop_eq_getElem_cons h, List.set_cons_zero]
  rfl

/-! ### Rows that were made -/
theorem Own.of_row {w : World} {base e g n cap : Nat} {xs : List Int} (h : w.ownsRow base e 1 (.slice (some ⟨g, 0, none⟩) n cap) n (xs.map (Value.int .u32))) (hl : Lim xs) : Own base w (some ⟨g, 0, none⟩) cap xs ∧ n = xs.length := by
  obtain ⟨h1, h2⟩ := h
  have hn : n = xs.length := by simpa using h1.symm
  refine ⟨?_, hn⟩
  rcases h2 with ⟨h2, _⟩ | ⟨g', cap', cur, hv, hb, hh, hc, hm, hs, ht⟩
  · cases h2
  simp only [Value.slice.injEq, Option.some.injEq, Addr.mk.injEq, and_true] at hv
  obtain ⟨rfl, _, rfl⟩ := hv
  refine ⟨⟨hl, by omega, hm, fun _ => ⟨g, 0, rfl, fun i hi => ?_⟩⟩, fun b off ha _ => ?_⟩
  · rw [cell_of_row w g (0 + i) cur e (0, 0) hh]
    have : (cur.toList.take (n * 1))[i]? = (xs.map (Value.int .u32))[i]? := by rw [ht]
    rw [List.getElem?_take, if_pos (by omega), List.getElem?_map] at this
    simp only [Nat.zero_add]
    rw [Array.getElem?_toList] at this
    rw [this, List.getElem?_eq_getElem hi]
    rfl
  · simp only [Option.some.injEq, Addr.mk.injEq] at ha
    obtain ⟨rfl, rfl, _⟩ := ha
    exact ⟨hb, fun i _ => by simp [World.frozen?, hh]⟩

theorem Lim.zeros (n : Nat) : Lim (List.replicate n 0) := by
  intro x hx
  have := List.eq_of_mem_replicate hx
  omega

/-- The first j limbs, and noughts behind them. -/
def copied (xs : List Int) (j : Nat) : List Int := xs.take j ++ List.replicate (xs.length - j) 0
theorem copied_zero (xs : List Int) : copied xs 0 = List.replicate xs.length 0 := by simp [copied]
theorem copied_all (xs : List Int) : copied xs xs.length = xs := by simp [copied]
theorem copied_length (xs : List Int) (j : Nat) (h : j ≤ xs.length) : (copied xs j).length = xs.length := by simp [copied]; omega
theorem copied_step (xs : List Int) (j : Nat) (h : j < xs.length) : (copied xs j).set j (xs[j]?.getD 0) = copied xs (j + 1) := by
  unfold copied
  have hl : (xs.take j).length = j := by simp; omega
  rw [List.set_append, if_neg (by rw [hl]; omega), hl, Nat.sub_self, List.take_succ_eq_append_getElem h, List.append_assoc]
  congr 1
  rw [show xs.length - j = (xs.length - (j + 1)) + 1 by omega, List.replicate_succ, List.set_cons_zero, List.getElem?_eq_getElem h]
  rfl

end Go.Proofs.Ytniphhgjfdjjgah
