/- Arrays of bytes compared; the program's number of four bytes; whether a piece is right. -/
import Derived.Test.YtgcaemhcdpddiaaDoorLgA
import Derived.Test.YtgcaemhcdpddiaaDoorLwI
import Derived.ChangeKeysEq
import Derived.BigRegion
namespace Go.Proofs.YtgcaemhcdpddiaaDoor
open Go.RowKit

theorem secA_at {xs : List Int} {i : Nat} (h : i < xs.length) : (secA xs)[i]? = some (.int .u8 (xs[i]?.getD 0)) := by
  unfold secA
  rw [List.getElem?_toArray, List.getElem?_map, List.getElem?_eq_getElem h]
  rfl
theorem plain8 : Tryd.prog.plainKey 5 = true := by kernel_rfl
theorem cells8 : Tryd.prog.cellsOf 5 = 1 := by kernel_rfl
theorem eqItems8 (d : Nat) (xs ys : List Int) (w : World) : ∀ (is : List Nat), (∀ i ∈ is, i < xs.length) → (∀ i ∈ is, i < ys.length) → (Op.eqItems (d + 1) 5 1 (secA xs) (secA ys) is).run Tryd.prog w = .ok (is.all fun i => xs[i]?.getD 0 == ys[i]?.getD 0) w
  | [], _, _ => by simp [Op.eqItems]
  | i :: is, hx, hy => by
    have p1 := run_part_plain (P := Tryd.prog) w plain8 (xs := secA xs) (off := i * 1) (by rw [Nat.mul_one]; exact secA_at (hx i (List.mem_cons_self ..)))
    have p2 := run_part_plain (P := Tryd.prog) w plain8 (xs := secA ys) (off := i * 1) (by rw [Nat.mul_one]; exact secA_at (hy i (List.mem_cons_self ..)))
    have p3 := run_equalIn_int (P := Tryd.prog) w d 5 .u8 .u8 (xs[i]?.getD 0) (ys[i]?.getD 0) Tryd.underlying5
    have ih := eqItems8 d xs ys w is (fun j hj => hx j (List.mem_cons_of_mem _ hj)) (fun j hj => hy j (List.mem_cons_of_mem _ hj))
    simp only [Op.eqItems, Sem.run_bind, p1, p2, p3, Result.andThen_ok, List.all_cons]
    cases hb : (xs[i]?.getD 0 == ys[i]?.getD 0)
    · simp
    · simpa using ih
theorem all_range {xs ys : List Int} (hx : xs.length = 64) (hy : ys.length = 64) : ((List.range 64).all fun i => xs[i]?.getD 0 == ys[i]?.getD 0) = true ↔ xs = ys := by
  rw [List.all_eq_true]
  constructor
  · intro h
    refine List.ext_getElem (hx.trans hy.symm) fun i h1 h2 => ?_
    have := h i (by rw [List.mem_range]; omega)
    rw [List.getElem?_eq_getElem h1, List.getElem?_eq_getElem h2] at this
    simpa using this
  · rintro rfl i _
    simp
theorem arr_ne {xs ys : List Int} (hx : xs.length = 64) (hy : ys.length = 64) (w : World) : ∃ r : Bool, (binOp .neq 81 (.agg (secA xs)) (.agg (secA ys))).run Tryd.prog w = .ok (.bool r) w ∧ (r = false ↔ xs = ys) := by
  obtain ⟨i8, hi8, -, -, -⟩ := info_parts infoB
  have e := eqItems8 9998 xs ys w (List.range 64) (fun i hi => by rw [List.mem_range] at hi; omega) (fun i hi => by rw [List.mem_range] at hi; omega)
  refine ⟨!((List.range 64).all fun i => xs[i]?.getD 0 == ys[i]?.getD 0), ?_, ?_⟩
  · rw [run_neq_struct, run_equalIn_array w 9999 (secA xs) (secA ys) Tryd.underlying81 hi8, cells8, e]
    rfl
  · rw [Bool.not_eq_false']
    exact all_range hx hy

/-- A variable of three cells. -/
structure Box3 (lo : Nat) (w : World) (p : Nat) (x0 x1 x2 : Value) : Prop where
  c0 : w.cell? ⟨p, 0, none⟩ = some x0
  c1 : w.cell? ⟨p, 1, none⟩ = some x1
  c2 : w.cell? ⟨p, 2, none⟩ = some x2
  fr : ∀ o, w.frozen? ⟨p, o, none⟩ = false
  lo : lo ≤ p
theorem Box3.new (w : World) {lo : Nat} (h : lo ≤ w.heap.size) (x0 x1 x2 : Value) (t : TypeId) : Box3 lo (w.alloc (.cells #[x0, x1, x2] t)) w.heap.size x0 x1 x2 :=
  ⟨cell_new w #[x0, x1, x2] t 0 rfl, cell_new w #[x0, x1, x2] t 1 rfl, cell_new w #[x0, x1, x2] t 2 rfl, fun o => frozen_new _ _ _ o, h⟩
theorem Box3.lt {lo p : Nat} {w : World} {x0 x1 x2 : Value} (h : Box3 lo w p x0 x1 x2) : p < w.heap.size := World.block_lt_of_cell? _ _ h.c0
theorem Box3.below {lo p : Nat} {w w' : World} {x0 x1 x2 : Value} (h : Box3 lo w p x0 x1 x2) (hb : Below w.heap.size w w') : Box3 lo w' p x0 x1 x2 :=
  ⟨bat hb h.c0, bat hb h.c1, bat hb h.c2, fun o => (hb.frozen (p := ⟨p, o, none⟩) h.lt).trans (h.fr o), h.lo⟩
theorem Box3.put1 {lo p : Nat} {w : World} {x0 x1 x2 : Value} (h : Box3 lo w p x0 x1 x2) (u : Value) : Box3 lo (w.setCell ⟨p, 1, none⟩ u) p x0 u x2 :=
  ⟨(cell_other (.inr (by decide)) u).trans h.c0, cell_same h.c1 u, (cell_other (.inr (by decide)) u).trans h.c2, fun o => (World.frozen?_setCell ..).trans (h.fr o), h.lo⟩

/-- The number, read from its highest byte on. -/
def rdN (bs : List Int) (t : Nat) : Nat → Int
  | 0 => 0
  | j + 1 => rdN bs t j * 256 + bs[t + (3 - j)]?.getD 0
theorem rdN_bd {bs : List Int} (h8 : ∀ x ∈ bs, 0 ≤ x ∧ x < 256) (t : Nat) : ∀ j, 0 ≤ rdN bs t j ∧ rdN bs t j < 256 ^ j
  | 0 => by simp [rdN]
  | j + 1 => by
    have h := rdN_bd h8 t j
    have y := u8At h8 (t + (3 - j))
    rw [Int.pow_succ]
    simp only [rdN]
    omega
theorem rdN_four (bs : List Int) (t : Nat) : rdN bs t 4 = lgGet bs t := by
  simp only [rdN, lgGet]
  simp
  omega
theorem or_byte {n x : Int} (n0 : 0 ≤ n) (n1 : n < 16777216) (x0 : 0 ≤ x) (x1 : x < 256) : bits BinOp.or IntKind.u32 (n * 256) x = n * 256 + x := by
  obtain ⟨a, rfl⟩ : ∃ a : Nat, n = (a : Int) := ⟨n.toNat, by omega⟩
  obtain ⟨b, rfl⟩ : ∃ b : Nat, x = (b : Int) := ⟨x.toNat, by omega⟩
  show IntKind.u32.wrap ((BitVec.ofInt 32 ((a : Int) * 256) ||| BitVec.ofInt 32 (b : Int)).toNat : Nat) = _
  rw [BitVec.toNat_or, BitVec.toNat_ofInt, BitVec.toNat_ofInt, IntKind.wrap_u32]
  have e1 : ((a : Int) * 256 % ((2 ^ 32 : Nat) : Int)).toNat = 2 ^ 8 * a := by omega
  have e2 : ((b : Int) % ((2 ^ 32 : Nat) : Int)).toNat = b := by omega
  rw [e1, e2, ← Nat.two_pow_add_eq_or_of_lt (by omega)]
  omega

set_option maxRecDepth 20000 in
set_option maxHeartbeats 2000000 in
theorem readNumber32 (lo q : Nat) (a : Option Addr) (c : Nat) (bs : List Int) (t : Nat) (w : World) (h : SeesB w a c bs) (hq : Box3 lo w q (.slice a bs.length c) (.int .i64 (t : Int)) (.int .u8 1)) (ht : t + 4 ≤ bs.length) (hl : bs.length ≤ 1000000) (h8 : ∀ x ∈ bs, 0 ≤ x ∧ x < 256) (hn : ∀ b off, a = some ⟨b, off, none⟩ → b ≠ q) :
    Calls Tryd.prog 51 #[.pointer (some ⟨q, 0, none⟩)] w fun e w' => e = .returned (.tuple #[.int .u32 (lgGet bs t), .nilIface]) ∧ Box3 lo w' q (.slice a bs.length c) (.int .i64 ((t : Int) + 4)) (.int .u8 1) ∧ w.grownBy w' (some q) := by
  have hm := h.max
  have hf := h.fits
  unfold maxLen at hm
  have HS : Hid (SeesB w a c bs) := h
  have H8 : Hid (∀ x ∈ bs, 0 ≤ x ∧ x < 256) := h8
  clear h h8
  go_enter Tryd.func51, Tryd.ntmps51
  go_wp2_with fail
  refine (size32 _).mono ?_
  rintro e w1 ⟨rfl, rfl⟩
  obtain ⟨q0, q1, q2, qf, _⟩ := id hq
  go_wp2_with fail
  go_region
  have hlt4 : ¬((bs.length : Int) - (t : Int) < 4) := by omega
  have B0 : Below w1.heap.size w1 w1.drew := (Below.refl _ _).drew
  clear q0 q1 q2 qf
  go_wp2
  go_loopw [5, 28] (fun s5 s28 wr => ∃ (j : Nat) (n : Int), j ≤ 4 ∧ s28 = .int .i64 j ∧ s5 = .int .u32 n ∧ Hid (n = rdN bs t j) ∧ Below w1.heap.size w1 wr) (fun _ s28 _ => 4 - (intOf s28).toNat)
  case atStart => exact ⟨0, 0, by omega, rfl, rfl, rfl, B0⟩
  case round =>
    clear B0
    obtain ⟨j, n, hj, rfl, rfl, hn5, B⟩ := hrel
    rename World => wr
    by_cases hlt : j < 4
    · have bd := rdN_bd H8.out t j
      rw [← hn5.out] at bd
      have y := u8At H8.out (t + (3 - j))
      have HN : Hid (n * 256 + bs[t + (3 - j)]?.getD 0 = rdN bs t (j + 1)) := by show _ = _; simp only [rdN]; rw [hn5.out]
      obtain ⟨b1, o1, rfl, hc⟩ := (HS.out.below B).cells (ne_of_len rfl (by omega))
      have g := hc (t + (3 - j)) (by omega)
      generalize bs[t + (3 - j)]?.getD 0 = x at *
      obtain ⟨y0, y1⟩ := y
      have n1 : n < 16777216 := by
        have : (256 : Int) ^ j ≤ 256 ^ 3 := by rcases (by omega : j = 0 ∨ j = 1 ∨ j = 2 ∨ j = 3) with rfl | rfl | rfl | rfl <;> decide
        omega
      have n0 := bd.1
      have ho := or_byte n0 n1 y0 y1
      have hsh : IntKind.u32.wrap (n * 256) = n * 256 := by rw [IntKind.wrap_u32]; omega
      have hsh2 : IntKind.u32.wrap (n * 2 ^ 8) = n * 256 := by rw [IntKind.wrap_u32]; omega
      have hx : IntKind.u32.wrap x = x := by rw [IntKind.wrap_u32]; omega
      obtain ⟨q0, q1, q2, qf, _⟩ := hq.below B
      have hB : Below w1.heap.size w1 wr.drew := B.drew
      clear hc bd hn5
      rcases (by omega : j = 0 ∨ j = 1 ∨ j = 2 ∨ j = 3) with rfl | rfl | rfl | rfl
      all_goals
        try simp only [Nat.sub_zero, Nat.reduceSub, Nat.sub_self, Nat.add_zero] at g
        go_wp2_with fail
        go_region
        go_wp2
        go_roundw
        case rel => exact ⟨_, _, by omega, by first | rfl | go_num, rfl, HN, hB⟩
        case measure => simp [intOf]
    · obtain rfl : j = 4 := by omega
      have hv : Hid (n = lgGet bs t) := by show _ = _; rw [hn5.out]; exact rdN_four bs t
      have hqB := hq.below B
      obtain ⟨q0, q1, q2, qf, _⟩ := id hqB
      have hP := hqB.put1 (.int .i64 ((t : Int) + 4))
      have hG : w1.grownBy (wr.setCell ⟨q, 1, none⟩ (.int .i64 ((t : Int) + 4))) (some q) := grownBy_setCell ⟨B.os, B.tape, B.output, B.size, fun i hi _ => B.block i hi⟩ (p := ⟨q, 1, none⟩) rfl _
      clear hn5 hqB
      go_wp2
      go_ret2
      exact ⟨by rw [hv.out]; rfl, hP, hG⟩

/-- A piece that a sector may tell. -/
def PcOk (ep mk : Int) (n : Nat) : Prop := (1 ≤ ep ∧ ep ≤ 1000000) ∧ ((mk = 1 ∧ n = 44) ∨ (mk = 2 ∧ n ≤ 44))
set_option maxRecDepth 20000 in
set_option maxHeartbeats 2000000 in
theorem pieceOk_any (ep nu mk : Int) (a : Option Addr) (n c : Nat) (w : World) (hn : n ≤ 1000000) :
    Calls Tryd.prog 52 #[.agg #[.int .i64 ep, .int .i64 nu, .int .u8 mk, .slice a n c]] w fun e w' => ∃ r : Bool, e = .returned (.bool r) ∧ (r = true ↔ PcOk ep mk n) ∧ Below w.heap.size w w' := by
  have B := below1 w (.cells #[.int .i64 ep, .int .i64 nu, .int .u8 mk, .slice a n c] 87)
  have HO : Hid (PcOk ep mk n ↔ (1 ≤ ep ∧ ep ≤ 1000000) ∧ ((mk = 1 ∧ n = 44) ∨ (mk = 2 ∧ n ≤ 44))) := by show _ ↔ _; exact Iff.rfl
  by_cases h1 : mk = 1
  · subst h1
    go_enter Tryd.func52, Tryd.ntmps52
    go_wp2_with fail
    refine (isEpoch_any ep _).mono ?_
    rintro e w1 ⟨r, rfl, hr, rfl⟩
    cases r with
    | false =>
      have Y : Hid (¬PcOk ep 1 n) := fun q => by have := hr.2 (HO.out.1 q).1; cases this
      clear hr HO
      go_wp2
      go_ret
      first | exact ⟨false, rfl, ⟨(fun q => by cases q), fun q => absurd q Y.out⟩, B⟩ | exact .inl ⟨rfl, Y.out, B⟩
    | true =>
      have HE := hr.1 rfl
      have HR : Hid (((n : Int) == 44) = true ↔ PcOk ep 1 n) := by
        show _ ↔ _
        rw [HO.out, beq_iff_eq]
        exact ⟨fun q => ⟨HE, .inl ⟨by trivial, by omega⟩⟩, fun q => by rcases q.2 with q | q <;> omega⟩
      clear hr HO HE
      go_wp2
      go_ret
      first | exact ⟨_, rfl, HR.out, B⟩ | exact ⟨HR.out, B⟩ | (have := HR.out; simp at this ⊢; exact ⟨this, B⟩)
  · have n1 : (mk == 1) = false := by simp [h1]
    by_cases h2 : mk = 2
    · subst h2
      go_enter Tryd.func52, Tryd.ntmps52
      go_wp2_with fail
      refine (isEpoch_any ep _).mono ?_
      rintro e w1 ⟨r, rfl, hr, rfl⟩
      cases r with
      | false =>
        have Y : Hid (¬PcOk ep 2 n) := fun q => by have := hr.2 (HO.out.1 q).1; cases this
        clear hr HO
        go_wp2
        go_ret
        first | exact ⟨false, rfl, ⟨(fun q => by cases q), fun q => absurd q Y.out⟩, B⟩ | exact .inl ⟨rfl, Y.out, B⟩
      | true =>
        have HE := hr.1 rfl
        have HR : Hid (decide ((n : Int) ≤ 44) = true ↔ PcOk ep 2 n) := by
          show _ ↔ _
          rw [HO.out, decide_eq_true_iff]
          exact ⟨fun q => ⟨HE, .inr ⟨by trivial, by omega⟩⟩, fun q => by rcases q.2 with q | q <;> omega⟩
        clear hr HO HE
        go_wp2
        go_ret
        first | exact ⟨_, rfl, HR.out, B⟩ | exact ⟨HR.out, B⟩ | (have := HR.out; simp at this ⊢; exact ⟨this, B⟩)
    · have n2 : (mk == 2) = false := by simp [h2]
      have Y : Hid (¬PcOk ep mk n) := fun q => by rcases (HO.out.1 q).2 with q | q <;> omega
      clear HO h1 h2
      go_enter Tryd.func52, Tryd.ntmps52
      go_wp2
      go_ret
      first | exact ⟨false, rfl, ⟨(fun q => by cases q), fun q => absurd q Y.out⟩, B⟩ | exact .inl ⟨rfl, Y.out, B⟩
end Go.Proofs.YtgcaemhcdpddiaaDoor
