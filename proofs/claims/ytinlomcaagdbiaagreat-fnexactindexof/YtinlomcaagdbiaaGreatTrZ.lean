import Derived.Test.YtinlomcaagdbiaaGreatSBox
import Derived.Test.YtinlomcaagdbiaaGreatRing
import Derived.Laws.AppendOwnNone
import Derived.Test.YtinlomcaagdbiaaGreatPtG
import Derived.Test.YtinlomcaagdbiaaGreatPtsA
import Derived.Test.YtinlomcaagdbiaaGreatBoxS
import Derived.Test.YtinlomcaagdbiaaGreatSeg
import Derived.Deep.Cut
import Derived.Deep.DeepCutAuto
import Derived.Laws.StructEq
/- How great a tree is (szNode, szNodeS, szIntS). -/
namespace Go.Proofs.YtinlomcaagdbiaaGreat
open Go.RowKit

def ndV (t : Nd) (v1 v2 v3 : Value) : Value := .agg #[.int .i64 t.b.1, .int .i64 t.b.2.1, .int .i64 t.b.2.2.1, .int .i64 t.b.2.2.2, v1, v2, v3]
theorem Sev.new (w : World) (x1 x2 x3 x4 : Int) (v1 v2 v3 : Value) (T : TypeId) : Sev (w.alloc (.cells #[.int .i64 x1, .int .i64 x2, .int .i64 x3, .int .i64 x4, v1, v2, v3] T)) w.heap.size 0 (x1, x2, x3, x4) v1 v2 v3 :=
 ⟨⟨cell_new w _ T 0 rfl, cell_new w _ T 1 rfl, cell_new w _ T 2 rfl, cell_new w _ T 3 rfl⟩, cell_new w _ T 4 rfl, cell_new w _ T 5 rfl, cell_new w _ T 6 rfl⟩
theorem lenX {w : World} {a : Option Addr} {c : Nat} {bs : List Bx} (h : SeesX w a c bs) : bs.length ≤ 9223372036854775807 := by have := h.fits; have := h.max; unfold maxLen at this; omega
theorem lenN {lo : Nat} {w : World} {a : Option Addr} {c : Nat} {ks : List Nd} (h : NdsIn lo w a c ks) : ks.length ≤ 9223372036854775807 := by have := h.fits; have := h.max; unfold maxLen at this; omega
end Go.Proofs.YtinlomcaagdbiaaGreat

/- Rows of pointers to nodes; a node's kids, of the program ((*Node).kidsOf). -/
namespace Go.Proofs.YtinlomcaagdbiaaGreat
open Go.RowKit

abbrev Ptr := Nat × Nat
def ptV (q : Ptr) : Value := .pointer (some ⟨q.1, q.2, none⟩)
def ptAt (qs : List Ptr) (i : Nat) : Ptr := qs[i]?.getD (0, 0)
theorem onesTp (qs : List Ptr) : ∀ u ∈ qs.map ptV, u.oneCell' = true := by
 intro u hu
 obtain ⟨y, _, rfl⟩ := List.mem_map.1 hu
 rfl
theorem one_newTp (w : World) (e : TypeId) (b o : Nat) : ∀ j u, ([((b, o) : Ptr)].map ptV)[j]? = some u → (w.alloc (.cells #[.pointer (some ⟨b, o, none⟩)] e)).cell? ((⟨w.heap.size, 0, none⟩ : Addr).add j) = some u := by
 intro j u hu
 cases j with
 | zero =>
  simp [ptV] at hu
  subst hu
  exact cell_new w #[.pointer (some ⟨b, o, none⟩)] e 0 rfl
 | succ j => simp at hu
structure SeesTp (w : World) (a : Option Addr) (cap : Nat) (qs : List Ptr) : Prop where
 fits : qs.length ≤ cap
 max : cap ≤ maxLen
 cells : qs ≠ [] → ∃ b off, a = some ⟨b, off, none⟩ ∧ ∀ i, i < qs.length → w.cell? ⟨b, off + i, none⟩ = some (ptV (ptAt qs i))
theorem SeesTp.below {w w' : World} {a : Option Addr} {cap : Nat} {qs : List Ptr} (h : SeesTp w a cap qs) (hb : Below w.heap.size w w') : SeesTp w' a cap qs :=
 ⟨h.fits, h.max, fun hn => by
  obtain ⟨b, off, ha, hc⟩ := h.cells hn
  exact ⟨b, off, ha, fun i hi => bat hb (hc i hi)⟩⟩
theorem ptAt_snoc (qs : List Ptr) (q : Ptr) (i : Nat) : ptAt (qs ++ [q]) i = if i = qs.length then q else ptAt qs i := by
 unfold ptAt
 by_cases h : i = qs.length
 ·subst h; simp
 ·rw [if_neg h]
  rcases Nat.lt_or_ge i qs.length with c | c
  ·rw [List.getElem?_append_left c]
  ·rw [List.getElem?_append_right c, List.getElem?_eq_none (l := qs) c]
   rw [List.getElem?_eq_none (by simp; omega)]

end Go.Proofs.YtinlomcaagdbiaaGreat

/- Squares and products of ways. -/
namespace Go.Proofs.YtinlomcaagdbiaaGreat
open Go.RowKit

end Go.Proofs.YtinlomcaagdbiaaGreat

/- Boxes in boxes, areas, margins, gaps. -/
namespace Go.Proofs.YtinlomcaagdbiaaGreat
open Go.RowKit

end Go.Proofs.YtinlomcaagdbiaaGreat

/- The specification's Join; how much a box grows, of both. -/
namespace Go.Proofs.YtinlomcaagdbiaaGreat
open Go.RowKit

theorem join_of {a b c d m n r s : Int} (h1 : boxOk a b c d = true) (h2 : boxOk m n r s = true) : bA [(a, b), (c, d), (m, n), (r, s)] = oA a b c d m n r s ∧ bB [(a, b), (c, d), (m, n), (r, s)] = oB a b c d m n r s ∧ bC [(a, b), (c, d), (m, n), (r, s)] = oC a b c d m n r s ∧ bD [(a, b), (c, d), (m, n), (r, s)] = oD a b c d m n r s := by
 have p1 := boxOk_le h1
 have p2 := boxOk_le h2
 have k1 : ptOk a b = true ∧ ptOk c d = true := by unfold boxOk at h1; simp only [Bool.and_eq_true] at h1; exact ⟨h1.1, h1.2.1⟩
 have k2 : ptOk m n = true ∧ ptOk r s = true := by unfold boxOk at h2; simp only [Bool.and_eq_true] at h2; exact ⟨h2.1, h2.2.1⟩
 have hb : bOk [(a, b), (c, d), (m, n), (r, s)] = true := by simp [bOk, okL, k1.1, k1.2, k2.1, k2.2]
 obtain ⟨e1, e2, e3, e4⟩ := b_good hb
 rw [e1, e2, e3, e4]
 unfold oA oB oC oD jA jB jC jD
 rw [h1, h2]
 simp only [hd, bxA, bxB, bxC, bxD, List.foldl_cons, List.foldl_nil, List.getElem?_cons_zero, Option.getD_some, Bool.or_self, if_true]
 omega
theorem seesP4 (w : World) (a b c d m n r s : Int) (t : TypeId) : SeesP (w.alloc (.cells #[.int .i64 a, .int .i64 b, .int .i64 c, .int .i64 d, .int .i64 m, .int .i64 n, .int .i64 r, .int .i64 s] t)) (some ⟨w.heap.size, 0, none⟩) 4 [(a, b), (c, d), (m, n), (r, s)] := by
 refine ⟨by simp, by simp [maxLen], fun _ => ⟨_, _, rfl, fun i hi => ?_⟩⟩
 have : i = 0 ∨ i = 1 ∨ i = 2 ∨ i = 3 := by simp at hi; omega
 rcases this with rfl | rfl | rfl | rfl
 all_goals exact ⟨cell_new _ _ _ _ rfl, cell_new _ _ _ _ rfl⟩

set_option maxHeartbeats 4000000 in
theorem specJoin (a b c d m n r s : Int) (w : World) :
  Calls Tryz.prog 94 #[.agg #[.int .i64 a, .int .i64 b, .int .i64 c, .int .i64 d], .agg #[.int .i64 m, .int .i64 n, .int .i64 r, .int .i64 s]] w fun e w' => e = .returned (.agg #[.int .i64 (oA a b c d m n r s), .int .i64 (oB a b c d m n r s), .int .i64 (oC a b c d m n r s), .int .i64 (oD a b c d m n r s)]) ∧ Below w.heap.size w w' := by
 have HO : Hid (oA a b c d m n r s = (if boxOk a b c d || boxOk m n r s then jA a b c d m n r s else 0) ∧ oB a b c d m n r s = (if boxOk a b c d || boxOk m n r s then jB a b c d m n r s else 0) ∧ oC a b c d m n r s = (if boxOk a b c d || boxOk m n r s then jC a b c d m n r s else 0) ∧ oD a b c d m n r s = (if boxOk a b c d || boxOk m n r s then jD a b c d m n r s else 0)) := ⟨rfl, rfl, rfl, rfl⟩
 have B := below3 w (.cells #[.int .i64 a, .int .i64 b, .int .i64 c, .int .i64 d] 27) (.cells #[.int .i64 m, .int .i64 n, .int .i64 r, .int .i64 s] 27) (.cells #[.int .i64 0, .int .i64 0, .int .i64 0, .int .i64 0] 27)
 have P0 := (Box4.new w (Nat.le_refl _) (.int .i64 a) (.int .i64 b) (.int .i64 c) (.int .i64 d) 27).below (below2 _ (.cells #[.int .i64 m, .int .i64 n, .int .i64 r, .int .i64 s] 27) (.cells #[.int .i64 0, .int .i64 0, .int .i64 0, .int .i64 0] 27))
 have P1 := (Box4.new (w.alloc (.cells #[.int .i64 a, .int .i64 b, .int .i64 c, .int .i64 d] 27)) (lo := w.heap.size) (by simp) (.int .i64 m) (.int .i64 n) (.int .i64 r) (.int .i64 s) 27).below (below1 _ (.cells #[.int .i64 0, .int .i64 0, .int .i64 0, .int .i64 0] 27))
 have P2 := Box4.new ((w.alloc (.cells #[.int .i64 a, .int .i64 b, .int .i64 c, .int .i64 d] 27)).alloc (.cells #[.int .i64 m, .int .i64 n, .int .i64 r, .int .i64 s] 27)) (lo := w.heap.size) (by simp; omega) (.int .i64 0) (.int .i64 0) (.int .i64 0) (.int .i64 0) 27
 simp only [World.size_alloc] at P1 P2
 go_enter Tryz.func94, Tryz.ntmps94
 go_wp2_with fail
 generalize (((w.alloc (.cells #[.int .i64 a, .int .i64 b, .int .i64 c, .int .i64 d] 27)).alloc (.cells #[.int .i64 m, .int .i64 n, .int .i64 r, .int .i64 s] 27)).alloc (.cells #[.int .i64 0, .int .i64 0, .int .i64 0, .int .i64 0] 27)) = W0 at *
 obtain ⟨a0, a1, a2, a3, _, _⟩ := id P0
 obtain ⟨b0, b1, b2, b3, _, _⟩ := id P1
 obtain ⟨d0, d1, d2, d3, df, _⟩ := id P2
 cases h1 : boxOk a b c d <;> cases h2 : boxOk m n r s
 ·skip
  go_wp2_with (go_at_call 38; refine (specBoxOk _ _ _ _ _).mono ?_; rintro e w1 ⟨rfl, hb⟩; (first | rw [h1] | rw [h2]); replace B := B.trans (hb.mono B.size); replace P0 := P0.below hb; replace P1 := P1.below hb; replace P2 := P2.below hb; clear hb; obtain ⟨a0, a1, a2, a3, _, _⟩ := id P0; obtain ⟨b0, b1, b2, b3, _, _⟩ := id P1; obtain ⟨d0, d1, d2, d3, df, _⟩ := id P2)
  obtain ⟨o1, o2, o3, o4⟩ := HO.out
  rw [o1, o2, o3, o4, h1, h2]
  exact bodyPost_ret (v := _) (by simp [results, Tryz.results94, go_sem, d0, d1, d2, d3]; try rfl) rfl ⟨by simp, (((B.setCell (by simp; omega) _).setCell (by simp; omega) _).setCell (by simp; omega) _).setCell (by simp; omega) _⟩
 ·skip
  go_wp2_with (go_at_call 38; refine (specBoxOk _ _ _ _ _).mono ?_; rintro e w1 ⟨rfl, hb⟩; (first | rw [h1] | rw [h2]); replace B := B.trans (hb.mono B.size); replace P0 := P0.below hb; replace P1 := P1.below hb; replace P2 := P2.below hb; clear hb; obtain ⟨a0, a1, a2, a3, _, _⟩ := id P0; obtain ⟨b0, b1, b2, b3, _, _⟩ := id P1; obtain ⟨d0, d1, d2, d3, df, _⟩ := id P2)
  obtain ⟨o1, o2, o3, o4⟩ := HO.out
  rw [o1, o2, o3, o4, h1, h2]
  exact bodyPost_ret (v := _) (by simp [results, Tryz.results94, go_sem, d0, d1, d2, d3]; try rfl) rfl ⟨by simp [jA, jB, jC, jD, h1, h2], (((B.setCell (by simp; omega) _).setCell (by simp; omega) _).setCell (by simp; omega) _).setCell (by simp; omega) _⟩
 ·skip
  go_wp2_with (go_at_call 38; refine (specBoxOk _ _ _ _ _).mono ?_; rintro e w1 ⟨rfl, hb⟩; (first | rw [h1] | rw [h2]); replace B := B.trans (hb.mono B.size); replace P0 := P0.below hb; replace P1 := P1.below hb; replace P2 := P2.below hb; clear hb; obtain ⟨a0, a1, a2, a3, _, _⟩ := id P0; obtain ⟨b0, b1, b2, b3, _, _⟩ := id P1; obtain ⟨d0, d1, d2, d3, df, _⟩ := id P2)
  obtain ⟨o1, o2, o3, o4⟩ := HO.out
  rw [o1, o2, o3, o4, h1, h2]
  exact bodyPost_ret (v := _) (by simp [results, Tryz.results94, go_sem, d0, d1, d2, d3]; try rfl) rfl ⟨by simp [jA, jB, jC, jD, h2], (((B.setCell (by simp; omega) _).setCell (by simp; omega) _).setCell (by simp; omega) _).setCell (by simp; omega) _⟩
 ·go_wp2_with (go_at_call 38; refine (specBoxOk _ _ _ _ _).mono ?_; rintro e w1 ⟨rfl, hb⟩; (first | rw [h1] | rw [h2]); replace B := B.trans (hb.mono B.size); replace P0 := P0.below hb; replace P1 := P1.below hb; replace P2 := P2.below hb; clear hb; obtain ⟨a0, a1, a2, a3, _, _⟩ := id P0; obtain ⟨b0, b1, b2, b3, _, _⟩ := id P1; obtain ⟨d0, d1, d2, d3, df, _⟩ := id P2)
  skip
  have bn := below1 w1 (.cells #[.int .i64 a, .int .i64 b, .int .i64 c, .int .i64 d, .int .i64 m, .int .i64 n, .int .i64 r, .int .i64 s] 25)
  have SP := seesP4 w1 a b c d m n r s 25
  replace B := B.trans (bn.mono B.size)
  replace P2 := P2.below bn
  clear bn P0 P1 a0 a1 a2 a3 b0 b1 b2 b3 d0 d1 d2 d3 df
  obtain ⟨e1, e2, e3, e4⟩ := join_of h1 h2
  refine (specBoxOf _ _ _ _ SP).mono ?_
  rintro e w2 ⟨rfl, hb⟩
  rw [e1, e2, e3, e4]
  clear e1 e2 e3 e4 SP
  replace B := B.trans (hb.mono B.size)
  replace P2 := P2.below hb
  clear hb
  have Z2 : w.heap.size + 1 + 1 < w2.heap.size := P2.lt
  obtain ⟨d0, d1, d2, d3, df, _⟩ := id P2
  go_wp2
  exact bodyPost_ret (v := .agg #[.int .i64 (oA a b c d m n r s), .int .i64 (oB a b c d m n r s), .int .i64 (oC a b c d m n r s), .int .i64 (oD a b c d m n r s)]) (by simp [results, Tryz.results94, go_sem, d0, d1, d2, d3, Z2]) rfl ⟨rfl, ((((B.setCell (by simp; omega) _).setCell (by simp; omega) _).setCell (by simp; omega) _).setCell (by simp; omega) _).alloc (by simp; omega) _⟩

end Go.Proofs.YtinlomcaagdbiaaGreat

/- Boxes in a row of a call's own. -/
namespace Go.Proofs.YtinlomcaagdbiaaGreat
open Go.RowKit

def boxC (bs : List Bx) : List Value := bs.flatMap fun b => [.int .i64 b.1, .int .i64 b.2.1, .int .i64 b.2.2.1, .int .i64 b.2.2.2]
theorem boxC_append (ps qs : List Bx) : boxC (ps ++ qs) = boxC ps ++ boxC qs := by simp [boxC]
theorem boxC_at : ∀ (bs : List Bx) (j : Nat), j < bs.length → (boxC bs)[j * 4]? = some (.int .i64 (bxAt bs j).1) ∧ (boxC bs)[j * 4 + 1]? = some (.int .i64 (bxAt bs j).2.1) ∧ (boxC bs)[j * 4 + 2]? = some (.int .i64 (bxAt bs j).2.2.1) ∧ (boxC bs)[j * 4 + 3]? = some (.int .i64 (bxAt bs j).2.2.2)
 | [], j, h => absurd h (by simp)
 | p :: r, 0, _ => ⟨rfl, rfl, rfl, rfl⟩
 | p :: r, j + 1, h => by
  have ih := boxC_at r j (by simpa using h)
  have e : boxC (p :: r) = [.int .i64 p.1, .int .i64 p.2.1, .int .i64 p.2.2.1, .int .i64 p.2.2.2] ++ boxC r := rfl
  have eb : bxAt (p :: r) (j + 1) = bxAt r j := rfl
  rw [e, eb, show (j + 1) * 4 = 4 + j * 4 by omega, show 4 + j * 4 + 1 = 4 + (j * 4 + 1) by omega, show 4 + j * 4 + 2 = 4 + (j * 4 + 2) by omega, show 4 + j * 4 + 3 = 4 + (j * 4 + 3) by omega, List.getElem?_append_right (by simp), List.getElem?_append_right (by simp), List.getElem?_append_right (by simp), List.getElem?_append_right (by simp)]
  simpa using ih
theorem boxC_ones (bs : List Bx) : ∀ u ∈ boxC bs, u.oneCell' = true := by
 intro u hu
 simp only [boxC, List.mem_flatMap] at hu
 obtain ⟨p, _, h⟩ := hu
 simp only [List.mem_cons, List.not_mem_nil, or_false] at h
 rcases h with rfl | rfl | rfl | rfl <;> rfl
def RowBx (base : Nat) (w : World) (v : Value) (bs : List Bx) : Prop := w.ownsRow base 27 4 v bs.length (boxC bs)
theorem RowBx.empty (w : World) {base : Nat} (h : base ≤ w.heap.size) : RowBx base (w.alloc (.cells #[] 27)) (.slice (some ⟨w.heap.size, 0, none⟩) 0 0) [] :=
 ⟨rfl, .inr ⟨w.heap.size, 0, #[], rfl, h, heap_alloc_new _ _, Nat.le_refl _, by simp [maxLen], rfl, rfl⟩⟩
theorem RowBx.snoc {base : Nat} {w : World} {v : Value} {bs : List Bx} {x : Bx} (h : w.ownsRow base 27 4 v (bs.length + 1) (boxC bs ++ boxC [x])) : RowBx base w v (bs ++ [x]) := by
 unfold RowBx
 rw [boxC_append, List.length_append]
 exact h
theorem RowBx.sees {base : Nat} {w : World} {v : Value} {bs : List Bx} (h : RowBx base w v bs) : ∃ a cap, v = .slice a bs.length cap ∧ SeesX w a cap bs := by
 rcases h.2 with ⟨hv, h0⟩ | ⟨q, cap', cur, hv, hb, hh, hf, hm, hs, ht⟩
 ·exact ⟨none, 0, by rw [hv, h0], ⟨by omega, by simp [maxLen], fun hn => absurd (List.eq_nil_of_length_eq_zero h0) hn⟩⟩
 ·refine ⟨_, cap', hv, hf, hm, fun _ => ⟨q, 0, rfl, fun i hi => ?_⟩⟩
  have c : ∀ k u, (boxC bs)[k]? = some u → w.cell? ⟨q, 0 + k, none⟩ = some u := by
   intro k u hk
   rw [← ht] at hk
   have hk2 : k < bs.length * 4 := by
    have := (List.getElem?_eq_some_iff.mp hk).1
    rw [List.length_take] at this
    omega
   rw [List.getElem?_take_of_lt hk2] at hk
   rw [Nat.zero_add]
   exact (cell_of_row w q k _ _ _ hh).trans (by simpa using hk)
  obtain ⟨c1, c2, c3, c4⟩ := boxC_at bs i hi
  exact ⟨c _ _ c1, by have := c _ _ c2; rwa [← Nat.add_assoc] at this, by have := c _ _ c3; rwa [← Nat.add_assoc] at this, by have := c _ _ c4; rwa [← Nat.add_assoc] at this⟩
theorem box_new (w : World) (e : TypeId) (x y u v : Int) : ∀ j z, (boxC [(x, y, u, v)])[j]? = some z → (w.alloc (.cells #[.int .i64 x, .int .i64 y, .int .i64 u, .int .i64 v] e)).cell? ((⟨w.heap.size, 0, none⟩ : Addr).add j) = some z := by
 intro j z hz
 rcases j with _ | _ | _ | _ | j
 ·simp [boxC] at hz; subst hz; exact cell_new w #[.int .i64 x, .int .i64 y, .int .i64 u, .int .i64 v] e 0 rfl
 ·simp [boxC] at hz; subst hz; exact cell_new w #[.int .i64 x, .int .i64 y, .int .i64 u, .int .i64 v] e 1 rfl
 ·simp [boxC] at hz; subst hz; exact cell_new w #[.int .i64 x, .int .i64 y, .int .i64 u, .int .i64 v] e 2 rfl
 ·simp [boxC] at hz; subst hz; exact cell_new w #[.int .i64 x, .int .i64 y, .int .i64 u, .int .i64 v] e 3 rfl
 ·simp [boxC] at hz
end Go.Proofs.YtinlomcaagdbiaaGreat

/- The specification's helpers on trees: l15Leaf, l15Join, l15KidBoxes. -/
namespace Go.Proofs.YtinlomcaagdbiaaGreat
open Go.RowKit

def jnB (x y : Bx) : Bx := (oA x.1 x.2.1 x.2.2.1 x.2.2.2 y.1 y.2.1 y.2.2.1 y.2.2.2, oB x.1 x.2.1 x.2.2.1 x.2.2.2 y.1 y.2.1 y.2.2.1 y.2.2.2, oC x.1 x.2.1 x.2.2.1 x.2.2.2 y.1 y.2.1 y.2.2.1 y.2.2.2, oD x.1 x.2.1 x.2.2.1 x.2.2.2 y.1 y.2.1 y.2.2.1 y.2.2.2)
def jnU (bs : List Bx) : Nat → Bx
 | 0 => (0, 0, 0, 0)
 | 1 => bxAt bs 0
 | j + 2 => jnB (jnU bs (j + 1)) (bxAt bs (j + 1))
def jnS (bs : List Bx) : Bx := jnU bs bs.length
theorem fourW {w : World} {p q k : Nat} (ne : q ≠ p) (u0 u1 u2 u3 : Value) : ((((w.setCell ⟨p, 0, none⟩ u0).setCell ⟨p, 1, none⟩ u1).setCell ⟨p, 2, none⟩ u2).setCell ⟨p, 3, none⟩ u3).cell? ⟨q, k, none⟩ = w.cell? ⟨q, k, none⟩ :=
 (cell_other (.inl (Ne.symm ne)) u3).trans ((cell_other (.inl (Ne.symm ne)) u2).trans ((cell_other (.inl (Ne.symm ne)) u1).trans (cell_other (.inl (Ne.symm ne)) u0)))
def bxV (x : Bx) : Value := .agg #[.int .i64 x.1, .int .i64 x.2.1, .int .i64 x.2.2.1, .int .i64 x.2.2.2]

set_option maxRecDepth 20000 in
theorem l15Leaf_any (t : Nd) (v1 v2 v3 : Value) (w : World) (h : NdIn 0 w t v1 v2 v3) :
  Calls Tryz.prog 70 #[ndV t v1 v2 v3] w fun e w' => e = .returned (.bool (decide (t.ks = []))) ∧ Below w.heap.size w w' := by
 obtain ⟨b, bs, is, ks⟩ := t
 obtain ⟨a1, c1, a2, c2, a3, c3, rfl, rfl, rfl, s1, _, s2, _, s3⟩ := h.open
 obtain ⟨x1, x2, x3, x4⟩ := b
 simp only [Nd.bs, Nd.is, Nd.ks] at s1 s2 s3
 have l3 := lenN s3
 have B := below1 w (.cells #[.int .i64 x1, .int .i64 x2, .int .i64 x3, .int .i64 x4, .slice a1 bs.length c1, .slice a2 is.length c2, .slice a3 ks.length c3] 32)
 have V := Sev.new w x1 x2 x3 x4 (.slice a1 bs.length c1) (.slice a2 is.length c2) (.slice a3 ks.length c3) 32
 obtain ⟨_, k4, k5, k6⟩ := id V
 simp only [Nat.zero_add] at k4 k5 k6
 show Calls Tryz.prog 70 #[.agg #[.int .i64 x1, .int .i64 x2, .int .i64 x3, .int .i64 x4, .slice a1 bs.length c1, .slice a2 is.length c2, .slice a3 ks.length c3]] w fun e w' => e = .returned (.bool (decide (ks = []))) ∧ Below w.heap.size w w'
 have e : Hid (decide (ks = []) = ((ks.length : Int) == 0)) := by
  show _ = _
  rw [Bool.eq_iff_iff]
  simp
 obtain ⟨f, hf⟩ : ∃ f, ((ks.length : Int) == 0) = f := ⟨_, rfl⟩
 go_enter Tryz.func70, Tryz.ntmps70
 go_wp2
 go_ret
 exact ⟨by rw [e.out, hf]; rfl, B⟩

set_option maxRecDepth 20000 in
set_option maxHeartbeats 4000000 in
theorem l15Join_any (a : Option Addr) (c : Nat) (bs : List Bx) (w : World) (h : SeesX w a c bs) :
  Calls Tryz.prog 71 #[.slice a bs.length c] w fun e w' => e = .returned (bxV (jnS bs)) ∧ Below w.heap.size w w' := by
 have hm := lenX h
 have B0 := below2 w (.cells #[.int .i64 0, .int .i64 0, .int .i64 0, .int .i64 0] 27) (.cells #[.int .i64 0, .int .i64 0, .int .i64 0, .int .i64 0] 27)
 have RR := (Box4.new w (lo := w.heap.size) (Nat.le_refl _) (.int .i64 0) (.int .i64 0) (.int .i64 0) (.int .i64 0) 27).below (below1 _ (.cells #[.int .i64 0, .int .i64 0, .int .i64 0, .int .i64 0] 27))
 have O := Box4.new (w.alloc (.cells #[.int .i64 0, .int .i64 0, .int .i64 0, .int .i64 0] 27)) (lo := w.heap.size) (by simp) (.int .i64 0) (.int .i64 0) (.int .i64 0) (.int .i64 0) 27
 rw [World.size_alloc] at O
 go_enter Tryz.func71, Tryz.ntmps71
 go_wp2
 generalize (w.alloc (.cells #[.int .i64 0, .int .i64 0, .int .i64 0, .int .i64 0] 27)).alloc (.cells #[.int .i64 0, .int .i64 0, .int .i64 0, .int .i64 0] 27) = W0 at *
 go_loopw [4] (fun s4 wr => ∃ (j : Nat) (y : Bx), j ≤ bs.length ∧ s4 = .int .i64 j ∧ Hid (jnU bs j = y) ∧ Box4 w.heap.size wr (w.heap.size + 1) (.int .i64 y.1) (.int .i64 y.2.1) (.int .i64 y.2.2.1) (.int .i64 y.2.2.2) ∧ Box4 w.heap.size wr w.heap.size (.int .i64 0) (.int .i64 0) (.int .i64 0) (.int .i64 0) ∧ Below w.heap.size w wr) (fun s4 _ => bs.length - (intOf s4).toNat)
 case atStart => exact ⟨0, (0, 0, 0, 0), Nat.zero_le _, rfl, rfl, O, RR, B0⟩
 case round =>
  clear O RR B0
  obtain ⟨j, y, hj, rfl, J, O, RR, B⟩ := hrel
  rename World => wr
  obtain ⟨y1, y2, y3, y4⟩ := y
  dsimp only at O
  by_cases hlt : j < bs.length
  ·obtain ⟨b1, o1, rfl, hc⟩ := (h.below B).cells (by intro e; simp [e] at hlt)
   have hb1 : b1 < w.heap.size := by
    obtain ⟨b2, o2, e2, hc2⟩ := h.cells (by intro e; simp [e] at hlt)
    injection e2 with e2; injection e2 with e2
    have q : b2 < w.heap.size := World.block_lt_of_cell? _ _ (hc2 j hlt).1
    omega
   by_cases h0 : j = 0
   ·subst h0
    obtain ⟨g1, g2, g3, g4⟩ := hc 0 hlt
    have HJ : Hid (jnU bs (0 + 1) = bxAt bs 0) := (rfl : jnU bs 1 = _)
    generalize bxAt bs 0 = x at *
    obtain ⟨x1, x2, x3, x4⟩ := x
    dsimp only at g1 g2 g3 g4
    simp only [Nat.zero_mul, Nat.add_zero] at g1 g2 g3 g4
    obtain ⟨z0, z1, z2, z3, zf, _⟩ := id O
    have O' := O.put (.int .i64 x1) (.int .i64 x2) (.int .i64 x3) (.int .i64 x4)
    have RR' := RR.old (p := w.heap.size + 1) (by omega) (.int .i64 x1) (.int .i64 x2) (.int .i64 x3) (.int .i64 x4)
    have B' := Box4.chain B O (.int .i64 x1) (.int .i64 x2) (.int .i64 x3) (.int .i64 x4)
    clear hc O RR B
    go_wp2
    go_roundw
    case rel => exact ⟨1, (x1, x2, x3, x4), by omega, rfl, HJ, O', RR', B'⟩
    case measure => simp [intOf]; omega
   ·have e0 : ((j : Int) == 0) = false := by simp; omega
    obtain ⟨g1, g2, g3, g4⟩ := hc j hlt
    have HJ : Hid (jnU bs (j + 1) = jnB (y1, y2, y3, y4) (bxAt bs j)) := by
     obtain ⟨i, rfl⟩ : ∃ i, j = i + 1 := ⟨j - 1, by omega⟩
     show jnB (jnU bs (i + 1)) _ = _
     rw [J.out]
    generalize bxAt bs j = x at *
    obtain ⟨x1, x2, x3, x4⟩ := x
    dsimp only at g1 g2 g3 g4
    have H : Four wr b1 (o1 + j * 4) (x1, x2, x3, x4) := ⟨g1, g2, g3, g4⟩
    clear hc g1 g2 g3 g4
    obtain ⟨n, HN⟩ : ∃ n, Hid (jnB (y1, y2, y3, y4) (x1, x2, x3, x4) = n) := ⟨_, rfl⟩
    obtain ⟨n1, n2, n3, n4⟩ := n
    have HN' : Hid (oA y1 y2 y3 y4 x1 x2 x3 x4 = n1 ∧ oB y1 y2 y3 y4 x1 x2 x3 x4 = n2 ∧ oC y1 y2 y3 y4 x1 x2 x3 x4 = n3 ∧ oD y1 y2 y3 y4 x1 x2 x3 x4 = n4) := by
     have := HN.out
     unfold jnB at this
     simp only [Prod.mk.injEq] at this
     exact this
    go_upto_region 7 with fail
    have N : Below wr.heap.size wr wr.drew := (Below.refl _ _).drew
    replace H := H.below N
    replace B := B.drew
    replace O := O.below N
    replace RR := RR.below N
    refine wp_region_held_drew (S := fun w' => Four w' b1 (o1 + j * 4) (x1, x2, x3, x4)) (by kernel_rfl) H (fun hHeld => ?_)
    clear hHeld
    generalize wr.drew = ww0 at *
    refine takeA (i := 1) (h := ?_)
    refine takeA (i := 2) (h := ?_)
    refine takeA (i := 3) (h := ?_)
    refine takeA (i := 4) (hy := by intro wq hSw; have y0 := hSw.1; have y5 := hSw.2.1; have y6 := hSw.2.2.1; have y7 := hSw.2.2.2; go_simp <;> with_reducible rfl) (h := ?_)
    refine rdA (i := 0) (h := fun K hK => ?_)
    have z0 := O.c0
    have z1 := O.c1
    have z2 := O.c2
    have z3 := O.c3
    go_simp
    clear z0 z1 z2 z3
    refine hK.out _ _ H (fun hHeld => ?_)
    clear hK K hHeld
    try simp only [Act.put, pA, pB, pC]
    refine rdA (i := 5) (h := fun K hK => ?_)
    go_simp
    refine (specJoin y1 y2 y3 y4 x1 x2 x3 x4 _).mono ?_
    rintro e ww1 ⟨rfl, hb⟩
    rw [HN'.out.1, HN'.out.2.1, HN'.out.2.2.1, HN'.out.2.2.2]
    replace O := O.below hb
    replace RR := RR.below hb
    replace H := H.below hb
    replace B := B.trans (hb.mono B.size)
    clear hb
    refine hK.out _ _ H (fun hHeld => ?_)
    clear hK K hHeld
    try simp only [Act.put, pA, pB, pC]
    refine rdA (i := 6) (h := fun K hK => ?_)
    have z0 := O.c0
    have z1 := O.c1
    have z2 := O.c2
    have z3 := O.c3
    have zf := O.fr
    go_simp
    clear z0 z1 z2 z3 zf
    replace B := Box4.chain B O (.int .i64 n1) (.int .i64 n2) (.int .i64 n3) (.int .i64 n4)
    replace RR := RR.old (p := w.heap.size + 1) (by omega) (.int .i64 n1) (.int .i64 n2) (.int .i64 n3) (.int .i64 n4)
    replace O := O.put (.int .i64 n1) (.int .i64 n2) (.int .i64 n3) (.int .i64 n4)
    replace H : Four _ b1 (o1 + j * 4) (x1, x2, x3, x4) := ⟨(fourW (p := w.heap.size + 1) (by omega) (.int .i64 n1) (.int .i64 n2) (.int .i64 n3) (.int .i64 n4)).trans H.1, (fourW (p := w.heap.size + 1) (by omega) (.int .i64 n1) (.int .i64 n2) (.int .i64 n3) (.int .i64 n4)).trans H.2.1, (fourW (p := w.heap.size + 1) (by omega) (.int .i64 n1) (.int .i64 n2) (.int .i64 n3) (.int .i64 n4)).trans H.2.2.1, (fourW (p := w.heap.size + 1) (by omega) (.int .i64 n1) (.int .i64 n2) (.int .i64 n3) (.int .i64 n4)).trans H.2.2.2⟩
    refine hK.out _ _ H (fun hHeld => ?_)
    clear hK K hHeld
    try simp only [Act.put, pA, pB, pC]
    refine wpAnyH_done (by kernel_rfl) ?_ _
    go_wp2
    go_roundw
    case rel => exact ⟨j + 1, (n1, n2, n3, n4), by omega, by go_num, HJ.out.trans HN.out, O, RR, B⟩
    case measure => simp [intOf]; omega
  ·obtain rfl : j = bs.length := by omega
   have HV : Hid (bxV (jnS bs) = .agg #[.int .i64 y1, .int .i64 y2, .int .i64 y3, .int .i64 y4]) := by
    show bxV (jnU bs bs.length) = _
    rw [J.out]
    rfl
   obtain ⟨z0, z1, z2, z3, zf, _⟩ := id O
   obtain ⟨r0, r1, r2, r3, rf, _⟩ := id RR
   have RR' := RR.put (.int .i64 y1) (.int .i64 y2) (.int .i64 y3) (.int .i64 y4)
   have B' := Box4.chain B RR (.int .i64 y1) (.int .i64 y2) (.int .i64 y3) (.int .i64 y4)
   have q0 := RR'.c0
   have q1 := RR'.c1
   have q2 := RR'.c2
   have q3 := RR'.c3
   clear O RR B J RR'
   go_wp2
   exact bodyPost_ret (v := .agg #[.int .i64 y1, .int .i64 y2, .int .i64 y3, .int .i64 y4]) (by simp [results, Tryz.results71, go_sem, q0, q1, q2, q3]) rfl ⟨by rw [HV.out], B'⟩

set_option maxRecDepth 20000 in
set_option maxHeartbeats 4000000 in
theorem l15KidBoxes_any {lo : Nat} (a : Option Addr) (c : Nat) (ks : List Nd) (w : World) (h : NdsIn lo w a c ks) (hl : ks.length ≤ 1000) :
  Calls Tryz.prog 72 #[.slice a ks.length c] w fun e w' => ∃ a' c', e = .returned (.slice a' ks.length c') ∧ SeesX w' a' c' (ks.map Nd.b) ∧ Below w.heap.size w w' := by
 have hm := lenN h
 obtain ⟨iX, hiX, hx0, hx1, hx2⟩ := info_parts infoX
 have R0 := RowBx.empty w (base := w.heap.size) (Nat.le_refl _)
 have B0 := below1 w (.cells #[] 27)
 go_enter Tryz.func72, Tryz.ntmps72
 go_wp2
 go_loopw [3, 4] (fun s3 s4 wr => ∃ (j : Nat) (bs : List Bx), j ≤ ks.length ∧ s4 = .int .i64 j ∧ Hid (bs = (ks.take j).map Nd.b) ∧ Hid (bs.length = j) ∧ Hid (RowBx w.heap.size wr s3 bs) ∧ Below w.heap.size w wr) (fun _ s4 _ => ks.length - (intOf s4).toNat)
 case atStart => exact ⟨0, [], Nat.zero_le _, rfl, rfl, rfl, R0, B0⟩
 case round =>
  clear R0 B0
  obtain ⟨j, bs, hj, rfl, E, L, RR, B⟩ := hrel
  rename World => wr
  by_cases hlt : j < ks.length
  ·obtain ⟨p, o, rfl, hc⟩ := (h.below B).cells (by intro e; simp [e] at hlt)
   obtain ⟨v1, v2, v3, ⟨⟨g0, g1, g2, g3⟩, _, _, _⟩, _⟩ := hc j hlt
   have HE : Hid (bs ++ [(ndA ks j).b] = (ks.take (j + 1)).map Nd.b) := by
    show _ = _
    rw [E.out, List.take_add_one, List.getElem?_eq_getElem hlt, List.map_append]
    unfold ndA
    rw [List.getElem?_eq_getElem hlt]
    rfl
   clear hc E
   obtain ⟨⟨x1, x2, x3, x4⟩, ux⟩ : ∃ x, Hid ((ndA ks j).b = x) := ⟨_, rfl⟩
   rw [ux.out] at g0 g1 g2 g3 HE
   dsimp only at g0 g1 g2 g3
   have hb := below1 wr (.cells #[.int .i64 x1, .int .i64 x2, .int .i64 x3, .int .i64 x4] 27)
   have NW := box_new wr 27 x1 x2 x3 x4
   have R2 : RowBx w.heap.size (wr.alloc (.cells #[.int .i64 x1, .int .i64 x2, .int .i64 x3, .int .i64 x4] 27)) _ bs := owns_below RR.out hb
   have hl' : bs.length ≤ 1000 := by have := L.out; omega
   have B3 := B.trans (hb.mono B.size)
   have hz : w.heap.size ≤ (wr.alloc (.cells #[.int .i64 x1, .int .i64 x2, .int .i64 x3, .int .i64 x4] 27)).heap.size := B3.size
   clear RR hb B
   go_wp2_with (at_builtin; refine wpList_append_own_at _ rfl (.tmp 12) (.tmp 18) 28 rfl w.heap.size 27 iX (.agg #[.int .i64 0, .int .i64 0, .int .i64 0, .int .i64 0]) 4 32 Tryz.underlying28 hiX hx0 hx1 hx2 rfl (by decide) u3 bs.length (boxC bs) rfl R2 ⟨wr.heap.size, 0, none⟩ 1 _ (boxC [(x1, x2, x3, x4)]) rfl rfl NW (boxC_ones _) (by unfold maxLen; omega) (by omega) hz ?_; intro v7 w7 R8 G7 nil7 _; replace R8 := RowBx.snoc R8; clear nil7)
   have B8 := B3.grown G7 B3.size (fun k e => (World.ownsRow.lt R2 _ e).1)
   go_roundw
   case rel => exact ⟨j + 1, _, by omega, by go_num, HE, (by show _ = _; rw [List.length_append, List.length_singleton, L.out]), R8, B8⟩
   case measure => simp [intOf]; omega
  ·obtain rfl : j = ks.length := by omega
   obtain ⟨a', c', rfl, SX⟩ := RR.out.sees
   have F : Hid (SeesX wr a' c' (ks.map Nd.b)) := by have e := E.out; rw [List.take_length] at e; rw [← e]; exact SX
   have e2 := L.out
   rw [e2]
   clear SX E L RR e2
   go_wp2
   go_ret
   exact ⟨a', c', rfl, F.out, B⟩
end Go.Proofs.YtinlomcaagdbiaaGreat

/- Whether a tree is right, of the specification: l15Look, TreeOk. -/
namespace Go.Proofs.YtinlomcaagdbiaaGreat
open Go.RowKit

def okX (x : Bx) : Bool := boxOk x.1 x.2.1 x.2.2.1 x.2.2.2
def allOk (bs : List Bx) : Nat → Bool
 | 0 => true
 | j + 1 => allOk bs j && okX (bxAt bs j)
end Go.Proofs.YtinlomcaagdbiaaGreat

/- Whether a node's form is wrong, of the program: boxWrong, formWrong. -/
namespace Go.Proofs.YtinlomcaagdbiaaGreat
open Go.RowKit

end Go.Proofs.YtinlomcaagdbiaaGreat
