/- A node is told, of the program: (telling).tell. -/
import Derived.Test.YtinlomcaagdbiaaGreatTbS
import Derived.Test.YtinlomcaagdbiaaGreatHeldM
import Derived.Test.YtinlomcaagdbiaaGreatIntsL
import Derived.Test.YtinlomcaagdbiaaGreatTrZ
import Derived.Test.YtinlomcaagdbiaaGreatTbW
import Derived.Laws.AppendOwnNone
import Derived.Deep.Cut
import Derived.Deep.DeepCutAuto
namespace Go.Proofs.YtinlomcaagdbiaaGreat
open Go.RowKit

theorem fr_put4 (w : World) (p o : Nat) (x : Bx) (b k : Nat) : (put4 w p o x).frozen? ⟨b, k, none⟩ = w.frozen? ⟨b, k, none⟩ :=
 (World.frozen?_setCell ..).trans ((World.frozen?_setCell ..).trans ((World.frozen?_setCell ..).trans (World.frozen?_setCell ..)))
theorem TeB.put4 {w wr : World} {l1 l2 : Nat} (h : TeB w wr (l1, l2)) (x : Bx) : TeB w (put4 wr l1 l2 x) (l1, l2) :=
 (((h.put (k := l2) (Nat.le_refl _) (by show l2 < l2 + 7; omega) _).put (k := l2 + 1) (by show l2 ≤ _; omega) (by show l2 + 1 < l2 + 7; omega) _).put (k := l2 + 2) (by show l2 ≤ _; omega) (by show l2 + 2 < l2 + 7; omega) _).put (k := l2 + 3) (by show l2 ≤ _; omega) (by show l2 + 3 < l2 + 7; omega) _
theorem Sev.set4 {w : World} {p o : Nat} {x : Bx} {v1 v2 v3 : Value} (h : Sev w p o x v1 v2 v3) (u : Value) : Sev (w.setCell ⟨p, o + 4, none⟩ u) p o x u v2 v3 := by
 obtain ⟨⟨f0, f1, f2, f3⟩, f4, f5, f6⟩ := h
 have q : ∀ (j : Nat) (v : Value), j ≠ o + 4 → w.cell? ⟨p, j, none⟩ = some v → (w.setCell ⟨p, o + 4, none⟩ u).cell? ⟨p, j, none⟩ = some v := fun j v n e => (cell_other (.inr (Ne.symm n)) _).trans e
 exact ⟨⟨q _ _ (by omega) f0, q _ _ (by omega) f1, q _ _ (by omega) f2, q _ _ (by omega) f3⟩, cell_same f4 _, q _ _ (by omega) f5, q _ _ (by omega) f6⟩
theorem Sev.set5 {w : World} {p o : Nat} {x : Bx} {v1 v2 v3 : Value} (h : Sev w p o x v1 v2 v3) (u : Value) : Sev (w.setCell ⟨p, o + 5, none⟩ u) p o x v1 u v3 := by
 obtain ⟨⟨f0, f1, f2, f3⟩, f4, f5, f6⟩ := h
 have q : ∀ (j : Nat) (v : Value), j ≠ o + 5 → w.cell? ⟨p, j, none⟩ = some v → (w.setCell ⟨p, o + 5, none⟩ u).cell? ⟨p, j, none⟩ = some v := fun j v n e => (cell_other (.inr (Ne.symm n)) _).trans e
 exact ⟨⟨q _ _ (by omega) f0, q _ _ (by omega) f1, q _ _ (by omega) f2, q _ _ (by omega) f3⟩, q _ _ (by omega) f4, cell_same f5 _, q _ _ (by omega) f6⟩
theorem Sev.set6 {w : World} {p o : Nat} {x : Bx} {v1 v2 v3 : Value} (h : Sev w p o x v1 v2 v3) (u : Value) : Sev (w.setCell ⟨p, o + 6, none⟩ u) p o x v1 v2 u := by
 obtain ⟨⟨f0, f1, f2, f3⟩, f4, f5, f6⟩ := h
 have q : ∀ (j : Nat) (v : Value), j ≠ o + 6 → w.cell? ⟨p, j, none⟩ = some v → (w.setCell ⟨p, o + 6, none⟩ u).cell? ⟨p, j, none⟩ = some v := fun j v n e => (cell_other (.inr (Ne.symm n)) _).trans e
 exact ⟨⟨q _ _ (by omega) f0, q _ _ (by omega) f1, q _ _ (by omega) f2, q _ _ (by omega) f3⟩, q _ _ (by omega) f4, q _ _ (by omega) f5, cell_same f6 _⟩
theorem RowBx.nil (base : Nat) (w : World) : RowBx base w (.slice none 0 0) [] := ⟨rfl, .inl ⟨rfl, rfl⟩⟩
theorem rowI_sees {base : Nat} {w : World} {v : Value} {ds : List Int} (h : RowI base w v ds) : ∃ a c, v = .slice a ds.length c ∧ SeesI w a c ds := by
 obtain ⟨a, c, e, h1, h2⟩ := h.shape'
 refine ⟨a, c, e, h1, h2, fun hn => ?_⟩
 obtain ⟨q, cap, e2, _, _⟩ := h.shape hn
 rw [e] at e2
 injection e2 with e3 _ e5
 rw [e, e3] at h
 exact ⟨q, 0, e3, fun i hi => by rw [Nat.zero_add]; exact h.at' hi⟩
theorem teK_take {qs : List Ptr} {q3 j : Nat} (h : j < qs.length) (h0 : (ptAt qs j).2 = 0) : (teK qs q3).take (j + 1) = (teK qs q3).take j ++ [(((ptAt qs j).1, 0), (q3, j * 7))] := by
 have e : (teK qs q3)[j]? = some (((ptAt qs j).1, 0), (q3, j * 7)) := by
  unfold teK
  rw [List.getElem?_zip_eq_some]
  refine ⟨?_, by simp [spots, h]⟩
  have e1 : ptAt qs j = qs[j] := by unfold ptAt; rw [List.getElem?_eq_getElem h]; rfl
  rw [List.getElem?_eq_getElem h, ← e1, ← h0]
 rw [List.take_add_one, e]
 rfl
theorem rowG {w w' : World} {b : Nat} {R : Option Nat} {j : Nat} {z : Value} (h : w.cell? ((⟨b, 0, none⟩ : Addr).add j) = some z) (g : w.grownBy w' R) (ne : some b ≠ R) : w'.cell? ((⟨b, 0, none⟩ : Addr).add j) = some z := by
 rw [Addr.add_lit] at h ⊢
 exact g.cell h ne
def MadeN (W1 : World) (q3 nk : Nat) (W : World) : Prop := W.ownsRow W1.heap.size 32 7 (.slice (some ⟨q3, 0, none⟩) nk nk) nk (madeCells (Value.agg #[.int .i64 0, .int .i64 0, .int .i64 0, .int .i64 0, .slice none 0 0, .slice none 0 0, .slice none 0 0]).cells (nk * 7)).toList
theorem MadeN.grown {W1 W W' : World} {q3 nk : Nat} {R : Option Nat} (h : MadeN W1 q3 nk W) (g : W.grownBy W' R) (hR : R ≠ some q3) : MadeN W1 q3 nk W' := World.ownsRow.kept h g (.inr (fun e => hR (by rw [← e]; rfl)))
structure TlR (p1 l1 l2 ib : Nat) (y : Bx) (n : Int) (W : World) : Prop where
 c : W.cell? ⟨p1, 1, none⟩ = some (.pointer (some ⟨l1, l2, none⟩))
 f : Four W ib 0 y
 g : W.cell? ⟨ib, 4, none⟩ = some (.int .i64 n)
theorem TlR.below {p1 l1 l2 ib : Nat} {y : Bx} {n : Int} {W W' : World} (h : TlR p1 l1 l2 ib y n W) (hb : Below W.heap.size W W') : TlR p1 l1 l2 ib y n W' := ⟨bat hb h.c, h.f.below hb, bat hb h.g⟩
theorem TlR.grown {p1 l1 l2 ib : Nat} {y : Bx} {n : Int} {W W' : World} {R : Option Nat} (h : TlR p1 l1 l2 ib y n W) (g : W.grownBy W' R) (n1 : some p1 ≠ R) (n2 : some ib ≠ R) : TlR p1 l1 l2 ib y n W' :=
 ⟨g.cell h.c n1, ⟨g.cell h.f.1 n2, g.cell h.f.2.1 n2, g.cell h.f.2.2.1 n2, g.cell h.f.2.2.2 n2⟩, g.cell h.g n2⟩
theorem TlR.put {p1 l1 l2 ib q k : Nat} {y : Bx} {n : Int} {W : World} (h : TlR p1 l1 l2 ib y n W) (n1 : p1 ≠ q) (n2 : ib ≠ q) (u : Value) : TlR p1 l1 l2 ib y n (W.setCell ⟨q, k, none⟩ u) :=
 h.grown (R := some q) (grownBy_setCell (grownBy_refl _ _) rfl u) (fun e => n1 (by injection e)) (fun e => n2 (by injection e))
structure LpA (W1 : World) (l1 l2 : Nat) (x : Bx) (q3 nk : Nat) (u1 u2 v1 v2 : Value) (bs : List Bx) (is : List Int) (W : World) : Prop where
 s : Sev W l1 l2 x u1 u2 (.slice (some ⟨q3, 0, none⟩) nk nk)
 r1 : RowBx W1.heap.size W v1 bs
 r2 : RowI W1.heap.size W v2 is
 r3 : MadeN W1 q3 nk W
 fr : ∀ o, W.frozen? ⟨l1, o, none⟩ = false
 te : TeB W1 W (l1, l2)
 lt : l1 < W1.heap.size
theorem LpA.lo {W1 W : World} {l1 l2 q3 nk : Nat} {x : Bx} {u1 u2 v1 v2 : Value} {bs : List Bx} {is : List Int} (h : LpA W1 l1 l2 x q3 nk u1 u2 v1 v2 bs is W) : W.cell? ⟨l1, l2 + 4, none⟩ = some u1 ∧ W.cell? ⟨l1, l2 + 5, none⟩ = some u2 := ⟨h.s.c4, h.s.c5⟩
theorem LpA.n3 {W1 W : World} {l1 l2 q3 nk : Nat} {x : Bx} {u1 u2 v1 v2 : Value} {bs : List Bx} {is : List Int} (h : LpA W1 l1 l2 x q3 nk u1 u2 v1 v2 bs is W) : ∃ cs, W.heap[q3]? = some (.cells cs 32 (0, 0)) := by
 rcases h.r3.2 with ⟨hv, _⟩ | ⟨g, cap', cur, hv, _, hh, _⟩
 ·cases hv
 ·injection hv with e1 _ _
  injection e1 with e1
  injection e1 with e1 _
  exact ⟨cur, by rw [e1]; exact hh⟩
theorem owns_ty {base e s n : Nat} {w : World} {v : Value} {xs : List Value} (h : w.ownsRow base e s v n xs) (k : Nat) (hk : v.ownBlock = some k) : ∃ cs : Array Value, w.heap[k]? = some (.cells cs e (0, 0)) := by
 rcases h.2 with ⟨hv, h0⟩ | ⟨g, cap', cur, hv, hb, hh, r⟩
 ·rw [hv] at hk; cases hk
 ·rw [hv] at hk
  injection hk with hk
  exact ⟨cur, by rw [← hk]; exact hh⟩
theorem ty_ne {w : World} {e e' : TypeId} {a b : Option Nat} (h : ∀ k, a = some k → ∃ cs : Array Value, w.heap[k]? = some (.cells cs e (0, 0))) (h' : ∀ k, b = some k → ∃ cs : Array Value, w.heap[k]? = some (.cells cs e' (0, 0))) (ne : e ≠ e') : a = none ∨ a ≠ b := by
 cases a with
 | none => exact .inl rfl
 | some k =>
  right
  intro q
  obtain ⟨c1, e1⟩ := h k rfl
  obtain ⟨c2, e2⟩ := h' k q.symm
  rw [e1] at e2
  injection e2 with e2
  injection e2 with _ e2 _
  exact ne e2
theorem LpA.below {W1 W W' : World} {l1 l2 q3 nk : Nat} {x : Bx} {u1 u2 v1 v2 : Value} {bs : List Bx} {is : List Int} (h : LpA W1 l1 l2 x q3 nk u1 u2 v1 v2 bs is W) (hb : Below W.heap.size W W') : LpA W1 l1 l2 x q3 nk u1 u2 v1 v2 bs is W' :=
 ⟨h.s.below hb, owns_below h.r1 hb, h.r2.below hb, owns_below h.r3 hb, fun o => (World.frozen?_of_block (a := ⟨l1, o, none⟩) (hb.block _ (Nat.lt_of_lt_of_le h.lt h.te.g.size))).trans (h.fr o), h.te.more hb, h.lt⟩
theorem LpA.app1 {W1 W W' : World} {l1 l2 q3 nk : Nat} {x : Bx} {u1 u2 v1 v2 v1' : Value} {bs bs' : List Bx} {is : List Int} (h : LpA W1 l1 l2 x q3 nk u1 u2 v1 v2 bs is W) (g : W.grownBy W' v1.ownBlock) (R : RowBx W1.heap.size W' v1' bs') : LpA W1 l1 l2 x q3 nk u1 u2 v1' v2 bs' is W' := by
 have hlo : ∀ k, v1.ownBlock = some k → W1.heap.size ≤ k := fun k hk => (World.ownsRow.lt h.r1 k hk).1
 have nl : some l1 ≠ v1.ownBlock := fun e => by have := hlo l1 e.symm; have := h.lt; omega
 refine ⟨sev_grown h.s g nl, R, World.ownsRow.kept h.r2 g (ty_ne (owns_ty h.r2) (owns_ty h.r1) (by decide)), h.r3.grown g ?_, fun o => (grown_fr g (Nat.lt_of_lt_of_le h.lt h.te.g.size) nl o).trans (h.fr o), h.te.grown g hlo, h.lt⟩
 intro e
 obtain ⟨c1, e1⟩ := owns_ty h.r1 q3 e
 obtain ⟨c2, e2⟩ := h.n3
 rw [e1] at e2
 injection e2 with e2
 injection e2 with _ e2 _
 exact absurd e2 (by decide)
theorem LpA.app2 {W1 W W' : World} {l1 l2 q3 nk : Nat} {x : Bx} {u1 u2 v1 v2 v2' : Value} {bs : List Bx} {is is' : List Int} (h : LpA W1 l1 l2 x q3 nk u1 u2 v1 v2 bs is W) (g : W.grownBy W' v2.ownBlock) (R : RowI W1.heap.size W' v2' is') : LpA W1 l1 l2 x q3 nk u1 u2 v1 v2' bs is' W' := by
 have hlo : ∀ k, v2.ownBlock = some k → W1.heap.size ≤ k := fun k hk => (World.ownsRow.lt h.r2 k hk).1
 have nl : some l1 ≠ v2.ownBlock := fun e => by have := hlo l1 e.symm; have := h.lt; omega
 refine ⟨sev_grown h.s g nl, World.ownsRow.kept h.r1 g (ty_ne (owns_ty h.r1) (owns_ty h.r2) (by decide)), R, h.r3.grown g ?_, fun o => (grown_fr g (Nat.lt_of_lt_of_le h.lt h.te.g.size) nl o).trans (h.fr o), h.te.grown g hlo, h.lt⟩
 intro e
 obtain ⟨c1, e1⟩ := owns_ty h.r2 q3 e
 obtain ⟨c2, e2⟩ := h.n3
 rw [e1] at e2
 injection e2 with e2
 injection e2 with _ e2 _
 exact absurd e2 (by decide)
theorem LpA.rows {W1 W : World} {l1 l2 q3 nk k : Nat} {x : Bx} {u1 u2 v1 v2 : Value} {bs : List Bx} {is : List Int} (h : LpA W1 l1 l2 x q3 nk u1 u2 v1 v2 bs is W) (u : Value) : RowBx W1.heap.size (W.setCell ⟨l1, k, none⟩ u) v1 bs ∧ RowI W1.heap.size (W.setCell ⟨l1, k, none⟩ u) v2 is ∧ MadeN W1 q3 nk (W.setCell ⟨l1, k, none⟩ u) := by
 have g : W.grownBy (W.setCell ⟨l1, k, none⟩ u) (some l1) := grownBy_setCell (grownBy_refl _ _) rfl u
 have ne : ∀ {base e s n : Nat} {v : Value} {xs : List Value}, W.ownsRow base e s v n xs → W1.heap.size ≤ base → v.ownBlock = none ∨ v.ownBlock ≠ some l1 := fun {base e s n v xs} r hb => by
  cases q : v.ownBlock with
  | none => exact .inl rfl
  | some j => exact .inr (fun e => by injection e with e; have := (World.ownsRow.lt r j q).1; have := h.lt; omega)
 exact ⟨World.ownsRow.kept h.r1 g (ne h.r1 (Nat.le_refl _)), World.ownsRow.kept h.r2 g (ne h.r2 (Nat.le_refl _)), World.ownsRow.kept h.r3 g (ne h.r3 (Nat.le_refl _))⟩
theorem LpA.st1 {W1 W : World} {l1 l2 q3 nk : Nat} {x : Bx} {u1 u2 v1 v2 : Value} {bs : List Bx} {is : List Int} (h : LpA W1 l1 l2 x q3 nk u1 u2 v1 v2 bs is W) : LpA W1 l1 l2 x q3 nk v1 u2 v1 v2 bs is (W.setCell ⟨l1, l2 + 4, none⟩ v1) := by
 obtain ⟨r1, r2, r3⟩ := h.rows (k := l2 + 4) v1
 exact ⟨h.s.set4 v1, r1, r2, r3, fun o => (World.frozen?_setCell ..).trans (h.fr o), h.te.put (k := l2 + 4) (by show l2 ≤ _; omega) (by show l2 + 4 < l2 + 7; omega) _, h.lt⟩
theorem LpA.st2 {W1 W : World} {l1 l2 q3 nk : Nat} {x : Bx} {u1 u2 v1 v2 : Value} {bs : List Bx} {is : List Int} (h : LpA W1 l1 l2 x q3 nk u1 u2 v1 v2 bs is W) : LpA W1 l1 l2 x q3 nk u1 v2 v1 v2 bs is (W.setCell ⟨l1, l2 + 5, none⟩ v2) := by
 obtain ⟨r1, r2, r3⟩ := h.rows (k := l2 + 5) v2
 exact ⟨h.s.set5 v2, r1, r2, r3, fun o => (World.frozen?_setCell ..).trans (h.fr o), h.te.put (k := l2 + 5) (by show l2 ≤ _; omega) (by show l2 + 5 < l2 + 7; omega) _, h.lt⟩

set_option maxRecDepth 100000 in
set_option maxHeartbeats 8000000 in
theorem tell_any {w0 : World} (p l1 l2 : Nat) (t : Nd) (w : World) (K : WkAt w0 p t) (B0 : Below w0.heap.size w0 w) (hl : w0.heap.size ≤ l1) (Z : Sev w l1 l2 (0, 0, 0, 0) (.slice none 0 0) (.slice none 0 0) (.slice none 0 0)) (FR0 : ∀ o, w.frozen? ⟨l1, o, none⟩ = false) (hsz : ndSz t ≤ 1048576) :
  Calls Tryz.prog 44 #[.agg #[.pointer (some ⟨p, 0, none⟩), .pointer (some ⟨l1, l2, none⟩)]] w fun e w' => ∃ v qk q3, e = .returned v ∧ RowTe w.heap.size w' v (teK qk q3) ∧ WkL w0 qk t.ks ∧ Told w w' (l1, l2) t q3 ∧ TeB w w' (l1, l2) := by
 obtain ⟨a1, c1, a2, c2, qs, K6, SI, SQ, KL, _, _⟩ := K.open
 obtain ⟨iN, hiN, hN0, hN1, hN2⟩ := info_parts infoN
 obtain ⟨iB, hiB, hB0, hB1, hB2⟩ := info_parts infoX
 obtain ⟨iI, hiI, hI0, hI1, hI2⟩ := info_parts infoI
 obtain ⟨iT, hiT, hT0, hT1, hT2⟩ := info_parts infoTe
 have hll : l1 < w.heap.size := World.block_lt_of_cell? _ _ Z.c6
 have hpl0 : p < w0.heap.size := K6.lt
 have hkl : qs.length = t.ks.length := KL.1
 have hns : t.bs.length ≤ 1048576 ∧ t.ks.length ≤ 1048576 := by obtain ⟨b, bs, is, ks⟩ := t; simp only [ndSz] at hsz; exact ⟨by show bs.length ≤ _; omega, by show ks.length ≤ _; omega⟩
 have hil : t.bs.length = t.is.length := SI.len
 have SIo : ∀ b off, a1 = some ⟨b, off, none⟩ → t.bs.length ≤ 0 ∨ b < w0.heap.size := fun b off e => by
  by_cases h0 : t.bs = []
  ·exact .inl (by rw [h0]; exact Nat.le_refl _)
  ·obtain ⟨b', off', e', hc⟩ := SI.cells h0
   rw [e] at e'
   injection e' with e'
   injection e' with e1 _
   exact .inr (by rw [e1]; exact World.block_lt_of_cell? _ _ (hc 0 (List.length_pos_iff.2 h0)).2)
 have SQo : ∀ b off, a2 = some ⟨b, off, none⟩ → qs.length ≤ 0 ∨ b < w0.heap.size := fun b off e => by
  by_cases h0 : qs = []
  ·exact .inl (by rw [h0]; exact Nat.le_refl _)
  ·obtain ⟨b', off', e', hc⟩ := SQ.cells h0
   rw [e] at e'
   injection e' with e'
   injection e' with e1 _
   exact .inr (by rw [e1]; exact World.block_lt_of_cell? _ _ (hc 0 (List.length_pos_iff.2 h0)))
 have hb1 := below1 w (.cells #[.pointer (some ⟨p, 0, none⟩), .pointer (some ⟨l1, l2, none⟩)] 87)
 have P1 := Box2.new w (lo := w.heap.size) (Nat.le_refl _) (.pointer (some ⟨p, 0, none⟩)) (.pointer (some ⟨l1, l2, none⟩)) 87
 have TW : Hid (TeB w (w.alloc (.cells #[.pointer (some ⟨p, 0, none⟩), .pointer (some ⟨l1, l2, none⟩)] 87)) (l1, l2)) := (TeB.refl _ _).more hb1
 replace Z := Z.below hb1
 replace K6 := (K6.below B0).below hb1
 replace SI := (SI.below B0).below hb1
 replace SQ := (SQ.below B0).below hb1
 have BB : Hid (Below w0.heap.size w0 (w.alloc (.cells #[.pointer (some ⟨p, 0, none⟩), .pointer (some ⟨l1, l2, none⟩)] 87))) := B0.trans (hb1.mono B0.size)
 have FR : ∀ o, (w.alloc (.cells #[.pointer (some ⟨p, 0, none⟩), .pointer (some ⟨l1, l2, none⟩)] 87)).frozen? ⟨l1, o, none⟩ = false := fun o => (World.frozen?_of_block (a := ⟨l1, o, none⟩) (hb1.block _ hll)).trans (FR0 o)
 have HSZ : Hid (w.heap.size < (w.alloc (.cells #[.pointer (some ⟨p, 0, none⟩), .pointer (some ⟨l1, l2, none⟩)] 87)).heap.size) := by show _ < _; simp
 obtain ⟨⟨x1, x2, x3, x4⟩, ux⟩ : ∃ x, Hid (t.b = x) := ⟨_, rfl⟩
 rw [ux.out] at K6
 have hpw : p < w.heap.size := Nat.lt_of_lt_of_le hpl0 B0.size
 have SIold : ∀ b off, a1 = some ⟨b, off, none⟩ → t.bs.length ≤ 0 ∨ b < w0.heap.size := SIo
 have SQold : ∀ b off, a2 = some ⟨b, off, none⟩ → qs.length ≤ 0 ∨ b < w0.heap.size := SQo
 clear hb1 FR0 B0 K SIo SQo
 go_enter Tryz.func44, Tryz.ntmps44
 go_upto_region 1 with fail
 generalize w.alloc (.cells #[.pointer (some ⟨p, 0, none⟩), .pointer (some ⟨l1, l2, none⟩)] 87) = W1 at *
 have hW1 := HSZ.out
 have TWto : ∀ {W : World}, TeB W1 W (l1, l2) → TeB w W (l1, l2) := fun {W} h => ⟨grownBy_trans TW.out.g h.g, fun b k v e n => h.at' b k v (TW.out.at' b k v e n) n, fun b o hb e => h.fr b o (Nat.lt_of_lt_of_le hb TW.out.g.size) (TW.out.fr b o hb e)⟩
 have hpW : p < W1.heap.size := by omega
 obtain ⟨g0, g1, _, _⟩ := id P1
 obtain ⟨⟨k0, k1, k2, k3⟩, k4, k5, _, _⟩ := id K6
 simp only [Nat.zero_add] at k0 k1 k2 k3
 have nP : ∀ k, ¬ (w.heap.size = ((l1, l2) : Ptr).1 ∧ ((l1, l2) : Ptr).2 ≤ k ∧ k < ((l1, l2) : Ptr).2 + 7) := fun k h => by have := h.1; dsimp only at this; omega
 have nK : ∀ k, ¬ (p = ((l1, l2) : Ptr).1 ∧ ((l1, l2) : Ptr).2 ≤ k ∧ k < ((l1, l2) : Ptr).2 + 7) := fun k h => by have := h.1; dsimp only at this; omega
 have hnk := hns.2
 obtain ⟨nk, hnk'⟩ : ∃ n, t.ks.length = n := ⟨_, rfl⟩
 have HNK : Hid (t.ks.length = nk) := hnk'
 rw [hnk'] at k5 hnk hkl
 clear hnk'
 go_cut [] (fun W => ∃ q3 : Nat, W1.heap.size ≤ q3 ∧ Sev W l1 l2 (x1, x2, x3, x4) (.slice none 0 0) (.slice none 0 0) (.slice (some ⟨q3, 0, none⟩) nk nk) ∧ MadeN W1 q3 nk W ∧ (∀ o, W.frozen? ⟨l1, o, none⟩ = false) ∧ TeB W1 W (l1, l2))
 case first =>
  as_aux_lemma =>
   rename_i hcJ hcK
   have RMput : ∀ {q3 : Nat} {W : World}, MadeN W1 q3 nk W → W1.heap.size ≤ q3 → MadeN W1 q3 nk (put4 W l1 l2 (x1, x2, x3, x4)) := fun {q3 W} h hq => by
    have s : ∀ {W : World} {k : Nat} {u : Value}, MadeN W1 q3 nk W → MadeN W1 q3 nk (W.setCell ⟨l1, k, none⟩ u) := fun {W k u} h => h.grown (R := some l1) (grownBy_setCell (grownBy_refl _ _) rfl u) (fun e => by injection e with e; omega)
    exact s (s (s (s h)))
   have RMput1 : ∀ {q3 : Nat} {W : World}, MadeN W1 q3 nk W → W1.heap.size ≤ q3 → ∀ k u, MadeN W1 q3 nk (W.setCell ⟨l1, k, none⟩ u) := fun {q3 W} h hq k u => h.grown (R := some l1) (grownBy_setCell (grownBy_refl _ _) rfl u) (fun e => by injection e with e; omega)
   have NT := (TeB.refl W1 (l1, l2)).more (Below.refl W1.heap.size W1).drew
   have ZL := Z.below (Below.refl W1.heap.size W1).drew
   have FRd : ∀ o, W1.drew.frozen? ⟨l1, o, none⟩ = false := FR
   replace FR := FRd
   have NL : True := trivial
   clear FRd Z K6 SI SQ KL BB TW P1 TWto SIold SQold
   refine wp_region_M 21 (fun _ => True) (fun W => TeB W1 W (l1, l2)) (by kernel_rfl) ?_
   generalize W1.drew = ww0 at *
   refine takeT (i := 0) (by simp only [List.getElem?_toArray, List.getElem?_cons_zero]; exact rfl) (by kernel_rfl) (by kernel_rfl) (by kernel_rfl) (by exact fun _ _ _ h => h) (by decide) (by rfl) (by intro wq hSw; go_simp <;> with_reducible rfl) ⟨NT, .inr NL⟩ ?_
   try simp only [Act.put, pA, pB, pC]
   refine takeT (i := 1) (by simp only [List.getElem?_toArray, List.getElem?_cons_succ, List.getElem?_cons_zero]; exact rfl) (by kernel_rfl) (by kernel_rfl) (by kernel_rfl) (by exact fun _ _ _ h => h) (by decide) (by rfl) (by intro wq hSw; have y0 := hSw.at' _ _ _ g0 (nP _); have y1 := hSw.at' _ _ _ g1 (nP _); have z0 := hSw.at' _ _ _ k0 (nK _); have z1 := hSw.at' _ _ _ k1 (nK _); have z2 := hSw.at' _ _ _ k2 (nK _); have z3 := hSw.at' _ _ _ k3 (nK _); have z5 := hSw.at' _ _ _ k5 (nK _); go_simp <;> with_reducible rfl) ⟨NT, .inr NL⟩ ?_
   try simp only [Act.put, pA, pB, pC]
   refine takeT (i := 2) (by simp only [List.getElem?_toArray, List.getElem?_cons_succ, List.getElem?_cons_zero]; exact rfl) (by kernel_rfl) (by kernel_rfl) (by kernel_rfl) (by exact fun _ _ _ h => h) (by decide) (by rfl) (by intro wq hSw; go_simp <;> with_reducible rfl) ⟨NT, .inr NL⟩ ?_
   try simp only [Act.put, pA, pB, pC]
   refine takeT (i := 3) (by simp only [List.getElem?_toArray, List.getElem?_cons_succ, List.getElem?_cons_zero]; exact rfl) (by kernel_rfl) (by kernel_rfl) (by kernel_rfl) (by exact fun _ _ _ h => h) (by decide) (by rfl) (by intro wq hSw; have y0 := hSw.at' _ _ _ g0 (nP _); have y1 := hSw.at' _ _ _ g1 (nP _); have z0 := hSw.at' _ _ _ k0 (nK _); have z1 := hSw.at' _ _ _ k1 (nK _); have z2 := hSw.at' _ _ _ k2 (nK _); have z3 := hSw.at' _ _ _ k3 (nK _); have z5 := hSw.at' _ _ _ k5 (nK _); go_simp <;> with_reducible rfl) ⟨NT, .inr NL⟩ ?_
   try simp only [Act.put, pA, pB, pC]
   refine takeT (i := 4) (by simp only [List.getElem?_toArray, List.getElem?_cons_succ, List.getElem?_cons_zero]; exact rfl) (by kernel_rfl) (by kernel_rfl) (by kernel_rfl) (by exact fun _ _ _ h => h) (by decide) (by rfl) (by intro wq hSw; go_simp <;> with_reducible rfl) ⟨NT, .inr NL⟩ ?_
   try simp only [Act.put, pA, pB, pC]
   refine takeT (i := 5) (by simp only [List.getElem?_toArray, List.getElem?_cons_succ, List.getElem?_cons_zero]; exact rfl) (by kernel_rfl) (by kernel_rfl) (by kernel_rfl) (by exact fun _ _ _ h => h) (by decide) (by rfl) (by intro wq hSw; have y0 := hSw.at' _ _ _ g0 (nP _); have y1 := hSw.at' _ _ _ g1 (nP _); have z0 := hSw.at' _ _ _ k0 (nK _); have z1 := hSw.at' _ _ _ k1 (nK _); have z2 := hSw.at' _ _ _ k2 (nK _); have z3 := hSw.at' _ _ _ k3 (nK _); have z5 := hSw.at' _ _ _ k5 (nK _); go_simp <;> with_reducible rfl) ⟨NT, .inr NL⟩ ?_
   try simp only [Act.put, pA, pB, pC]
   refine takeT (i := 6) (by simp only [List.getElem?_toArray, List.getElem?_cons_succ, List.getElem?_cons_zero]; exact rfl) (by kernel_rfl) (by kernel_rfl) (by kernel_rfl) (by exact fun _ _ _ h => h) (by decide) (by rfl) (by intro wq hSw; go_simp <;> with_reducible rfl) ⟨NT, .inr NL⟩ ?_
   try simp only [Act.put, pA, pB, pC]
   refine takeT (i := 7) (by simp only [List.getElem?_toArray, List.getElem?_cons_succ, List.getElem?_cons_zero]; exact rfl) (by kernel_rfl) (by kernel_rfl) (by kernel_rfl) (by exact fun _ _ _ h => h) (by decide) (by rfl) (by intro wq hSw; go_simp <;> with_reducible rfl) ⟨NT, .inr NL⟩ ?_
   try simp only [Act.put, pA, pB, pC]
   refine takeT (i := 8) (by simp only [List.getElem?_toArray, List.getElem?_cons_succ, List.getElem?_cons_zero]; exact rfl) (by kernel_rfl) (by kernel_rfl) (by kernel_rfl) (by exact fun _ _ _ h => h) (by decide) (by rfl) (by intro wq hSw; have y0 := hSw.at' _ _ _ g0 (nP _); have y1 := hSw.at' _ _ _ g1 (nP _); have z0 := hSw.at' _ _ _ k0 (nK _); have z1 := hSw.at' _ _ _ k1 (nK _); have z2 := hSw.at' _ _ _ k2 (nK _); have z3 := hSw.at' _ _ _ k3 (nK _); have z5 := hSw.at' _ _ _ k5 (nK _); go_simp <;> with_reducible rfl) ⟨NT, .inr NL⟩ ?_
   try simp only [Act.put, pA, pB, pC]
   refine takeT (i := 9) (by simp only [List.getElem?_toArray, List.getElem?_cons_succ, List.getElem?_cons_zero]; exact rfl) (by kernel_rfl) (by kernel_rfl) (by kernel_rfl) (by exact fun _ _ _ h => h) (by decide) (by rfl) (by intro wq hSw; go_simp <;> with_reducible rfl) ⟨NT, .inr NL⟩ ?_
   try simp only [Act.put, pA, pB, pC]
   refine takeT (i := 10) (by simp only [List.getElem?_toArray, List.getElem?_cons_succ, List.getElem?_cons_zero]; exact rfl) (by kernel_rfl) (by kernel_rfl) (by kernel_rfl) (by exact fun _ _ _ h => h) (by decide) (by rfl) (by intro wq hSw; have y0 := hSw.at' _ _ _ g0 (nP _); have y1 := hSw.at' _ _ _ g1 (nP _); have z0 := hSw.at' _ _ _ k0 (nK _); have z1 := hSw.at' _ _ _ k1 (nK _); have z2 := hSw.at' _ _ _ k2 (nK _); have z3 := hSw.at' _ _ _ k3 (nK _); have z5 := hSw.at' _ _ _ k5 (nK _); go_simp <;> with_reducible rfl) ⟨NT, .inr NL⟩ ?_
   try simp only [Act.put, pA, pB, pC]
   refine takeT (i := 11) (by simp only [List.getElem?_toArray, List.getElem?_cons_succ, List.getElem?_cons_zero]; exact rfl) (by kernel_rfl) (by kernel_rfl) (by kernel_rfl) (by exact fun _ _ _ h => h) (by decide) (by rfl) (by intro wq hSw; go_simp <;> with_reducible rfl) ⟨NT, .inr NL⟩ ?_
   try simp only [Act.put, pA, pB, pC]
   refine takeT (i := 12) (by simp only [List.getElem?_toArray, List.getElem?_cons_succ, List.getElem?_cons_zero]; exact rfl) (by kernel_rfl) (by kernel_rfl) (by kernel_rfl) (by exact fun _ _ _ h => h) (by decide) (by rfl) (by intro wq hSw; go_simp <;> with_reducible rfl) ⟨NT, .inr NL⟩ ?_
   try simp only [Act.put, pA, pB, pC]
   refine takeT (i := 13) (by simp only [List.getElem?_toArray, List.getElem?_cons_succ, List.getElem?_cons_zero]; exact rfl) (by kernel_rfl) (by kernel_rfl) (by kernel_rfl) (by exact fun _ _ _ h => h) (by decide) (by rfl) (by intro wq hSw; have y0 := hSw.at' _ _ _ g0 (nP _); have y1 := hSw.at' _ _ _ g1 (nP _); have z0 := hSw.at' _ _ _ k0 (nK _); have z1 := hSw.at' _ _ _ k1 (nK _); have z2 := hSw.at' _ _ _ k2 (nK _); have z3 := hSw.at' _ _ _ k3 (nK _); have z5 := hSw.at' _ _ _ k5 (nK _); go_simp <;> with_reducible rfl) ⟨NT, .inr NL⟩ ?_
   try simp only [Act.put, pA, pB, pC]
   refine takeT (i := 14) (by simp only [List.getElem?_toArray, List.getElem?_cons_succ, List.getElem?_cons_zero]; exact rfl) (by kernel_rfl) (by kernel_rfl) (by kernel_rfl) (by exact fun _ _ _ h => h) (by decide) (by rfl) (by intro wq hSw; go_simp <;> with_reducible rfl) ⟨NT, .inr NL⟩ ?_
   try simp only [Act.put, pA, pB, pC]
   refine takeT (i := 16) (by simp only [List.getElem?_toArray, List.getElem?_cons_succ, List.getElem?_cons_zero]; exact rfl) (by kernel_rfl) (by kernel_rfl) (by kernel_rfl) (by exact fun _ _ _ h => h) (by decide) (by rfl) (by intro wq hSw; go_simp <;> with_reducible rfl) ⟨NT, .inr NL⟩ ?_
   try simp only [Act.put, pA, pB, pC]
   refine takeT (i := 17) (by simp only [List.getElem?_toArray, List.getElem?_cons_succ, List.getElem?_cons_zero]; exact rfl) (by kernel_rfl) (by kernel_rfl) (by kernel_rfl) (by exact fun _ _ _ h => h) (by decide) (by rfl) (by intro wq hSw; go_simp <;> with_reducible rfl) ⟨NT, .inr NL⟩ ?_
   try simp only [Act.put, pA, pB, pC]
   refine wpAnyM_ready (rs := [15, 18]) (by kernel_rfl) (by simp) (AllReadyM.cons (by simp only [List.getElem?_toArray, List.getElem?_cons_succ, List.getElem?_cons_zero]; exact rfl) (fun K hK => ?_) (AllReadyM.cons (by simp only [List.getElem?_toArray, List.getElem?_cons_succ, List.getElem?_cons_zero]; exact rfl) (fun K hK => ?_) AllReadyM.nil))
   ·refine wp_make_full (.tmp 22) (.tmp 22) 30 rfl W1.heap.size 32 iN (.agg #[.int .i64 0, .int .i64 0, .int .i64 0, .int .i64 0, .slice none 0 0, .slice none 0 0, .slice none 0 0]) 7 Tryz.underlying30 hiN hN0 hN1 .i64 .i64 _ _ nk rfl rfl rfl rfl (by rw [hN2]; omega) (by unfold maxLen; omega) NT.g.size ?_
    intro wm RM GM
    have hbm := Below.grown (Below.refl _ _) GM (Nat.le_refl _) (fun k e => by cases e)
    have NT0 := NT
    have ZL0 := ZL
    replace NT := NT.more hbm
    replace ZL := ZL.below hbm
    have FR : ∀ o, wm.frozen? ⟨l1, o, none⟩ = false := fun o => (grown_fr GM (World.block_lt_of_cell? _ _ ZL0.c6) (fun e => by cases e) o).trans (FR o)
    have hq3 : W1.heap.size ≤ ww0.heap.size := NT0.g.size
    refine hK.out _ _ ⟨NT, .inr NL⟩ ?_
    clear hK K
    try simp only [Act.put, pA, pB, pC]
    clear hbm GM NT0 ZL0
    generalize ww0.heap.size = q3 at *
    refine wpAnyM_ready (rs := [18]) (by kernel_rfl) (by simp) (AllReadyM.cons (by simp only [List.getElem?_toArray, List.getElem?_cons_succ, List.getElem?_cons_zero]; exact rfl) (fun K hK => ?_) AllReadyM.nil)
    obtain ⟨⟨f0, f1, f2, f3⟩, _, _, _⟩ := id ZL
    dsimp only at f0 f1 f2 f3
    go_simp
    clear f0 f1 f2 f3
    have ZLN := sev_own4 (y := (x1, x2, x3, x4)) ZL
    have RM := RMput RM hq3
    have FRN : ∀ o, (put4 wm l1 l2 (x1, x2, x3, x4)).frozen? ⟨l1, o, none⟩ = false := fun o => (fr_put4 ..).trans (FR o)
    have NTN := NT.put4 (x1, x2, x3, x4)
    replace NT := NTN
    refine hK.out _ _ ⟨NT, .inr NL⟩ ?_
    clear hK K
    try simp only [Act.put, pA, pB, pC]
    have HW : ((((wm.setCell ⟨l1, l2, none⟩ (.int .i64 x1)).setCell ⟨l1, l2 + 1, none⟩ (.int .i64 x2)).setCell ⟨l1, l2 + 2, none⟩ (.int .i64 x3)).setCell ⟨l1, l2 + 3, none⟩ (.int .i64 x4)) = put4 wm l1 l2 (x1, x2, x3, x4) := rfl
    rw [HW]
    clear HW NTN ZL FR
    have ZL := ZLN
    have FR := FRN
    clear ZLN FRN
    generalize put4 wm l1 l2 (x1, x2, x3, x4) = wf at *
    refine takeT (i := 19) (by simp only [List.getElem?_toArray, List.getElem?_cons_succ, List.getElem?_cons_zero]; exact rfl) (by kernel_rfl) (by kernel_rfl) (by kernel_rfl) (by exact fun _ _ _ h => h) (by decide) (by rfl) (by intro wq hSw; go_simp <;> with_reducible rfl) ⟨NT, .inr NL⟩ ?_
    try simp only [Act.put, pA, pB, pC]
    refine takeT (i := 20) (by simp only [List.getElem?_toArray, List.getElem?_cons_succ, List.getElem?_cons_zero]; exact rfl) (by kernel_rfl) (by kernel_rfl) (by kernel_rfl) (by exact fun _ _ _ h => h) (by decide) (by rfl) (by intro wq hSw; go_simp <;> with_reducible rfl) ⟨NT, .inr NL⟩ ?_
    try simp only [Act.put, pA, pB, pC]
    refine wpAnyM_ready (rs := [21]) (by kernel_rfl) (by simp) (AllReadyM.cons (by simp only [List.getElem?_toArray, List.getElem?_cons_succ, List.getElem?_cons_zero]; exact rfl) (fun K hK => ?_) AllReadyM.nil)
    have f6 := ZL.c6
    go_simp
    clear f6
    have NT := NT.put (k := l2 + 6) (by show l2 ≤ _; omega) (by show l2 + 6 < _; omega) (.slice (some ⟨q3, 0, none⟩) nk nk)
    have RM := RMput1 RM hq3 (l2 + 6) (.slice (some ⟨q3, 0, none⟩) nk nk)
    have ZL := ZL.set6 (.slice (some ⟨q3, 0, none⟩) nk nk)
    have FRN : ∀ o, (wf.setCell ⟨l1, l2 + 6, none⟩ (.slice (some ⟨q3, 0, none⟩) nk nk)).frozen? ⟨l1, o, none⟩ = false := fun o => (World.frozen?_setCell ..).trans (FR o)
    replace FR := FRN
    refine hK.out _ _ ⟨NT, .inl (by kernel_rfl)⟩ ?_
    clear hK K
    try simp only [Act.put, pA, pB, pC]
    refine wpAnyM_done (by kernel_rfl) ?_ _
    refine hcK _ _ (Met.intro (hcJ _ _ ?_))
    (repeat apply Exists.intro)
    refine ⟨?rel, rfl⟩
    case rel => exact ⟨q3, hq3, ZL, RM, FR, NT⟩
   ·obtain ⟨⟨f0, f1, f2, f3⟩, _, _, _⟩ := id ZL
    dsimp only at f0 f1 f2 f3
    go_simp
    clear f0 f1 f2 f3
    have ZLN := sev_own4 (y := (x1, x2, x3, x4)) ZL
    have FRN : ∀ o, (put4 ww0 l1 l2 (x1, x2, x3, x4)).frozen? ⟨l1, o, none⟩ = false := fun o => (fr_put4 ..).trans (FR o)
    have NTN := NT.put4 (x1, x2, x3, x4)
    replace NT := NTN
    refine hK.out _ _ ⟨NT, .inr NL⟩ ?_
    clear hK K
    try simp only [Act.put, pA, pB, pC]
    have HW : ((((ww0.setCell ⟨l1, l2, none⟩ (.int .i64 x1)).setCell ⟨l1, l2 + 1, none⟩ (.int .i64 x2)).setCell ⟨l1, l2 + 2, none⟩ (.int .i64 x3)).setCell ⟨l1, l2 + 3, none⟩ (.int .i64 x4)) = put4 ww0 l1 l2 (x1, x2, x3, x4) := rfl
    rw [HW]
    clear HW NTN ZL FR
    have ZL := ZLN
    have FR := FRN
    clear ZLN FRN
    generalize put4 ww0 l1 l2 (x1, x2, x3, x4) = ws at *
    refine wpAnyM_ready (rs := [15]) (by kernel_rfl) (by simp) (AllReadyM.cons (by simp only [List.getElem?_toArray, List.getElem?_cons_succ, List.getElem?_cons_zero]; exact rfl) (fun K hK => ?_) AllReadyM.nil)
    refine wp_make_full (.tmp 22) (.tmp 22) 30 rfl W1.heap.size 32 iN (.agg #[.int .i64 0, .int .i64 0, .int .i64 0, .int .i64 0, .slice none 0 0, .slice none 0 0, .slice none 0 0]) 7 Tryz.underlying30 hiN hN0 hN1 .i64 .i64 _ _ nk rfl rfl rfl rfl (by rw [hN2]; omega) (by unfold maxLen; omega) NT.g.size ?_
    intro wf RM GM
    have hbm := Below.grown (Below.refl _ _) GM (Nat.le_refl _) (fun k e => by cases e)
    have NT0 := NT
    have ZL0 := ZL
    replace NT := NT.more hbm
    replace ZL := ZL.below hbm
    have FR : ∀ o, wf.frozen? ⟨l1, o, none⟩ = false := fun o => (grown_fr GM (World.block_lt_of_cell? _ _ ZL0.c6) (fun e => by cases e) o).trans (FR o)
    have hq3 : W1.heap.size ≤ ws.heap.size := NT0.g.size
    refine hK.out _ _ ⟨NT, .inr NL⟩ ?_
    clear hK K
    try simp only [Act.put, pA, pB, pC]
    clear hbm GM NT0 ZL0
    generalize ws.heap.size = q3 at *
    refine takeT (i := 19) (by simp only [List.getElem?_toArray, List.getElem?_cons_succ, List.getElem?_cons_zero]; exact rfl) (by kernel_rfl) (by kernel_rfl) (by kernel_rfl) (by exact fun _ _ _ h => h) (by decide) (by rfl) (by intro wq hSw; go_simp <;> with_reducible rfl) ⟨NT, .inr NL⟩ ?_
    try simp only [Act.put, pA, pB, pC]
    refine takeT (i := 20) (by simp only [List.getElem?_toArray, List.getElem?_cons_succ, List.getElem?_cons_zero]; exact rfl) (by kernel_rfl) (by kernel_rfl) (by kernel_rfl) (by exact fun _ _ _ h => h) (by decide) (by rfl) (by intro wq hSw; go_simp <;> with_reducible rfl) ⟨NT, .inr NL⟩ ?_
    try simp only [Act.put, pA, pB, pC]
    refine wpAnyM_ready (rs := [21]) (by kernel_rfl) (by simp) (AllReadyM.cons (by simp only [List.getElem?_toArray, List.getElem?_cons_succ, List.getElem?_cons_zero]; exact rfl) (fun K hK => ?_) AllReadyM.nil)
    have f6 := ZL.c6
    go_simp
    clear f6
    have NT := NT.put (k := l2 + 6) (by show l2 ≤ _; omega) (by show l2 + 6 < _; omega) (.slice (some ⟨q3, 0, none⟩) nk nk)
    have RM := RMput1 RM hq3 (l2 + 6) (.slice (some ⟨q3, 0, none⟩) nk nk)
    have ZL := ZL.set6 (.slice (some ⟨q3, 0, none⟩) nk nk)
    have FRN : ∀ o, (wf.setCell ⟨l1, l2 + 6, none⟩ (.slice (some ⟨q3, 0, none⟩) nk nk)).frozen? ⟨l1, o, none⟩ = false := fun o => (World.frozen?_setCell ..).trans (FR o)
    replace FR := FRN
    refine hK.out _ _ ⟨NT, .inl (by kernel_rfl)⟩ ?_
    clear hK K
    try simp only [Act.put, pA, pB, pC]
    refine wpAnyM_done (by kernel_rfl) ?_ _
    refine hcK _ _ (Met.intro (hcJ _ _ ?_))
    (repeat apply Exists.intro)
    refine ⟨?rel, rfl⟩
    case rel => exact ⟨q3, hq3, ZL, RM, FR, NT⟩
 rename World => w2
 obtain ⟨q3, hq3, S2, RM, FR2, TE⟩ := hcut
 clear g0 g1 k0 k1 k2 k3 k4 k5
 have A0 : Hid (LpA W1 l1 l2 (x1, x2, x3, x4) q3 nk (.slice none 0 0) (.slice none 0 0) (.slice none 0 0) (.slice none 0 0) (t.bs.take 0) (t.is.take 0) w2) := by
  refine ⟨S2, ?_, ?_, RM, FR2, TE, by omega⟩
  ·rw [List.take_zero]; exact RowBx.nil _ _
  ·rw [List.take_zero]; exact RowI.nil _ _
 obtain ⟨m0, m1, _, _⟩ := id P1
 obtain ⟨_, m4, m5, _, _⟩ := id K6
 rw [HNK.out] at m5
 have HK4 : Hid (W1.cell? ⟨p, 4, none⟩ = some (.slice a1 t.bs.length c1)) := m4
 have HK5 : Hid (W1.cell? ⟨p, 5, none⟩ = some (.slice a2 nk c2)) := m5
 have HP0 : Hid (W1.cell? ⟨w.heap.size, 0, none⟩ = some (.pointer (some ⟨p, 0, none⟩))) := m0
 have HP1 : Hid (W1.cell? ⟨w.heap.size, 1, none⟩ = some (.pointer (some ⟨l1, l2, none⟩))) := m1
 clear m0 m1 m4 m5 S2 RM FR2 Z FR
 have e0 := TE.at' _ _ _ HP0.out (nP _)
 have e4 := TE.at' _ _ _ HK4.out (nK _)
 clear TE
 have hmi := SI.max
 have hfi := SI.fits
 unfold maxLen at hmi
 have hnb := hns.1
 go_wp2
 go_loopw [4, 34] (fun _ s34 wr => ∃ (j : Nat) (v1 v2 : Value), j ≤ t.bs.length ∧ s34 = .int .i64 j ∧ Hid (LpA W1 l1 l2 (x1, x2, x3, x4) q3 nk v1 v2 v1 v2 (t.bs.take j) (t.is.take j) wr)) (fun _ s34 _ => t.bs.length - (intOf s34).toNat)
 case atStart => exact ⟨0, _, _, Nat.zero_le _, rfl, A0⟩
 case round =>
  clear A0 e0 e4
  obtain ⟨j, u1, u2, hj, rfl, AH⟩ := hrel
  rename World => wr
  by_cases hlt : j < t.bs.length
  ·obtain ⟨b, off, ea, hc⟩ := SI.cells (by intro e; simp [e] at hlt)
   obtain ⟨F, i4⟩ := hc j hlt
   obtain ⟨⟨y1, y2, y3, y4⟩, uy⟩ : ∃ x, Hid (bxAt t.bs j = x) := ⟨_, rfl⟩
   obtain ⟨m, um⟩ : ∃ x, Hid (t.is[j]?.getD 0 = x) := ⟨_, rfl⟩
   rw [uy.out] at F
   rw [um.out] at i4
   have hbl := SIold b off ea
   obtain ⟨i0, i1, i2, i3⟩ := F
   dsimp only at i0 i1 i2 i3
   have nI : ∀ k, ¬ (b = ((l1, l2) : Ptr).1 ∧ ((l1, l2) : Ptr).2 ≤ k ∧ k < ((l1, l2) : Ptr).2 + 7) := fun k h => by have := h.1; dsimp only at this; omega
   replace i0 := AH.out.te.at' _ _ _ i0 (nI _)
   replace i1 := AH.out.te.at' _ _ _ i1 (nI _)
   replace i2 := AH.out.te.at' _ _ _ i2 (nI _)
   replace i3 := AH.out.te.at' _ _ _ i3 (nI _)
   replace i4 := AH.out.te.at' _ _ _ i4 (nI _)
   subst ea
   clear hc
   go_upto_region 5 with fail
   have bq := below1 wr (.cells #[.int .i64 y1, .int .i64 y2, .int .i64 y3, .int .i64 y4, .int .i64 m] 112)
   have AN : Hid (LpA W1 l1 l2 (x1, x2, x3, x4) q3 nk u1 u2 u1 u2 (t.bs.take j) (t.is.take j) (wr.alloc (.cells #[.int .i64 y1, .int .i64 y2, .int .i64 y3, .int .i64 y4, .int .i64 m] 112))) := AH.out.below bq
   have TN : Hid (TlR w.heap.size l1 l2 wr.heap.size (y1, y2, y3, y4) m (wr.alloc (.cells #[.int .i64 y1, .int .i64 y2, .int .i64 y3, .int .i64 y4, .int .i64 m] 112))) :=
    ⟨bat bq (AH.out.te.at' _ _ _ HP1.out (nP _)), ⟨cell_new wr _ _ 0 rfl, cell_new wr _ _ 1 rfl, cell_new wr _ _ 2 rfl, cell_new wr _ _ 3 rfl⟩, cell_new wr _ _ 4 rfl⟩
   have hib : W1.heap.size ≤ wr.heap.size := AH.out.te.g.size
   have hown1 : ∀ k, u1.ownBlock = some k → W1.heap.size ≤ k ∧ k < wr.heap.size := World.ownsRow.lt AH.out.r1
   have hown2 : ∀ k, u2.ownBlock = some k → W1.heap.size ≤ k ∧ k < wr.heap.size := World.ownsRow.lt AH.out.r2
   clear bq i0 i1 i2 i3 i4
   generalize wr.alloc (.cells #[.int .i64 y1, .int .i64 y2, .int .i64 y3, .int .i64 y4, .int .i64 m] 112) = w4 at *
   generalize wr.heap.size = ib at *
   have HB : Hid ((t.bs.take j).length ≤ 1048576 ∧ (t.is.take j).length ≤ 1048576) := ⟨by rw [List.length_take]; omega, by rw [List.length_take]; omega⟩
   have HT1 : Hid (t.bs.take (j + 1) = t.bs.take j ++ [(y1, y2, y3, y4)]) := by
    show _ = _
    rw [List.take_succ_eq_append_getElem hlt, ← uy.out]
    unfold bxAt
    rw [List.getElem?_eq_getElem hlt]
    rfl
   have HT2 : Hid (t.is.take (j + 1) = t.is.take j ++ [m]) := by
    show _ = _
    rw [List.take_succ_eq_append_getElem (by omega), ← um.out, List.getElem?_eq_getElem (by omega : j < t.is.length)]
    rfl
   generalize t.bs.take j = bj at *
   generalize t.is.take j = ij at *
   have hpl : w.heap.size ≠ l1 := by omega
   have hil' : ib ≠ l1 := by omega
   have np1 : some w.heap.size ≠ u1.ownBlock := fun e => by have := (hown1 _ e.symm).1; omega
   have nib : some ib ≠ u1.ownBlock := fun e => by have := (hown1 _ e.symm).2; omega
   have np2 : some w.heap.size ≠ u2.ownBlock := fun e => by have := (hown2 _ e.symm).1; omega
   have nib2 : some ib ≠ u2.ownBlock := fun e => by have := (hown2 _ e.symm).2; omega
   have A := AN.out.below (Below.refl w4.heap.size w4).drew
   have NT := TN.out.below (Below.refl w4.heap.size w4).drew
   have NL := A.lo
   have hz4 : ib < w4.heap.size := World.block_lt_of_cell? _ _ TN.out.g
   have hz5 : w4.heap.size ≤ w4.drew.heap.size := Nat.le_refl _
   clear AN TN AH SIold SQold
   refine wp_region_M 24 (fun W => W.cell? ⟨l1, l2 + 4, none⟩ = some u1 ∧ W.cell? ⟨l1, l2 + 5, none⟩ = some u2) (TlR w.heap.size l1 l2 ib (y1, y2, y3, y4) m) (by kernel_rfl) ?_
   generalize w4.drew = ww0 at *
   refine takeT (i := 0) (by simp only [List.getElem?_toArray, List.getElem?_cons_zero]; exact rfl) (by kernel_rfl) (by kernel_rfl) (by kernel_rfl) (by exact fun _ _ _ h => h) (by decide) (by rfl) (by intro wq hSw; go_simp <;> with_reducible rfl) ⟨NT, .inr NL⟩ ?_
   try simp only [Act.put, pA, pB, pC]
   refine takeT (i := 1) (by simp only [List.getElem?_toArray, List.getElem?_cons_succ, List.getElem?_cons_zero]; exact rfl) (by kernel_rfl) (by kernel_rfl) (by kernel_rfl) (by exact fun _ _ _ h => h) (by decide) (by rfl) (by intro wq hSw; obtain ⟨y5, y6, y7⟩ := hSw; obtain ⟨y8, y9, ya, yb⟩ := y6; dsimp only at y8 y9 ya yb; simp only [Nat.zero_add] at y8 y9 ya yb; go_simp <;> with_reducible rfl) ⟨NT, .inr NL⟩ ?_
   try simp only [Act.put, pA, pB, pC]
   refine takeT (i := 2) (by simp only [List.getElem?_toArray, List.getElem?_cons_succ, List.getElem?_cons_zero]; exact rfl) (by kernel_rfl) (by kernel_rfl) (by kernel_rfl) (by exact fun _ _ _ h => h) (by decide) (by rfl) (by intro wq hSw; go_simp <;> with_reducible rfl) ⟨NT, .inr NL⟩ ?_
   try simp only [Act.put, pA, pB, pC]
   refine takeT (i := 3) (by simp only [List.getElem?_toArray, List.getElem?_cons_succ, List.getElem?_cons_zero]; exact rfl) (by kernel_rfl) (by kernel_rfl) (by kernel_rfl) (by exact fun _ _ _ h => h) (by decide) (by rfl) (by intro wq hSw; obtain ⟨y5, y6, y7⟩ := hSw; obtain ⟨y8, y9, ya, yb⟩ := y6; dsimp only at y8 y9 ya yb; simp only [Nat.zero_add] at y8 y9 ya yb; go_simp <;> with_reducible rfl) ⟨NT, .inr NL⟩ ?_
   try simp only [Act.put, pA, pB, pC]
   refine takeT (i := 4) (by simp only [List.getElem?_toArray, List.getElem?_cons_succ, List.getElem?_cons_zero]; exact rfl) (by kernel_rfl) (by kernel_rfl) (by kernel_rfl) (by exact fun _ _ _ h => h) (by decide) (by rfl) (by intro wq hSw; go_simp <;> with_reducible rfl) ⟨NT, .inr NL⟩ ?_
   try simp only [Act.put, pA, pB, pC]
   refine takeT (i := 5) (by simp only [List.getElem?_toArray, List.getElem?_cons_succ, List.getElem?_cons_zero]; exact rfl) (by kernel_rfl) (by kernel_rfl) (by kernel_rfl) (by exact fun _ _ _ h => h) (by decide) (by rfl) (by intro wq hSw; obtain ⟨y5, y6, y7⟩ := hSw; obtain ⟨y8, y9, ya, yb⟩ := y6; dsimp only at y8 y9 ya yb; simp only [Nat.zero_add] at y8 y9 ya yb; go_simp <;> with_reducible rfl) ⟨NT, .inr NL⟩ ?_
   try simp only [Act.put, pA, pB, pC]
   refine takeT (i := 6) (by simp only [List.getElem?_toArray, List.getElem?_cons_succ, List.getElem?_cons_zero]; exact rfl) (by kernel_rfl) (by kernel_rfl) (by kernel_rfl) (by exact fun _ _ _ h => h) (by decide) (by rfl) (by intro wq hSw; go_simp <;> with_reducible rfl) ⟨NT, .inr NL⟩ ?_
   try simp only [Act.put, pA, pB, pC]
   refine takeT (i := 7) (by simp only [List.getElem?_toArray, List.getElem?_cons_succ, List.getElem?_cons_zero]; exact rfl) (by kernel_rfl) (by kernel_rfl) (by kernel_rfl) (by exact fun _ _ _ h => h) (by decide) (by rfl) (by intro wq hSw; go_simp <;> with_reducible rfl) ⟨NT, .inr NL⟩ ?_
   try simp only [Act.put, pA, pB, pC]
   refine takeL (i := 8) (by simp only [List.getElem?_toArray, List.getElem?_cons_succ, List.getElem?_cons_zero]; exact rfl) (by kernel_rfl) (by kernel_rfl) (by kernel_rfl) (by exact fun _ _ _ h => h) (by decide) (by kernel_rfl) (by kernel_rfl) (by rfl) (by intro wq hSw; obtain ⟨⟨y5, y6, y7⟩, y4, _⟩ := hSw; go_simp <;> with_reducible rfl) ⟨NT, .inr NL⟩ ?_
   try simp only [Act.put, pA, pB, pC]
   refine takeT (i := 9) (by simp only [List.getElem?_toArray, List.getElem?_cons_succ, List.getElem?_cons_zero]; exact rfl) (by kernel_rfl) (by kernel_rfl) (by kernel_rfl) (by exact fun _ _ _ h => h) (by decide) (by rfl) (by intro wq hSw; go_simp <;> with_reducible rfl) ⟨NT, .inr NL⟩ ?_
   try simp only [Act.put, pA, pB, pC]
   refine takeT (i := 10) (by simp only [List.getElem?_toArray, List.getElem?_cons_succ, List.getElem?_cons_zero]; exact rfl) (by kernel_rfl) (by kernel_rfl) (by kernel_rfl) (by exact fun _ _ _ h => h) (by decide) (by rfl) (by intro wq hSw; obtain ⟨y5, y6, y7⟩ := hSw; obtain ⟨y8, y9, ya, yb⟩ := y6; dsimp only at y8 y9 ya yb; simp only [Nat.zero_add] at y8 y9 ya yb; go_simp <;> with_reducible rfl) ⟨NT, .inr NL⟩ ?_
   try simp only [Act.put, pA, pB, pC]
   refine takeT (i := 13) (by simp only [List.getElem?_toArray, List.getElem?_cons_succ, List.getElem?_cons_zero]; exact rfl) (by kernel_rfl) (by kernel_rfl) (by kernel_rfl) (by exact fun _ _ _ h => h) (by decide) (by rfl) (by intro wq hSw; go_simp <;> with_reducible rfl) ⟨NT, .inr NL⟩ ?_
   try simp only [Act.put, pA, pB, pC]
   refine takeT (i := 14) (by simp only [List.getElem?_toArray, List.getElem?_cons_succ, List.getElem?_cons_zero]; exact rfl) (by kernel_rfl) (by kernel_rfl) (by kernel_rfl) (by exact fun _ _ _ h => h) (by decide) (by rfl) (by intro wq hSw; obtain ⟨y5, y6, y7⟩ := hSw; obtain ⟨y8, y9, ya, yb⟩ := y6; dsimp only at y8 y9 ya yb; simp only [Nat.zero_add] at y8 y9 ya yb; go_simp <;> with_reducible rfl) ⟨NT, .inr NL⟩ ?_
   try simp only [Act.put, pA, pB, pC]
   refine takeT (i := 15) (by simp only [List.getElem?_toArray, List.getElem?_cons_succ, List.getElem?_cons_zero]; exact rfl) (by kernel_rfl) (by kernel_rfl) (by kernel_rfl) (by exact fun _ _ _ h => h) (by decide) (by rfl) (by intro wq hSw; go_simp <;> with_reducible rfl) ⟨NT, .inr NL⟩ ?_
   try simp only [Act.put, pA, pB, pC]
   refine takeT (i := 16) (by simp only [List.getElem?_toArray, List.getElem?_cons_succ, List.getElem?_cons_zero]; exact rfl) (by kernel_rfl) (by kernel_rfl) (by kernel_rfl) (by exact fun _ _ _ h => h) (by decide) (by rfl) (by intro wq hSw; go_simp <;> with_reducible rfl) ⟨NT, .inr NL⟩ ?_
   try simp only [Act.put, pA, pB, pC]
   refine takeL (i := 17) (by simp only [List.getElem?_toArray, List.getElem?_cons_succ, List.getElem?_cons_zero]; exact rfl) (by kernel_rfl) (by kernel_rfl) (by kernel_rfl) (by exact fun _ _ _ h => h) (by decide) (by kernel_rfl) (by kernel_rfl) (by rfl) (by intro wq hSw; obtain ⟨⟨y5, y6, y7⟩, _, y4⟩ := hSw; go_simp <;> with_reducible rfl) ⟨NT, .inr NL⟩ ?_
   try simp only [Act.put, pA, pB, pC]
   refine takeT (i := 18) (by simp only [List.getElem?_toArray, List.getElem?_cons_succ, List.getElem?_cons_zero]; exact rfl) (by kernel_rfl) (by kernel_rfl) (by kernel_rfl) (by exact fun _ _ _ h => h) (by decide) (by rfl) (by intro wq hSw; go_simp <;> with_reducible rfl) ⟨NT, .inr NL⟩ ?_
   try simp only [Act.put, pA, pB, pC]
   refine takeT (i := 19) (by simp only [List.getElem?_toArray, List.getElem?_cons_succ, List.getElem?_cons_zero]; exact rfl) (by kernel_rfl) (by kernel_rfl) (by kernel_rfl) (by exact fun _ _ _ h => h) (by decide) (by rfl) (by intro wq hSw; obtain ⟨y5, y6, y7⟩ := hSw; obtain ⟨y8, y9, ya, yb⟩ := y6; dsimp only at y8 y9 ya yb; simp only [Nat.zero_add] at y8 y9 ya yb; go_simp <;> with_reducible rfl) ⟨NT, .inr NL⟩ ?_
   try simp only [Act.put, pA, pB, pC]
   refine wpAnyM_ready (rs := [11, 20]) (by kernel_rfl) (by simp) (AllReadyM.cons (by simp only [List.getElem?_toArray, List.getElem?_cons_succ, List.getElem?_cons_zero]; exact rfl) (fun K hK => ?_) (AllReadyM.cons (by simp only [List.getElem?_toArray, List.getElem?_cons_succ, List.getElem?_cons_zero]; exact rfl) (fun K hK => ?_) AllReadyM.nil))
   ·go_simp
    have bq := below1 ww0 (.cells #[.int .i64 y1, .int .i64 y2, .int .i64 y3, .int .i64 y4] 27)
    have NW1 := box_new ww0 27 y1 y2 y3 y4
    replace NT := NT.below bq
    replace A := A.below bq
    have NL := A.lo
    refine hK.out _ _ ⟨NT, .inr NL⟩ ?_
    clear hK K
    try simp only [Act.put, pA, pB, pC]
    generalize ww0.heap.size = zA at *
    generalize ww0.alloc (.cells #[.int .i64 y1, .int .i64 y2, .int .i64 y3, .int .i64 y4] 27) = w11 at *
    clear bq
    refine wpAnyM_ready (rs := [12, 20]) (by kernel_rfl) (by simp) (AllReadyM.cons (by simp only [List.getElem?_toArray, List.getElem?_cons_succ, List.getElem?_cons_zero]; exact rfl) (fun K hK => ?_) (AllReadyM.cons (by simp only [List.getElem?_toArray, List.getElem?_cons_succ, List.getElem?_cons_zero]; exact rfl) (fun K hK => ?_) AllReadyM.nil))
    ·refine wp_append_at (.tmp 46) (.tmp 49) 28 rfl W1.heap.size 27 iB (.agg #[.int .i64 0, .int .i64 0, .int .i64 0, .int .i64 0]) 4 32 Tryz.underlying28 hiB hB0 hB1 hB2 rfl (by decide) u1 bj.length (boxC bj) rfl A.r1 ⟨zA, 0, none⟩ 1 _ (boxC [(y1, y2, y3, y4)]) rfl rfl NW1 (boxC_ones _) (by have := HB.out; unfold maxLen; omega) (by have := HB.out; omega) A.te.g.size ?_
     intro v7 w11_12 R7 G7 _
     replace NT := NT.grown G7 np1 nib
     have R7' := RowBx.snoc R7
     obtain ⟨a7, c7, ev7, _⟩ := RowBx.sees R7'
     obtain ⟨n7, hn7⟩ : ∃ n, (bj ++ [(y1, y2, y3, y4)]).length = n := ⟨_, rfl⟩
     rw [hn7] at ev7
     subst ev7
     replace A := A.app1 G7 R7'
     clear hn7
     have NL := A.lo
     clear NW1 R7 R7' G7
     refine hK.out _ _ ⟨NT, .inr NL⟩ ?_
     clear hK K
     try simp only [Act.put, pA, pB, pC]
     refine wpAnyM_ready (rs := [20]) (by kernel_rfl) (by simp) (AllReadyM.cons (by simp only [List.getElem?_toArray, List.getElem?_cons_succ, List.getElem?_cons_zero]; exact rfl) (fun K hK => ?_) AllReadyM.nil)
     go_simp
     have hzB : ib < w11_12.heap.size := World.block_lt_of_cell? _ _ NT.g
     have bq := below1 w11_12 (.cells #[.int .i64 m] 3)
     have NW2 := one_newI w11_12 3 m
     replace NT := NT.below bq
     replace A := A.below bq
     have NL := A.lo
     refine hK.out _ _ ⟨NT, .inr NL⟩ ?_
     clear hK K
     try simp only [Act.put, pA, pB, pC]
     generalize w11_12.heap.size = zB at *
     generalize w11_12.alloc (.cells #[.int .i64 m] 3) = w11_12_20 at *
     clear bq
     refine wpAnyM_ready (rs := [21]) (by kernel_rfl) (by simp) (AllReadyM.cons (by simp only [List.getElem?_toArray, List.getElem?_cons_succ, List.getElem?_cons_zero]; exact rfl) (fun K hK => ?_) AllReadyM.nil)
     refine wp_append_at (.tmp 55) (.tmp 58) 29 rfl W1.heap.size 3 iI (.int .i64 0) 1 8 Tryz.underlying29 hiI hI0 hI1 hI2 rfl (by decide) u2 ij.length (ij.map (Value.int .i64)) rfl A.r2 ⟨zB, 0, none⟩ 1 _ ([m].map (Value.int .i64)) rfl rfl NW2 (onesI _) (by have := HB.out; unfold maxLen; omega) (by have := HB.out; omega) A.te.g.size ?_
     intro v8 w11_12_20_21 R8 G8 _
     replace NT := NT.grown G8 np2 nib2
     have R8' := RowI.snoc R8 rfl
     obtain ⟨a8, c8, ev8, _⟩ := rowI_sees R8'
     obtain ⟨n8, hn8⟩ : ∃ n, (ij ++ [m]).length = n := ⟨_, rfl⟩
     rw [hn8] at ev8
     subst ev8
     replace A := A.app2 G8 R8'
     clear hn8
     have NL := A.lo
     clear NW2 R8 R8' G8
     refine hK.out _ _ ⟨NT, .inr NL⟩ ?_
     clear hK K
     try simp only [Act.put, pA, pB, pC]
     generalize w11_12_20_21 = w9 at *
     refine takeT (i := 22) (by simp only [List.getElem?_toArray, List.getElem?_cons_succ, List.getElem?_cons_zero]; exact rfl) (by kernel_rfl) (by kernel_rfl) (by kernel_rfl) (by exact fun _ _ _ h => h) (by decide) (by rfl) (by intro wq hSw; go_simp <;> with_reducible rfl) ⟨NT, .inr NL⟩ ?_
     try simp only [Act.put, pA, pB, pC]
     refine takeT (i := 23) (by simp only [List.getElem?_toArray, List.getElem?_cons_succ, List.getElem?_cons_zero]; exact rfl) (by kernel_rfl) (by kernel_rfl) (by kernel_rfl) (by exact fun _ _ _ h => h) (by decide) (by rfl) (by intro wq hSw; go_simp <;> with_reducible rfl) ⟨NT, .inr NL⟩ ?_
     try simp only [Act.put, pA, pB, pC]
     refine wpAnyM_ready (rs := [24]) (by kernel_rfl) (by simp) (AllReadyM.cons (by simp only [List.getElem?_toArray, List.getElem?_cons_succ, List.getElem?_cons_zero]; exact rfl) (fun K hK => ?_) AllReadyM.nil)
     have f4 := A.s.c4
     have ff := A.fr
     go_simp
     clear f4 ff NL
     replace NT := NT.put (q := l1) (k := l2 + 4) hpl hil' (.slice a7 n7 c7)
     replace A := A.st1
     refine hK.out _ _ ⟨NT, .inl (by kernel_rfl)⟩ ?_
     clear hK K
     try simp only [Act.put, pA, pB, pC]
     generalize w9.setCell ⟨l1, l2 + 4, none⟩ (.slice a7 n7 c7) = w10 at *
     refine takeT (i := 25) (by simp only [List.getElem?_toArray, List.getElem?_cons_succ, List.getElem?_cons_zero]; exact rfl) (by kernel_rfl) (by kernel_rfl) (by kernel_rfl) (by exact fun _ _ _ h => h) (by decide) (by rfl) (by intro wq hSw; go_simp <;> with_reducible rfl) ⟨NT, .inl (by kernel_rfl)⟩ ?_
     try simp only [Act.put, pA, pB, pC]
     refine takeT (i := 26) (by simp only [List.getElem?_toArray, List.getElem?_cons_succ, List.getElem?_cons_zero]; exact rfl) (by kernel_rfl) (by kernel_rfl) (by kernel_rfl) (by exact fun _ _ _ h => h) (by decide) (by rfl) (by intro wq hSw; go_simp <;> with_reducible rfl) ⟨NT, .inl (by kernel_rfl)⟩ ?_
     try simp only [Act.put, pA, pB, pC]
     refine wpAnyM_ready (rs := [27]) (by kernel_rfl) (by simp) (AllReadyM.cons (by simp only [List.getElem?_toArray, List.getElem?_cons_succ, List.getElem?_cons_zero]; exact rfl) (fun K hK => ?_) AllReadyM.nil)
     have f5 := A.s.c5
     have ff := A.fr
     go_simp
     clear f5 ff
     replace NT := NT.put (q := l1) (k := l2 + 5) hpl hil' (.slice a8 n8 c8)
     replace A := A.st2
     refine hK.out _ _ ⟨NT, .inl (by kernel_rfl)⟩ ?_
     clear hK K
     try simp only [Act.put, pA, pB, pC]
     generalize w10.setCell ⟨l1, l2 + 5, none⟩ (.slice a8 n8 c8) = w11 at *
     refine wpAnyM_done (by kernel_rfl) ?_ _
     have A6 : Hid (LpA W1 l1 l2 (x1, x2, x3, x4) q3 nk (.slice a7 n7 c7) (.slice a8 n8 c8) (.slice a7 n7 c7) (.slice a8 n8 c8) (t.bs.take (j + 1)) (t.is.take (j + 1)) w11) := by rw [HT1.out, HT2.out]; exact A
     clear A NT HT1 HT2
     go_wp2
     go_roundw
     case rel => exact ⟨j + 1, _, _, by omega, by go_num, A6⟩
     case measure => simp [intOf]; omega
    ·go_simp
     have hzB : ib < w11.heap.size := World.block_lt_of_cell? _ _ NT.g
     have bq := below1 w11 (.cells #[.int .i64 m] 3)
     have NW2 := one_newI w11 3 m
     replace NT := NT.below bq
     replace A := A.below bq
     have NL := A.lo
     replace NW1 := fun j z hz => bat bq (NW1 j z hz)
     refine hK.out _ _ ⟨NT, .inr NL⟩ ?_
     clear hK K
     try simp only [Act.put, pA, pB, pC]
     generalize w11.heap.size = zB at *
     generalize w11.alloc (.cells #[.int .i64 m] 3) = w11_20 at *
     clear bq
     refine wpAnyM_ready (rs := [12]) (by kernel_rfl) (by simp) (AllReadyM.cons (by simp only [List.getElem?_toArray, List.getElem?_cons_succ, List.getElem?_cons_zero]; exact rfl) (fun K hK => ?_) AllReadyM.nil)
     refine wp_append_at (.tmp 46) (.tmp 49) 28 rfl W1.heap.size 27 iB (.agg #[.int .i64 0, .int .i64 0, .int .i64 0, .int .i64 0]) 4 32 Tryz.underlying28 hiB hB0 hB1 hB2 rfl (by decide) u1 bj.length (boxC bj) rfl A.r1 ⟨zA, 0, none⟩ 1 _ (boxC [(y1, y2, y3, y4)]) rfl rfl NW1 (boxC_ones _) (by have := HB.out; unfold maxLen; omega) (by have := HB.out; omega) A.te.g.size ?_
     intro v7 w11_12_20 R7 G7 _
     replace NT := NT.grown G7 np1 nib
     have NW2' := fun j z hz => rowG (NW2 j z hz) G7 (fun e => by have := (hown1 zB e.symm).2; omega)
     replace NW2 := NW2'
     clear NW2'
     have R7' := RowBx.snoc R7
     obtain ⟨a7, c7, ev7, _⟩ := RowBx.sees R7'
     obtain ⟨n7, hn7⟩ : ∃ n, (bj ++ [(y1, y2, y3, y4)]).length = n := ⟨_, rfl⟩
     rw [hn7] at ev7
     subst ev7
     replace A := A.app1 G7 R7'
     clear hn7
     have NL := A.lo
     clear NW1 R7 R7' G7
     refine hK.out _ _ ⟨NT, .inr NL⟩ ?_
     clear hK K
     try simp only [Act.put, pA, pB, pC]
     refine wpAnyM_ready (rs := [21]) (by kernel_rfl) (by simp) (AllReadyM.cons (by simp only [List.getElem?_toArray, List.getElem?_cons_succ, List.getElem?_cons_zero]; exact rfl) (fun K hK => ?_) AllReadyM.nil)
     refine wp_append_at (.tmp 55) (.tmp 58) 29 rfl W1.heap.size 3 iI (.int .i64 0) 1 8 Tryz.underlying29 hiI hI0 hI1 hI2 rfl (by decide) u2 ij.length (ij.map (Value.int .i64)) rfl A.r2 ⟨zB, 0, none⟩ 1 _ ([m].map (Value.int .i64)) rfl rfl NW2 (onesI _) (by have := HB.out; unfold maxLen; omega) (by have := HB.out; omega) A.te.g.size ?_
     intro v8 w11_12_20_21 R8 G8 _
     replace NT := NT.grown G8 np2 nib2
     have R8' := RowI.snoc R8 rfl
     obtain ⟨a8, c8, ev8, _⟩ := rowI_sees R8'
     obtain ⟨n8, hn8⟩ : ∃ n, (ij ++ [m]).length = n := ⟨_, rfl⟩
     rw [hn8] at ev8
     subst ev8
     replace A := A.app2 G8 R8'
     clear hn8
     have NL := A.lo
     clear NW2 R8 R8' G8
     refine hK.out _ _ ⟨NT, .inr NL⟩ ?_
     clear hK K
     try simp only [Act.put, pA, pB, pC]
     generalize w11_12_20_21 = w9 at *
     refine takeT (i := 22) (by simp only [List.getElem?_toArray, List.getElem?_cons_succ, List.getElem?_cons_zero]; exact rfl) (by kernel_rfl) (by kernel_rfl) (by kernel_rfl) (by exact fun _ _ _ h => h) (by decide) (by rfl) (by intro wq hSw; go_simp <;> with_reducible rfl) ⟨NT, .inr NL⟩ ?_
     try simp only [Act.put, pA, pB, pC]
     refine takeT (i := 23) (by simp only [List.getElem?_toArray, List.getElem?_cons_succ, List.getElem?_cons_zero]; exact rfl) (by kernel_rfl) (by kernel_rfl) (by kernel_rfl) (by exact fun _ _ _ h => h) (by decide) (by rfl) (by intro wq hSw; go_simp <;> with_reducible rfl) ⟨NT, .inr NL⟩ ?_
     try simp only [Act.put, pA, pB, pC]
     refine wpAnyM_ready (rs := [24]) (by kernel_rfl) (by simp) (AllReadyM.cons (by simp only [List.getElem?_toArray, List.getElem?_cons_succ, List.getElem?_cons_zero]; exact rfl) (fun K hK => ?_) AllReadyM.nil)
     have f4 := A.s.c4
     have ff := A.fr
     go_simp
     clear f4 ff NL
     replace NT := NT.put (q := l1) (k := l2 + 4) hpl hil' (.slice a7 n7 c7)
     replace A := A.st1
     refine hK.out _ _ ⟨NT, .inl (by kernel_rfl)⟩ ?_
     clear hK K
     try simp only [Act.put, pA, pB, pC]
     generalize w9.setCell ⟨l1, l2 + 4, none⟩ (.slice a7 n7 c7) = w10 at *
     refine takeT (i := 25) (by simp only [List.getElem?_toArray, List.getElem?_cons_succ, List.getElem?_cons_zero]; exact rfl) (by kernel_rfl) (by kernel_rfl) (by kernel_rfl) (by exact fun _ _ _ h => h) (by decide) (by rfl) (by intro wq hSw; go_simp <;> with_reducible rfl) ⟨NT, .inl (by kernel_rfl)⟩ ?_
     try simp only [Act.put, pA, pB, pC]
     refine takeT (i := 26) (by simp only [List.getElem?_toArray, List.getElem?_cons_succ, List.getElem?_cons_zero]; exact rfl) (by kernel_rfl) (by kernel_rfl) (by kernel_rfl) (by exact fun _ _ _ h => h) (by decide) (by rfl) (by intro wq hSw; go_simp <;> with_reducible rfl) ⟨NT, .inl (by kernel_rfl)⟩ ?_
     try simp only [Act.put, pA, pB, pC]
     refine wpAnyM_ready (rs := [27]) (by kernel_rfl) (by simp) (AllReadyM.cons (by simp only [List.getElem?_toArray, List.getElem?_cons_succ, List.getElem?_cons_zero]; exact rfl) (fun K hK => ?_) AllReadyM.nil)
     have f5 := A.s.c5
     have ff := A.fr
     go_simp
     clear f5 ff
     replace NT := NT.put (q := l1) (k := l2 + 5) hpl hil' (.slice a8 n8 c8)
     replace A := A.st2
     refine hK.out _ _ ⟨NT, .inl (by kernel_rfl)⟩ ?_
     clear hK K
     try simp only [Act.put, pA, pB, pC]
     generalize w10.setCell ⟨l1, l2 + 5, none⟩ (.slice a8 n8 c8) = w11 at *
     refine wpAnyM_done (by kernel_rfl) ?_ _
     have A6 : Hid (LpA W1 l1 l2 (x1, x2, x3, x4) q3 nk (.slice a7 n7 c7) (.slice a8 n8 c8) (.slice a7 n7 c7) (.slice a8 n8 c8) (t.bs.take (j + 1)) (t.is.take (j + 1)) w11) := by rw [HT1.out, HT2.out]; exact A
     clear A NT HT1 HT2
     go_wp2
     go_roundw
     case rel => exact ⟨j + 1, _, _, by omega, by go_num, A6⟩
     case measure => simp [intOf]; omega
   ·go_simp
    have hzB : ib < ww0.heap.size := World.block_lt_of_cell? _ _ NT.g
    have bq := below1 ww0 (.cells #[.int .i64 m] 3)
    have NW2 := one_newI ww0 3 m
    replace NT := NT.below bq
    replace A := A.below bq
    have NL := A.lo
    refine hK.out _ _ ⟨NT, .inr NL⟩ ?_
    clear hK K
    try simp only [Act.put, pA, pB, pC]
    generalize ww0.heap.size = zB at *
    generalize ww0.alloc (.cells #[.int .i64 m] 3) = w20 at *
    clear bq
    refine wpAnyM_ready (rs := [11]) (by kernel_rfl) (by simp) (AllReadyM.cons (by simp only [List.getElem?_toArray, List.getElem?_cons_succ, List.getElem?_cons_zero]; exact rfl) (fun K hK => ?_) AllReadyM.nil)
    go_simp
    have bq := below1 w20 (.cells #[.int .i64 y1, .int .i64 y2, .int .i64 y3, .int .i64 y4] 27)
    have NW1 := box_new w20 27 y1 y2 y3 y4
    replace NT := NT.below bq
    replace A := A.below bq
    have NL := A.lo
    replace NW2 := fun j z hz => bat bq (NW2 j z hz)
    refine hK.out _ _ ⟨NT, .inr NL⟩ ?_
    clear hK K
    try simp only [Act.put, pA, pB, pC]
    generalize w20.heap.size = zA at *
    generalize w20.alloc (.cells #[.int .i64 y1, .int .i64 y2, .int .i64 y3, .int .i64 y4] 27) = w11_20 at *
    clear bq
    refine wpAnyM_ready (rs := [12]) (by kernel_rfl) (by simp) (AllReadyM.cons (by simp only [List.getElem?_toArray, List.getElem?_cons_succ, List.getElem?_cons_zero]; exact rfl) (fun K hK => ?_) AllReadyM.nil)
    refine wp_append_at (.tmp 46) (.tmp 49) 28 rfl W1.heap.size 27 iB (.agg #[.int .i64 0, .int .i64 0, .int .i64 0, .int .i64 0]) 4 32 Tryz.underlying28 hiB hB0 hB1 hB2 rfl (by decide) u1 bj.length (boxC bj) rfl A.r1 ⟨zA, 0, none⟩ 1 _ (boxC [(y1, y2, y3, y4)]) rfl rfl NW1 (boxC_ones _) (by have := HB.out; unfold maxLen; omega) (by have := HB.out; omega) A.te.g.size ?_
    intro v7 w11_12_20 R7 G7 _
    replace NT := NT.grown G7 np1 nib
    have NW2' := fun j z hz => rowG (NW2 j z hz) G7 (fun e => by have := (hown1 zB e.symm).2; omega)
    replace NW2 := NW2'
    clear NW2'
    have R7' := RowBx.snoc R7
    obtain ⟨a7, c7, ev7, _⟩ := RowBx.sees R7'
    obtain ⟨n7, hn7⟩ : ∃ n, (bj ++ [(y1, y2, y3, y4)]).length = n := ⟨_, rfl⟩
    rw [hn7] at ev7
    subst ev7
    replace A := A.app1 G7 R7'
    clear hn7
    have NL := A.lo
    clear NW1 R7 R7' G7
    refine hK.out _ _ ⟨NT, .inr NL⟩ ?_
    clear hK K
    try simp only [Act.put, pA, pB, pC]
    refine wpAnyM_ready (rs := [21]) (by kernel_rfl) (by simp) (AllReadyM.cons (by simp only [List.getElem?_toArray, List.getElem?_cons_succ, List.getElem?_cons_zero]; exact rfl) (fun K hK => ?_) AllReadyM.nil)
    refine wp_append_at (.tmp 55) (.tmp 58) 29 rfl W1.heap.size 3 iI (.int .i64 0) 1 8 Tryz.underlying29 hiI hI0 hI1 hI2 rfl (by decide) u2 ij.length (ij.map (Value.int .i64)) rfl A.r2 ⟨zB, 0, none⟩ 1 _ ([m].map (Value.int .i64)) rfl rfl NW2 (onesI _) (by have := HB.out; unfold maxLen; omega) (by have := HB.out; omega) A.te.g.size ?_
    intro v8 w11_12_20_21 R8 G8 _
    replace NT := NT.grown G8 np2 nib2
    have R8' := RowI.snoc R8 rfl
    obtain ⟨a8, c8, ev8, _⟩ := rowI_sees R8'
    obtain ⟨n8, hn8⟩ : ∃ n, (ij ++ [m]).length = n := ⟨_, rfl⟩
    rw [hn8] at ev8
    subst ev8
    replace A := A.app2 G8 R8'
    clear hn8
    have NL := A.lo
    clear NW2 R8 R8' G8
    refine hK.out _ _ ⟨NT, .inr NL⟩ ?_
    clear hK K
    try simp only [Act.put, pA, pB, pC]
    generalize w11_12_20_21 = w9 at *
    refine takeT (i := 22) (by simp only [List.getElem?_toArray, List.getElem?_cons_succ, List.getElem?_cons_zero]; exact rfl) (by kernel_rfl) (by kernel_rfl) (by kernel_rfl) (by exact fun _ _ _ h => h) (by decide) (by rfl) (by intro wq hSw; go_simp <;> with_reducible rfl) ⟨NT, .inr NL⟩ ?_
    try simp only [Act.put, pA, pB, pC]
    refine takeT (i := 23) (by simp only [List.getElem?_toArray, List.getElem?_cons_succ, List.getElem?_cons_zero]; exact rfl) (by kernel_rfl) (by kernel_rfl) (by kernel_rfl) (by exact fun _ _ _ h => h) (by decide) (by rfl) (by intro wq hSw; go_simp <;> with_reducible rfl) ⟨NT, .inr NL⟩ ?_
    try simp only [Act.put, pA, pB, pC]
    refine wpAnyM_ready (rs := [24]) (by kernel_rfl) (by simp) (AllReadyM.cons (by simp only [List.getElem?_toArray, List.getElem?_cons_succ, List.getElem?_cons_zero]; exact rfl) (fun K hK => ?_) AllReadyM.nil)
    have f4 := A.s.c4
    have ff := A.fr
    go_simp
    clear f4 ff NL
    replace NT := NT.put (q := l1) (k := l2 + 4) hpl hil' (.slice a7 n7 c7)
    replace A := A.st1
    refine hK.out _ _ ⟨NT, .inl (by kernel_rfl)⟩ ?_
    clear hK K
    try simp only [Act.put, pA, pB, pC]
    generalize w9.setCell ⟨l1, l2 + 4, none⟩ (.slice a7 n7 c7) = w10 at *
    refine takeT (i := 25) (by simp only [List.getElem?_toArray, List.getElem?_cons_succ, List.getElem?_cons_zero]; exact rfl) (by kernel_rfl) (by kernel_rfl) (by kernel_rfl) (by exact fun _ _ _ h => h) (by decide) (by rfl) (by intro wq hSw; go_simp <;> with_reducible rfl) ⟨NT, .inl (by kernel_rfl)⟩ ?_
    try simp only [Act.put, pA, pB, pC]
    refine takeT (i := 26) (by simp only [List.getElem?_toArray, List.getElem?_cons_succ, List.getElem?_cons_zero]; exact rfl) (by kernel_rfl) (by kernel_rfl) (by kernel_rfl) (by exact fun _ _ _ h => h) (by decide) (by rfl) (by intro wq hSw; go_simp <;> with_reducible rfl) ⟨NT, .inl (by kernel_rfl)⟩ ?_
    try simp only [Act.put, pA, pB, pC]
    refine wpAnyM_ready (rs := [27]) (by kernel_rfl) (by simp) (AllReadyM.cons (by simp only [List.getElem?_toArray, List.getElem?_cons_succ, List.getElem?_cons_zero]; exact rfl) (fun K hK => ?_) AllReadyM.nil)
    have f5 := A.s.c5
    have ff := A.fr
    go_simp
    clear f5 ff
    replace NT := NT.put (q := l1) (k := l2 + 5) hpl hil' (.slice a8 n8 c8)
    replace A := A.st2
    refine hK.out _ _ ⟨NT, .inl (by kernel_rfl)⟩ ?_
    clear hK K
    try simp only [Act.put, pA, pB, pC]
    generalize w10.setCell ⟨l1, l2 + 5, none⟩ (.slice a8 n8 c8) = w11 at *
    refine wpAnyM_done (by kernel_rfl) ?_ _
    have A6 : Hid (LpA W1 l1 l2 (x1, x2, x3, x4) q3 nk (.slice a7 n7 c7) (.slice a8 n8 c8) (.slice a7 n7 c7) (.slice a8 n8 c8) (t.bs.take (j + 1)) (t.is.take (j + 1)) w11) := by rw [HT1.out, HT2.out]; exact A
    clear A NT HT1 HT2
    go_wp2
    go_roundw
    case rel => exact ⟨j + 1, _, _, by omega, by go_num, A6⟩
    case measure => simp [intOf]; omega
  ·obtain rfl : j = t.bs.length := by omega
   have AF : Hid (LpA W1 l1 l2 (x1, x2, x3, x4) q3 nk u1 u2 u1 u2 t.bs t.is wr) := by
    have h := AH.out
    rw [List.take_length, hil, List.take_length] at h
    exact h
   have e0 := AF.out.te.at' _ _ _ HP0.out (nP _)
   have e5 := AF.out.te.at' _ _ _ HK5.out (nK _)
   have R0 := RowTe.nil (w.heap.size) wr
   have TE0 := TeB.refl wr (l1, l2)
   clear AH
   have hmq := SQ.max
   have hfq := SQ.fits
   unfold maxLen at hmq
   rw [hkl] at hfq
   have hqs : nk ≤ 1048576 := hnk
   go_wp2
   go_loopw [5, 6, 7, 71] (fun s5 _ _ s71 wx => ∃ (j : Nat), j ≤ nk ∧ s71 = .int .i64 j ∧ Hid (RowTe w.heap.size wx s5 ((teK qs q3).take j)) ∧ Hid (Below wr.heap.size wr wx) ∧ Hid (∀ k, s5.ownBlock = some k → wr.heap.size ≤ k)) (fun _ _ _ s71 _ => nk - (intOf s71).toNat)
   case atStart => exact ⟨0, Nat.zero_le _, rfl, R0, Below.refl _ _, fun k e => by cases e⟩
   case round =>
    clear R0 e0 e5 TE0
    obtain ⟨j, hj, rfl, RR, BX, OW⟩ := hrel
    rename World => wx
    have AX : Hid (LpA W1 l1 l2 (x1, x2, x3, x4) q3 nk u1 u2 u1 u2 t.bs t.is wx) := AF.out.below BX.out
    by_cases hlt : j < nk
    ·obtain ⟨b2, o2, ea, hc⟩ := SQ.cells (by intro e; rw [e] at hkl; simp at hkl; omega)
     have i0 := hc j (by omega)
     have hbq := SQold b2 o2 ea
     have nI : ∀ k, ¬ (b2 = ((l1, l2) : Ptr).1 ∧ ((l1, l2) : Ptr).2 ≤ k ∧ k < ((l1, l2) : Ptr).2 + 7) := fun k h => by have := h.1; dsimp only at this; omega
     replace i0 := AX.out.te.at' _ _ _ i0 (nI _)
     obtain ⟨eq0, _⟩ := KL.2 j (by have := HNK.out; omega)
     unfold ptV at i0
     rw [eq0] at i0
     have e1 := AX.out.te.at' _ _ _ HP1.out (nP _)
     have e6 := AX.out.s.c6
     have HTE : Hid ((teK qs q3).take (j + 1) = (teK qs q3).take j ++ [(((ptAt qs j).1, 0), (q3, j * 7))]) := by
      show _ = _
      exact teK_take (by omega) eq0
     generalize (ptAt qs j).1 = kp at *
     have hb := below1 wx (.cells #[.pointer (some ⟨kp, 0, none⟩), .pointer (some ⟨q3, j * 7, none⟩)] 87)
     have NW := te_new wx 87 kp q3 (j * 7)
     have R2 : RowTe w.heap.size (wx.alloc (.cells #[.pointer (some ⟨kp, 0, none⟩), .pointer (some ⟨q3, j * 7, none⟩)] 87)) _ ((teK qs q3).take j) := RR.out.below hb
     have hlj : ((teK qs q3).take j).length ≤ 1048576 := by rw [List.length_take, teK_len]; omega
     have B3 := BX.out.trans (hb.mono BX.out.size)
     have hww : w.heap.size ≤ wr.heap.size := by have := AF.out.te.g.size; omega
     have hz : w.heap.size ≤ (wx.alloc (.cells #[.pointer (some ⟨kp, 0, none⟩), .pointer (some ⟨q3, j * 7, none⟩)] 87)).heap.size := Nat.le_trans hww B3.size
     have hwz : wr.heap.size ≤ wx.heap.size := BX.out.size
     generalize (teK qs q3).take j = ej at *
     subst ea
     clear RR hb hc AX BX
     go_wp2_with (at_builtin; refine wpList_append_own_at _ rfl (.tmp 76) (.tmp 86) 106 rfl w.heap.size 87 iT (.agg #[.pointer none, .pointer none]) 2 16 Tryz.underlying106 hiT hT0 hT1 hT2 rfl (by decide) _ ej.length (teC ej) rfl R2 ⟨wx.heap.size, 0, none⟩ 1 _ (teC [((kp, 0), (q3, j * 7))]) rfl rfl NW (teC_ones _) (by unfold maxLen; omega) (by omega) hz ?_; intro v7 w7 R8 G7 nil7 A7; replace R8 := RowTe.snocs R8; clear nil7)
     have B8 : Hid (Below wr.heap.size wr w7) := B3.grown G7 B3.size (fun k e => OW.out k e)
     have R9 : Hid (RowTe w.heap.size w7 v7 ((teK qs q3).take (j + 1))) := by show RowTe _ _ _ _; rw [HTE.out]; exact R8
     have O9 : Hid (∀ k, v7.ownBlock = some k → wr.heap.size ≤ k) := fun k e => by
      rcases A7 with c | c
      ·rw [c] at e; exact OW.out k e
      ·rw [c] at e
       injection e with e
       rw [World.size_alloc] at e
       omega
     clear R8 G7 A7 R2 B3 OW HTE
     go_roundw
     case rel =>
      refine ⟨_, _, _, _, ?rel2, rfl, rfl, rfl, rfl⟩
      case rel2 => exact ⟨j + 1, by omega, by go_num, R9, B8, O9⟩
     case measure => simp [intOf]; omega
    ·obtain rfl : j = nk := by omega
     have RF := RR.out
     rw [List.take_of_length_le (by rw [teK_len]; omega)] at RF
     have AXX := AX.out
     have TT : Told w wx (l1, l2) t q3 := by
      have TB : TeB w wx (l1, l2) := TWto AXX.te
      refine ⟨TB.g.size, TB.at', TB.fr, by omega, fun _ => ?_, fun _ o => ?_, ?_, fun i hi => zeroN AXX.r3 i (by have := HNK.out; omega)⟩
      ·obtain ⟨cs, e⟩ := AXX.n3
       exact (Array.getElem?_eq_some_iff.1 e).1
      ·obtain ⟨cs, e⟩ := AXX.n3
       simp [World.frozen?, e]
      ·obtain ⟨b1, d1, ev1, s1⟩ := RowBx.sees AXX.r1
       obtain ⟨b2, d2, ev2, s2⟩ := rowI_sees AXX.r2
       have S := AXX.s
       rw [ev1, ev2] at S
       rw [HNK.out, ux.out]
       have in1 : ∀ {e s n : Nat} {a : Option Addr} {d : Nat} {xs : List Value}, wx.ownsRow W1.heap.size e s (.slice a n d) n xs → ∃ q, In1 wx (fun q => w.heap.size ≤ q) n a q ∧ (0 < n → ∃ cs : Array Value, wx.heap[q]? = some (.cells cs e (0, 0))) := fun {e s n a d xs} h => by
        rcases h.2 with ⟨hv, h0⟩ | ⟨g, cap', cur, hv, hb, hh, _⟩
        ·exact ⟨0, ⟨fun c => by omega, fun c => by omega, fun c => by omega, fun c => by omega⟩, fun c => by omega⟩
        ·injection hv with e1 _ _
         subst e1
         exact ⟨g, ⟨fun _ => rfl, fun _ => by show w.heap.size ≤ g; omega, fun _ => (Array.getElem?_eq_some_iff.1 hh).1, fun _ o => by simp [World.frozen?, hh]⟩, fun _ => ⟨cur, hh⟩⟩
       have r1 := AXX.r1
       have r2 := AXX.r2
       rw [ev1] at r1
       rw [ev2] at r2
       obtain ⟨q1, j1, t1⟩ := in1 r1
       obtain ⟨q2, j2, t2⟩ := in1 r2
       obtain ⟨c3, t3⟩ := AXX.n3
       have dif : ∀ {q q' : Nat} {e e' : TypeId} {c c' : Array Value}, wx.heap[q]? = some (.cells c e (0, 0)) → wx.heap[q']? = some (.cells c' e' (0, 0)) → e ≠ e' → q ≠ q' := fun {q q' e e' c c'} h h' ne eq => by
        rw [eq, h'] at h
        injection h with h
        injection h with _ h _
        exact ne h.symm
       exact ⟨b1, d1, b2, d2, some ⟨q3, 0, none⟩, _, q1, q2, S, s1, s2, j1, j2, Nat.le_refl _, by unfold maxLen; omega, fun _ => rfl, fun h1 h2 => by obtain ⟨c1, t1⟩ := t1 h1; obtain ⟨c2, t2⟩ := t2 h2; exact dif t1 t2 (by decide), fun h1 => by obtain ⟨c1, t1⟩ := t1 h1; exact dif t1 t3 (by decide), fun h2 => by obtain ⟨c2, t2⟩ := t2 h2; exact dif t2 t3 (by decide)⟩
     have HT : Hid (Told w wx (l1, l2) t q3) := TT
     have HB : Hid (TeB w wx (l1, l2)) := TWto AXX.te
     clear RR AX TT AXX BX OW AF
     go_wp2
     go_ret
     exact ⟨_, qs, q3, rfl, RF, KL, HT.out, HB.out⟩
end Go.Proofs.YtinlomcaagdbiaaGreat
