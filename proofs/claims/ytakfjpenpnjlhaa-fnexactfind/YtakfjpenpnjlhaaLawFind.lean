/- The law on Find: at every argument the program's Find is the specification's, field by field; it writes into no argument and keeps nothing of one; its answer owns its memory. -/
import Derived.Test.YtakfjpenpnjlhaaFndI
import Derived.Test.YtakfjpenpnjlhaaMkE
import Derived.Test.YtakfjpenpnjlhaaMarkH
namespace Go.Proofs.Ytakfjpenpnjlhaa
open Go.RowKit

theorem Box2.underF {lo p b : Nat} {w w' : World} {x0 x1 : Value} (h : Box2 lo w p x0 x1) (hb : Below b w w') (hp : p < b) : Box2 lo w' p x0 x1 := by
  have e := hb.block p hp
  exact ⟨(World.cell?_of_block (a := ⟨p, 0, none⟩) e).trans h.c0, (World.cell?_of_block (a := ⟨p, 1, none⟩) e).trans h.c1, fun o => (World.frozen?_of_block (a := ⟨p, o, none⟩) e).trans (h.fr o), h.lo⟩

set_option maxRecDepth 20000 in
set_option maxHeartbeats 4000000 in
theorem lawFind (a : Option Addr) (c : Nat) (es : List En) (x : Int) (w : World) (h : SeesEn w a c es) :
    Calls Try.prog 5 #[.slice a es.length c, .int .i64 x] w fun e w' => e = .returned (.bool true) ∧ Below w.heap.size w w' := by
  obtain ⟨⟨n, ts, r⟩, HT⟩ : ∃ u, Hid (fnV es x = u) := ⟨_, rfl⟩
  have hr : (r != r) = false := by cases r <;> rfl
  have B0 : Below w.heap.size w w := Below.refl _ _
  go_enter Try.func5, Try.ntmps5
  go_wp2_with fail
  refine (szEntries a c es 1048576 _ h (by omega)).mono ?_
  rintro e w1 ⟨z1, rfl, hz1, hb⟩
  replace B0 := B0.trans (hb.mono B0.size)
  clear hb
  rcases hz1 with rfl | ⟨z10, hz1⟩
  · go_wp2
    go_ret
    exact ⟨rfl, B0⟩
  · have L1 : Hid (uptoE es es.length ≤ 1048576) := by show _ ≤ _; omega
    have L2 : Hid (upto ts ts.length ≤ 1048576) := by show _ ≤ _; have := fnV_upto es x L1.out; rw [HT.out] at this; exact this
    have L3 : Hid (es.length ≤ maxLen) := by show _ ≤ _; have := uptoE_le es 0 es.length; simp only [uptoE, Nat.zero_add] at this; unfold maxLen; omega
    clear hz1
    go_wp2_with fail
    refine (toEntries a c es _ (h.below B0) L1.out).mono ?_
    rintro e w2 ⟨rfl, ⟨gb3, tp3, o3⟩, hb⟩
    replace B0 := B0.trans (hb.mono B0.size)
    clear hb
    go_wp2_with fail
    refine (specFind _ gb3 tp3 es x _ o3 L1.out).mono ?_
    rintro e w3 ⟨k0, v0, vs0, rs0, r0, rfl, hq, R0, hb⟩
    rw [HT.out] at hq
    simp only [Prod.mk.injEq] at hq
    obtain ⟨e1, e2, e3⟩ := hq
    replace e1 := e1.symm
    replace e2 := e2.symm
    replace e3 := e3.symm
    subst e1 e2 e3
    replace B0 := B0.trans (hb.mono B0.size)
    have hB3 : w.heap.size ≤ w3.heap.size := B0.size
    clear hb o3
    obtain ⟨e0, f0, rfl, _, _⟩ := R0.shape
    have l0 := R0.len.out
    rw [l0] at R0 ⊢
    have Q0 : Hid ((∀ k, (Value.slice e0 ts.length f0).ownBlock = some k → k < w3.heap.size) ∧ ∀ u ∈ vs0, ∀ k, u.ownBlock = some k → k < w3.heap.size) := ⟨fun k hk => (R0.lts.1 k hk).2, fun u hu k hk => (R0.lts.2 u hu k hk).2⟩
    have bn := below1 w3 (.cells #[.int .i64 n, .slice e0 ts.length f0] 31)
    have V2 := Box2.new w3 (lo := 0) (by omega) (.int .i64 n) (.slice e0 ts.length f0) 31
    have hz4 : w3.heap.size < (w3.alloc (.cells #[.int .i64 n, .slice e0 ts.length f0] 31)).heap.size := V2.lt
    replace B0 := B0.trans (bn.mono B0.size)
    replace R0 := R0.below bn
    clear bn l0
    go_wp2_with fail
    generalize w3.alloc (.cells #[.int .i64 n, .slice e0 ts.length f0] 31) = W4 at *
    generalize w3.heap.size = q3 at *
    refine (toEntries a c es _ (h.below B0) L1.out).mono ?_
    rintro e x4 ⟨rfl, ⟨gb, tp, o5⟩, hb⟩
    have M5 : Hid (MkEn x4 W4.heap.size es gb tp) := o5.marks
    have M6 : Hid (∀ i, i < es.length → tp i ≤ x4.heap.size) := fun i hi => (o5.o i hi).2.2
    have hgx : W4.heap.size < x4.heap.size := o5.lt
    have s5 := o5.sees L3.out
    replace B0 := B0.trans (hb.mono B0.size)
    replace V2 := V2.below hb
    replace R0 := R0.below hb
    have BX : Below x4.heap.size x4 x4 := Below.refl _ _
    clear hb o5
    go_wp2_with fail
    generalize hg4 : W4.heap.size = g4 at *
    refine (implFind _ _ es x _ s5 L1.out).mono ?_
    rintro e x6 ⟨k1, v1, vs1, rs1, r1, rfl, hq, R1, hb⟩
    rw [HT.out] at hq
    simp only [Prod.mk.injEq] at hq
    obtain ⟨e1, e2, e3⟩ := hq
    replace e1 := e1.symm
    replace e2 := e2.symm
    replace e3 := e3.symm
    subst e1 e2 e3
    obtain ⟨e1, f1, rfl, _, _⟩ := R1.shape
    have l1 := R1.len.out
    rw [l1] at R1 ⊢
    have Q1 : Hid ((∀ k, (Value.slice e1 ts.length f1).ownBlock = some k → x4.heap.size ≤ k) ∧ ∀ u ∈ vs1, ∀ k, u.ownBlock = some k → x4.heap.size ≤ k) := ⟨fun k hk => (R1.lts.1 k hk).1, fun u hu k hk => (R1.lts.2 u hu k hk).1⟩
    have Q2 : Hid (∀ u ∈ vs1, u.ownBlock ≠ some x6.heap.size) := fun u hu e => by have := (R1.lts.2 u hu _ e).2; omega
    have bn := below1 x6 (.cells #[.int .i64 n, .slice e1 ts.length f1] 31)
    have V4 := Box2.new x6 (lo := 0) (by omega) (.int .i64 n) (.slice e1 ts.length f1) 31
    have hx6 : x4.heap.size ≤ x6.heap.size := hb.size
    replace hb := hb.trans (bn.mono hb.size)
    replace R1 := R1.below bn
    replace BX := BX.trans (hb.mono BX.size)
    replace B0 := B0.trans (hb.mono B0.size)
    replace V2 := V2.below hb
    replace R0 := R0.below hb
    replace s5 := s5.below hb
    clear hb bn l1
    obtain ⟨k4, k5, _, _⟩ := id V4
    obtain ⟨k6, k7, _, _⟩ := id V2
    go_wp2_with fail
    generalize x6.alloc (.cells #[.int .i64 n, .slice e1 ts.length f1] 31) = X7 at *
    generalize hq6 : x6.heap.size = q6 at *
    generalize hq5 : x4.heap.size = q5 at *
    refine (eqShape_any n e1 e0 f1 f0 ts _ R1.sees R0.sees).mono ?_
    rintro e x8 ⟨rfl, hb⟩
    replace BX := BX.trans (hb.mono (by have := BX.size; omega))
    replace B0 := B0.trans (hb.mono B0.size)
    replace V2 := V2.below hb
    replace V4 := V4.below hb
    replace R0 := R0.below hb
    replace R1 := R1.below hb
    replace s5 := s5.below hb
    clear hb k4 k5 k6 k7
    go_wp2_with fail
    refine (toEntries a c es _ (h.below B0) L1.out).mono ?_
    rintro e y1 ⟨rfl, ⟨gb8, tp8, o8⟩, hb⟩
    have s8 := o8.sees L3.out
    replace BX := BX.trans (hb.mono (by have := BX.size; omega))
    replace B0 := B0.trans (hb.mono B0.size)
    replace V2 := V2.below hb
    replace V4 := V4.below hb
    replace R0 := R0.below hb
    replace R1 := R1.below hb
    replace s5 := s5.below hb
    clear hb o8
    go_wp2_with fail
    refine (eqEntries _ _ _ _ es _ s5 s8).mono ?_
    rintro e y2 ⟨rfl, hb⟩
    replace BX := BX.trans (hb.mono (by have := BX.size; omega))
    replace B0 := B0.trans (hb.mono B0.size)
    replace V2 := V2.below hb
    replace V4 := V4.below hb
    replace R0 := R0.below hb
    replace R1 := R1.below hb
    clear hb s5 s8
    have BX' : Below x4.heap.size x4 y2 := by rw [hq5]; exact BX
    go_wp2_with fail
    refine (markEntries g4 q5 es gb tp _ (M5.out.below BX') M6.out hgx L1.out).mono ?_
    rintro e y3 ⟨kk, rfl, kk0, PU⟩
    replace R0 := R0.puts PU (fun k hk => .inl (by have := Q0.out.1 k hk; omega)) (fun u hu k hk => .inl (by have := Q0.out.2 u hu k hk; omega))
    replace R1 := R1.puts PU (fun k hk => .inr (Q1.out.1 k hk)) (fun u hu k hk => .inr (Q1.out.2 u hu k hk))
    replace V2 := V2.puts PU (.inl (by omega))
    replace V4 := V4.puts PU (.inr (by omega))
    replace B0 := belowPuts B0 PU (by omega)
    have hkk : ¬ kk < 0 := by omega
    clear PU BX BX' M5 M6
    obtain ⟨k4, k5, _, _⟩ := id V4
    obtain ⟨k6, k7, _, _⟩ := id V2
    go_wp2_with fail
    refine (eqShape_any n e1 e0 f1 f0 ts _ R1.sees R0.sees).mono ?_
    rintro e y4 ⟨rfl, hb⟩
    replace B0 := B0.trans (hb.mono B0.size)
    replace V2 := V2.below hb
    replace V4 := V4.below hb
    replace R0 := R0.below hb
    replace R1 := R1.below hb
    clear hb k4 k5 k6 k7
    obtain ⟨k4, k5, _, _⟩ := id V4
    go_wp2_with fail
    refine (markShR n q5 e1 f1 vs1 ts _ R1 L2.out).mono ?_
    rintro e y5 ⟨rfl, R5, B5, KB⟩
    have bn := below1 y4 (.cells #[.int .i64 n, .slice e1 ts.length f1] 31)
    have U0 := (R0.below bn).under B5 (fun k hk => by have := Q0.out.1 k hk; omega) (fun u hu k hk => by have := Q0.out.2 u hu k hk; omega)
    replace V2 := (V2.below bn).underF B5 (by omega)
    replace V4 := (V4.below bn).but KB Q2.out
    replace B0 := (B0.trans (bn.mono B0.size)).trans (B5.mono (by omega))
    have kp := (kOf_bd L2.out (Nat.le_refl _)).1
    have S5 : Hid (SeesS y5 e1 f1 (mkRs ts ts.length)) := R5.sees
    clear bn B5 KB R1 R5 R0 k4 k5
    obtain ⟨k9, hk9⟩ : ∃ k, Hid (kOf ts ts.length = k) := ⟨_, rfl⟩
    rw [hk9.out] at kp ⊢
    have hk9n : (k9 != k9) = false := by simp
    obtain ⟨k4, k5, _, _⟩ := id V4
    go_wp2_with fail
    refine (heldShR n e1 f1 ts _ S5.out L2.out).mono ?_
    rintro e y6 ⟨rfl, hb⟩
    rw [hk9.out]
    replace B0 := B0.trans (hb.mono B0.size)
    replace V2 := V2.below hb
    replace V4 := V4.below hb
    replace U0 := U0.below hb
    have S6 : Hid (SeesS y6 e1 f1 (mkRs ts ts.length)) := S5.out.below hb
    clear hb S5 k4 k5
    go_wp2_with fail
    refine (toEntries a c es _ (h.below B0) L1.out).mono ?_
    rintro e y7 ⟨rfl, ⟨gb9, tp9, o9⟩, hb⟩
    have s9 := o9.sees L3.out
    replace B0 := B0.trans (hb.mono B0.size)
    replace V2 := V2.below hb
    replace V4 := V4.below hb
    replace U0 := U0.below hb
    have S7 : Hid (SeesS y7 e1 f1 (mkRs ts ts.length)) := S6.out.below hb
    clear hb S6 o9
    go_wp2_with fail
    refine (implFind _ _ es x _ s9 L1.out).mono ?_
    rintro e y8 ⟨k2, v2, vs2, rs2, r2, rfl, hq, R2, hb⟩
    rw [HT.out] at hq
    simp only [Prod.mk.injEq] at hq
    obtain ⟨d1, d2, d3⟩ := hq
    replace d1 := d1.symm
    replace d2 := d2.symm
    replace d3 := d3.symm
    subst d1 d2 d3
    obtain ⟨e2, f2, rfl, _, _⟩ := R2.shape
    have l2 := R2.len.out
    rw [l2] at R2 ⊢
    have bn := below1 y8 (.cells #[.int .i64 n, .slice e2 ts.length f2] 31)
    have V5 := Box2.new y8 (lo := 0) (by omega) (.int .i64 n) (.slice e2 ts.length f2) 31
    replace hb := hb.trans (bn.mono hb.size)
    replace B0 := B0.trans (hb.mono B0.size)
    replace V2 := V2.below hb
    replace V4 := V4.below hb
    replace U0 := U0.below hb
    have S8 : Hid (SeesS (y8.alloc (.cells #[.int .i64 n, .slice e2 ts.length f2] 31)) e1 f1 (mkRs ts ts.length)) := S7.out.below hb
    replace R2 := R2.below bn
    clear hb bn s9 l2 S7
    obtain ⟨k4, k5, _, _⟩ := id V5
    obtain ⟨k6, k7, _, _⟩ := id V2
    go_wp2_with fail
    generalize y8.alloc (.cells #[.int .i64 n, .slice e2 ts.length f2] 31) = Y9 at *
    refine (eqShape_any n e2 e0 f2 f0 ts _ R2.sees U0.sees).mono ?_
    rintro e y9 ⟨rfl, hb⟩
    replace B0 := B0.trans (hb.mono B0.size)
    replace V4 := V4.below hb
    have S9 : Hid (SeesS y9 e1 f1 (mkRs ts ts.length)) := S8.out.below hb
    clear hb k4 k5 k6 k7 S8
    obtain ⟨k4, k5, _, _⟩ := id V4
    go_wp2_with fail
    refine (heldShR n e1 f1 ts _ S9.out L2.out).mono ?_
    rintro e y10 ⟨rfl, hb⟩
    rw [hk9.out]
    replace B0 := B0.trans (hb.mono B0.size)
    clear hb
    go_wp2
    go_ret
    exact ⟨rfl, B0⟩
end Go.Proofs.Ytakfjpenpnjlhaa
