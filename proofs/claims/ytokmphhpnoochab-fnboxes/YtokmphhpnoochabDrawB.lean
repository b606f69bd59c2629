/- Two boxes of a code, a box and a point: spec.DrawJoin, spec.DrawInBox. -/
import Derived.Test.YtokmphhpnoochabCurX
import Derived.Test.YtokmphhpnoochabHeldQ
namespace Go.Proofs.Ytokmphhpnoochab
open Go.RowKit

theorem below_grownB {b p : Nat} {w w1 w2 : World} (h : Below b w w1) (g : w1.grownBy w2 (some p)) (hp : b ≤ p) (hs : b ≤ w1.heap.size) : Below b w w2 :=
  h.trans ⟨g.os, g.tape, g.output, g.size, fun i hi => g.block i (by omega) (by intro e; simp at e; omega)⟩

theorem Box2.oldAny {lo p q : Nat} {w : World} {x0 x1 : Value} (h : Box2 lo w q x0 x1) (ne : q ≠ p) (i : Nat) (u : Value) : Box2 lo (w.setCell ⟨p, i, none⟩ u) q x0 x1 :=
  ⟨(cell_other (.inl (Ne.symm ne)) u).trans h.c0, (cell_other (.inl (Ne.symm ne)) u).trans h.c1, fun o => (World.frozen?_setCell ..).trans (h.fr o), h.lo⟩

set_option maxRecDepth 20000 in
set_option maxHeartbeats 4000000 in
theorem drawJoin_any (a : Option Addr) (n cap : Nat) (w : World) (hB : Byt w a n) (hm : n ≤ 1048576) :
    Calls Try.prog 23 #[.slice a n cap] w fun e w' => ∃ u1 u2 u3 u4 u5 u6 u7 u8 : Int, e = .returned (.tuple #[.agg #[.int .i64 u1, .int .i64 u2, .int .i64 u3, .int .i64 u4], .agg #[.int .i64 u5, .int .i64 u6, .int .i64 u7, .int .i64 u8]]) ∧ Below w.heap.size w w' := by
  have HM : Hid (n ≤ 1048576) := hm
  have R1 := (Box4.new w (Nat.le_refl _) (.int .i64 0) (.int .i64 0) (.int .i64 0) (.int .i64 0) 31).below (below1 _ (.cells #[.int .i64 0, .int .i64 0, .int .i64 0, .int .i64 0] 31))
  have R2 := Box4.new (w.alloc (.cells #[.int .i64 0, .int .i64 0, .int .i64 0, .int .i64 0] 31)) (lo := w.heap.size) (by simp) (.int .i64 0) (.int .i64 0) (.int .i64 0) (.int .i64 0) 31
  simp only [World.size_alloc] at R2
  have N := below2 w (.cells #[.int .i64 0, .int .i64 0, .int .i64 0, .int .i64 0] 31) (.cells #[.int .i64 0, .int .i64 0, .int .i64 0, .int .i64 0] 31)
  have hB' := hB.below N
  have sz : ((w.alloc (.cells #[.int .i64 0, .int .i64 0, .int .i64 0, .int .i64 0] 31)).alloc (.cells #[.int .i64 0, .int .i64 0, .int .i64 0, .int .i64 0] 31)).heap.size = w.heap.size + 1 + 1 := by simp
  clear hB hm
  go_enter Try.func23, Try.ntmps23
  go_wp2_with fail
  generalize (w.alloc (.cells #[.int .i64 0, .int .i64 0, .int .i64 0, .int .i64 0] 31)).alloc (.cells #[.int .i64 0, .int .i64 0, .int .i64 0, .int .i64 0] 31) = W0 at *
  refine (l1New_any a n cap _ hB' HM.out).mono ?_
  rintro e w1 ⟨rfl, hc, hb⟩
  replace R1 := R1.below hb
  replace R2 := R2.below hb
  replace N := N.trans (hb.mono N.size)
  rw [sz] at hc
  rw [sz]
  clear hb hB' sz
  have nn : w.heap.size ≤ w.heap.size + 1 + 1 := by omega
  go_wp2_with fail
  refine (l4Draw_any (w.heap.size + 1 + 1) a n cap _ hc).mono ?_
  rintro e w2 ⟨u1, u2, u3, u4, rfl, h2, g⟩
  replace R1 := R1.grown g (by omega)
  replace R2 := R2.grown g (by omega)
  replace N := below_grownB N g nn N.size
  clear g hc
  have P := Box4.new w2 N.size (.int .i64 u1) (.int .i64 u2) (.int .i64 u3) (.int .i64 u4) 31
  have bn := below1 w2 (.cells #[.int .i64 u1, .int .i64 u2, .int .i64 u3, .int .i64 u4] 31)
  have l1 := R1.lt
  have l2 := R2.lt
  have l3 := h2.lt
  replace R1 := R1.below bn
  replace R2 := R2.below bn
  replace h2 := h2.below bn
  replace N := N.trans (bn.mono N.size)
  clear bn
  go_wp2_with fail
  generalize w2.alloc (.cells #[.int .i64 u1, .int .i64 u2, .int .i64 u3, .int .i64 u4] 31) = W2 at *
  generalize w2.heap.size = q at *
  have n1 : q ≠ w.heap.size := by omega
  have n2 : q ≠ w.heap.size + 1 := by omega
  have n3 : q ≠ w.heap.size + 1 + 1 := by omega
  have n4 : w.heap.size + 1 ≠ w.heap.size := by omega
  have n5 : w.heap.size ≠ w.heap.size + 1 + 1 := by omega
  have n6 : w.heap.size + 1 ≠ w.heap.size + 1 + 1 := by omega
  refine wp_region_held_drew (S := fun w' => w'.cell? ⟨q, 0, none⟩ = some (.int .i64 u1) ∧ w'.cell? ⟨q, 1, none⟩ = some (.int .i64 u2) ∧ w'.cell? ⟨q, 2, none⟩ = some (.int .i64 u3) ∧ w'.cell? ⟨q, 3, none⟩ = some (.int .i64 u4)) (by kernel_rfl) ⟨P.c0, P.c1, P.c2, P.c3⟩ (fun hHeld => ?_)
  have dr : Below W2.heap.size W2 W2.drew := (Below.refl _ _).drew
  replace P := P.below dr
  replace R1 := R1.below dr
  replace R2 := R2.below dr
  replace h2 := h2.below dr
  replace N := N.drew
  clear dr
  generalize W2.drew = V0 at *
  refine takeQ (i := 0) (gt rfl) (by kernel_rfl) (fun _ _ _ h => h) (by rfl) (by intro wq hSw; obtain ⟨q0, q1, q2, q3⟩ := hSw; go_simp <;> with_reducible rfl) (by assumption) ?_
  try simp only [Act.put, sA, sB, sC]
  refine takeQ (i := 1) (gt rfl) (by kernel_rfl) (fun _ _ _ h => h) (by rfl) (by intro wq _; go_simp <;> with_reducible rfl) (by assumption) ?_
  try simp only [Act.put, sA, sB, sC]
  refine wpAnyH_ready (rs := [2]) (by kernel_rfl) (by simp) (AllReadyH.cons (gt rfl) (fun K hK => ?_) AllReadyH.nil)
  go_simp
  refine (l4Draw_any (w.heap.size + 1 + 1) a n cap _ h2).mono ?_
  rintro e V1 ⟨u5, u6, u7, u8, rfl, h3, g⟩
  replace P := P.grown g n3
  replace R1 := R1.grown g n5
  replace R2 := R2.grown g n6
  replace N := below_grownB N g nn N.size
  clear g h2 h3
  refine hK.out _ _ ⟨P.c0, P.c1, P.c2, P.c3⟩ (fun hHeld => ?_)
  clear hK K
  try simp only [Act.put, sA, sB, sC]
  refine wpAnyH_ready (rs := [3]) (by kernel_rfl) (by simp) (AllReadyH.cons (gt rfl) (fun K hK => ?_) AllReadyH.nil)
  have z0 := R1.c0
  have z1 := R1.c1
  have z2 := R1.c2
  have z3 := R1.c3
  have zf := R1.fr
  go_simp
  clear z0 z1 z2 z3 zf
  replace P := P.old n1 (.int .i64 u1) (.int .i64 u2) (.int .i64 u3) (.int .i64 u4)
  replace R2 := R2.old n4 (.int .i64 u1) (.int .i64 u2) (.int .i64 u3) (.int .i64 u4)
  replace N := Box4.chain N R1 (.int .i64 u1) (.int .i64 u2) (.int .i64 u3) (.int .i64 u4)
  replace R1 := R1.put (.int .i64 u1) (.int .i64 u2) (.int .i64 u3) (.int .i64 u4)
  refine hK.out _ _ ⟨P.c0, P.c1, P.c2, P.c3⟩ (fun hHeld => ?_)
  clear hK K
  try simp only [Act.put, sA, sB, sC]
  generalize (((V1.setCell ⟨w.heap.size, 0, none⟩ (.int .i64 u1)).setCell ⟨w.heap.size, 1, none⟩ (.int .i64 u2)).setCell ⟨w.heap.size, 2, none⟩ (.int .i64 u3)).setCell ⟨w.heap.size, 3, none⟩ (.int .i64 u4) = V2 at *
  refine wpAnyH_ready (rs := [4]) (by kernel_rfl) (by simp) (AllReadyH.cons (gt rfl) (fun K hK => ?_) AllReadyH.nil)
  have z0 := R2.c0
  have z1 := R2.c1
  have z2 := R2.c2
  have z3 := R2.c3
  have zf := R2.fr
  go_simp
  clear z0 z1 z2 z3 zf
  replace P := P.old n2 (.int .i64 u5) (.int .i64 u6) (.int .i64 u7) (.int .i64 u8)
  replace R1 := R1.old n4.symm (.int .i64 u5) (.int .i64 u6) (.int .i64 u7) (.int .i64 u8)
  replace N := Box4.chain N R2 (.int .i64 u5) (.int .i64 u6) (.int .i64 u7) (.int .i64 u8)
  replace R2 := R2.put (.int .i64 u5) (.int .i64 u6) (.int .i64 u7) (.int .i64 u8)
  refine hK.out _ _ ⟨P.c0, P.c1, P.c2, P.c3⟩ (fun hHeld => ?_)
  clear hK K
  try simp only [Act.put, sA, sB, sC]
  refine wpAnyH_done (by kernel_rfl) ?_ _
  obtain ⟨d0, d1, d2, d3, _, _⟩ := R1
  obtain ⟨e0, e1, e2, e3, _, _⟩ := R2
  go_wp2
  exact bodyPost_ret (v := .tuple #[.agg #[.int .i64 u1, .int .i64 u2, .int .i64 u3, .int .i64 u4], .agg #[.int .i64 u5, .int .i64 u6, .int .i64 u7, .int .i64 u8]]) (by simp [results, Try.results23, go_sem, d0, d1, d2, d3, e0, e1, e2, e3]) rfl ⟨_, _, _, _, _, _, _, _, rfl, N⟩

set_option maxRecDepth 20000 in
set_option maxHeartbeats 4000000 in
theorem drawInBox_any (a : Option Addr) (n cap : Nat) (w : World) (hB : Byt w a n) (hm : n ≤ 1048576) :
    Calls Try.prog 24 #[.slice a n cap] w fun e w' => ∃ u1 u2 u3 u4 u5 u6 : Int, e = .returned (.tuple #[.agg #[.int .i64 u1, .int .i64 u2, .int .i64 u3, .int .i64 u4], .agg #[.int .i64 u5, .int .i64 u6]]) ∧ Below w.heap.size w w' := by
  have HM : Hid (n ≤ 1048576) := hm
  have R1 := (Box4.new w (Nat.le_refl _) (.int .i64 0) (.int .i64 0) (.int .i64 0) (.int .i64 0) 31).below (below1 _ (.cells #[.int .i64 0, .int .i64 0] 25))
  have R2 := Box2.new (w.alloc (.cells #[.int .i64 0, .int .i64 0, .int .i64 0, .int .i64 0] 31)) (lo := w.heap.size) (by simp) (.int .i64 0) (.int .i64 0) 25
  simp only [World.size_alloc] at R2
  have N := below2 w (.cells #[.int .i64 0, .int .i64 0, .int .i64 0, .int .i64 0] 31) (.cells #[.int .i64 0, .int .i64 0] 25)
  have hB' := hB.below N
  have sz : ((w.alloc (.cells #[.int .i64 0, .int .i64 0, .int .i64 0, .int .i64 0] 31)).alloc (.cells #[.int .i64 0, .int .i64 0] 25)).heap.size = w.heap.size + 1 + 1 := by simp
  clear hB hm
  go_enter Try.func24, Try.ntmps24
  go_wp2_with fail
  generalize (w.alloc (.cells #[.int .i64 0, .int .i64 0, .int .i64 0, .int .i64 0] 31)).alloc (.cells #[.int .i64 0, .int .i64 0] 25) = W0 at *
  refine (l1New_any a n cap _ hB' HM.out).mono ?_
  rintro e w1 ⟨rfl, hc, hb⟩
  replace R1 := R1.below hb
  replace R2 := R2.below hb
  replace N := N.trans (hb.mono N.size)
  rw [sz] at hc
  rw [sz]
  clear hb hB' sz
  have nn : w.heap.size ≤ w.heap.size + 1 + 1 := by omega
  go_wp2_with fail
  refine (l4Draw_any (w.heap.size + 1 + 1) a n cap _ hc).mono ?_
  rintro e w2 ⟨u1, u2, u3, u4, rfl, h2, g⟩
  replace R1 := R1.grown g (by omega)
  replace R2 := R2.grown g (by omega)
  replace N := below_grownB N g nn N.size
  clear g hc
  have P := Box4.new w2 N.size (.int .i64 u1) (.int .i64 u2) (.int .i64 u3) (.int .i64 u4) 31
  have bn := below1 w2 (.cells #[.int .i64 u1, .int .i64 u2, .int .i64 u3, .int .i64 u4] 31)
  have l1 := R1.lt
  have l2 := R2.lt
  have l3 := h2.lt
  replace R1 := R1.below bn
  replace R2 := R2.below bn
  replace h2 := h2.below bn
  replace N := N.trans (bn.mono N.size)
  clear bn
  go_wp2_with fail
  generalize w2.alloc (.cells #[.int .i64 u1, .int .i64 u2, .int .i64 u3, .int .i64 u4] 31) = W2 at *
  generalize w2.heap.size = q at *
  have n1 : q ≠ w.heap.size := by omega
  have n2 : q ≠ w.heap.size + 1 := by omega
  have n3 : q ≠ w.heap.size + 1 + 1 := by omega
  have n4 : w.heap.size + 1 ≠ w.heap.size := by omega
  have n5 : w.heap.size ≠ w.heap.size + 1 + 1 := by omega
  have n6 : w.heap.size + 1 ≠ w.heap.size + 1 + 1 := by omega
  refine wp_region_held_drew (S := fun w' => w'.cell? ⟨q, 0, none⟩ = some (.int .i64 u1) ∧ w'.cell? ⟨q, 1, none⟩ = some (.int .i64 u2) ∧ w'.cell? ⟨q, 2, none⟩ = some (.int .i64 u3) ∧ w'.cell? ⟨q, 3, none⟩ = some (.int .i64 u4)) (by kernel_rfl) ⟨P.c0, P.c1, P.c2, P.c3⟩ (fun hHeld => ?_)
  have dr : Below W2.heap.size W2 W2.drew := (Below.refl _ _).drew
  replace P := P.below dr
  replace R1 := R1.below dr
  replace R2 := R2.below dr
  replace h2 := h2.below dr
  replace N := N.drew
  clear dr
  generalize W2.drew = V0 at *
  refine takeQ (i := 0) (gt rfl) (by kernel_rfl) (fun _ _ _ h => h) (by rfl) (by intro wq hSw; obtain ⟨q0, q1, q2, q3⟩ := hSw; go_simp <;> with_reducible rfl) (by assumption) ?_
  try simp only [Act.put, sA, sB, sC]
  refine takeQ (i := 1) (gt rfl) (by kernel_rfl) (fun _ _ _ h => h) (by rfl) (by intro wq _; go_simp <;> with_reducible rfl) (by assumption) ?_
  try simp only [Act.put, sA, sB, sC]
  refine wpAnyH_ready (rs := [2]) (by kernel_rfl) (by simp) (AllReadyH.cons (gt rfl) (fun K hK => ?_) AllReadyH.nil)
  go_simp
  refine (l3Draw_any (w.heap.size + 1 + 1) a n cap _ h2).mono ?_
  rintro e V1 ⟨u5, u6, rfl, h3, g⟩
  replace P := P.grown g n3
  replace R1 := R1.grown g n5
  replace R2 := R2.grown g n6
  replace N := below_grownB N g nn N.size
  clear g h2 h3
  refine hK.out _ _ ⟨P.c0, P.c1, P.c2, P.c3⟩ (fun hHeld => ?_)
  clear hK K
  try simp only [Act.put, sA, sB, sC]
  refine wpAnyH_ready (rs := [3]) (by kernel_rfl) (by simp) (AllReadyH.cons (gt rfl) (fun K hK => ?_) AllReadyH.nil)
  have z0 := R1.c0
  have z1 := R1.c1
  have z2 := R1.c2
  have z3 := R1.c3
  have zf := R1.fr
  go_simp
  clear z0 z1 z2 z3 zf
  replace P := P.old n1 (.int .i64 u1) (.int .i64 u2) (.int .i64 u3) (.int .i64 u4)
  replace R2 := ((((Box2.oldAny R2 n4 0 (.int .i64 u1)).oldAny n4 1 (.int .i64 u2)).oldAny n4 2 (.int .i64 u3)).oldAny n4 3 (.int .i64 u4))
  replace N := Box4.chain N R1 (.int .i64 u1) (.int .i64 u2) (.int .i64 u3) (.int .i64 u4)
  replace R1 := R1.put (.int .i64 u1) (.int .i64 u2) (.int .i64 u3) (.int .i64 u4)
  refine hK.out _ _ ⟨P.c0, P.c1, P.c2, P.c3⟩ (fun hHeld => ?_)
  clear hK K
  try simp only [Act.put, sA, sB, sC]
  generalize (((V1.setCell ⟨w.heap.size, 0, none⟩ (.int .i64 u1)).setCell ⟨w.heap.size, 1, none⟩ (.int .i64 u2)).setCell ⟨w.heap.size, 2, none⟩ (.int .i64 u3)).setCell ⟨w.heap.size, 3, none⟩ (.int .i64 u4) = V2 at *
  refine wpAnyH_ready (rs := [4]) (by kernel_rfl) (by simp) (AllReadyH.cons (gt rfl) (fun K hK => ?_) AllReadyH.nil)
  have z0 := R2.c0
  have z1 := R2.c1
  have zf := R2.fr
  go_simp
  clear z0 z1 zf
  replace P := (P.oldAny n2 0 (.int .i64 u5)).oldAny n2 1 (.int .i64 u6)
  replace R1 := (R1.oldAny n4.symm 0 (.int .i64 u5)).oldAny n4.symm 1 (.int .i64 u6)
  replace N := Box2.chain N R2 (.int .i64 u5) (.int .i64 u6)
  replace R2 := R2.put (.int .i64 u5) (.int .i64 u6)
  refine hK.out _ _ ⟨P.c0, P.c1, P.c2, P.c3⟩ (fun hHeld => ?_)
  clear hK K
  try simp only [Act.put, sA, sB, sC]
  refine wpAnyH_done (by kernel_rfl) ?_ _
  obtain ⟨d0, d1, d2, d3, _, _⟩ := R1
  obtain ⟨e0, e1, _, _⟩ := R2
  go_wp2
  exact bodyPost_ret (v := .tuple #[.agg #[.int .i64 u1, .int .i64 u2, .int .i64 u3, .int .i64 u4], .agg #[.int .i64 u5, .int .i64 u6]]) (by simp [results, Try.results24, go_sem, d0, d1, d2, d3, e0, e1]) rfl ⟨_, _, _, _, _, _, rfl, N⟩

end Go.Proofs.Ytokmphhpnoochab
