/- A disk and coins that are drawn: DrawCrash. -/
import Derived.Test.YtfdfcgjdigpofaaDoorDrDk
namespace Go.Proofs.YtfdfcgjdigpofaaDoor
open Go.RowKit

set_option maxRecDepth 20000 in
set_option maxHeartbeats 4000000 in
theorem drawCrash_any (a : Option Addr) (n cap : Nat) (w : World) (hB : Byt w a n) (hm : n ≤ 1048576) :
    Calls Tryd.prog 5 #[.slice a n cap] w fun e w' => ∃ ab cb a2 c2 vs bs qs gd cd ds, e = .returned (.tuple #[.agg #[.slice ab bs.length cb, .slice a2 qs.length c2], .slice (some ⟨gd, 0, none⟩) ds.length cd]) ∧ DkD w.heap.size w' ab cb a2 c2 vs bs qs ∧ RowB w.heap.size w' (.slice (some ⟨gd, 0, none⟩) ds.length cd) ds ∧ (∀ x ∈ ds, 0 ≤ x ∧ x < 256) ∧ ds.length ≤ 2 ∧ Below w.heap.size w w' := by
  have V0 := Box2.new w (lo := w.heap.size) (Nat.le_refl _) (.slice none 0 0) (.slice none 0 0) 26
  have B := below1 w (.cells #[.slice none 0 0, .slice none 0 0] 26)
  have z1 : (w.alloc (.cells #[.slice none 0 0, .slice none 0 0] 26)).heap.size = w.heap.size + 1 := by simp
  have HB1 := hB.below B
  clear hB
  go_enter Tryd.func5, Tryd.ntmps5
  go_upto_region 1 with fail
  generalize w.alloc (.cells #[.slice none 0 0, .slice none 0 0] 26) = W0 at *
  go_wp2_with fail
  refine (l1New_any a n cap _ HB1 hm).mono ?_
  rintro e w1 ⟨rfl, C, hb⟩
  rw [z1] at C ⊢
  replace V0 := V0.below hb
  replace B := B.trans (hb.mono B.size)
  clear hb HB1 hm z1
  have cl := C.lt
  go_wp2_with fail
  refine (l11Draw_any (w.heap.size + 1) a n cap _ C).mono ?_
  rintro e w2 ⟨ab, cb, a2, c2, vs, bs, qs, rfl, DD0, C2, g2⟩
  have HLO : Hid (∀ b off, a = some ⟨b, off, none⟩ → 0 < n → b < w1.heap.size) := C.lows
  have DD : DkD (w.heap.size + 2) w2 ab cb a2 c2 vs bs qs := DD0.base (by omega)
  replace V0 := V0.grown g2 (by omega)
  replace B := B.grown g2 B.size (fun k hk => by injection hk with hk; omega)
  have V5 := Box2.new w2 (lo := w.heap.size) B.size (.slice ab bs.length cb) (.slice a2 qs.length c2) 26
  have hb := below1 w2 (.cells #[.slice ab bs.length cb, .slice a2 qs.length c2] 26)
  have z2 := g2.size
  replace V0 := V0.below hb
  replace DD := DD.below hb
  replace C2 := C2.below hb
  replace B := B.trans (hb.mono B.size)
  clear hb g2 C DD0
  go_upto_region 3 with fail
  generalize hp5 : w2.heap.size = p5 at *
  generalize w2.alloc (.cells #[.slice ab bs.length cb, .slice a2 qs.length c2] 26) = W2 at *
  have bd := ((Below.refl W2.heap.size W2).drew : Below W2.heap.size W2 _)
  have N : W2.drew.cell? ⟨p5, 0, none⟩ = some (.slice ab bs.length cb) ∧ W2.drew.cell? ⟨p5, 1, none⟩ = some (.slice a2 qs.length c2) := ⟨V5.c0, V5.c1⟩
  replace V0 := V0.below bd
  replace DD := DD.below bd
  replace C2 := C2.below bd
  replace B := B.trans (bd.mono B.size)
  have p5l : p5 < W2.drew.heap.size := V5.lt
  clear bd V5
  refine wp_region_held_drew (S := fun W => W.cell? ⟨p5, 0, none⟩ = some (.slice ab bs.length cb) ∧ W.cell? ⟨p5, 1, none⟩ = some (.slice a2 qs.length c2)) (by kernel_rfl) N (fun hHeld => ?_)
  clear hHeld
  revert N V0 DD C2 B p5l
  generalize W2.drew = ww0
  intro N V0 DD C2 B p5l
  refine takeW (i := 0) (by simp only [List.getElem?_toArray, List.getElem?_cons_zero]; exact rfl) (by kernel_rfl) (by kernel_rfl) (by kernel_rfl) (by exact fun _ _ _ h => h) (by rfl) (by intro wq hSw; obtain ⟨p1, p2⟩ := hSw; go_simp <;> with_reducible rfl) (by assumption) ?_
  try simp only [Act.put, List.setIfInBounds_toArray, List.set_cons_zero, List.set_cons_succ]
  refine takeW (i := 1) (by simp only [List.getElem?_toArray, List.getElem?_cons_succ, List.getElem?_cons_zero]; exact rfl) (by kernel_rfl) (by kernel_rfl) (by kernel_rfl) (by exact fun _ _ _ h => h) (by rfl) (by intro wq hSw; go_simp <;> with_reducible rfl) (by assumption) ?_
  try simp only [Act.put, List.setIfInBounds_toArray, List.set_cons_zero, List.set_cons_succ]
  refine takeW (i := 2) (by simp only [List.getElem?_toArray, List.getElem?_cons_succ, List.getElem?_cons_zero]; exact rfl) (by kernel_rfl) (by kernel_rfl) (by kernel_rfl) (by exact fun _ _ _ h => h) (by rfl) (by intro wq hSw; go_simp <;> with_reducible rfl) (by assumption) ?_
  try simp only [Act.put, List.setIfInBounds_toArray, List.set_cons_zero, List.set_cons_succ]
  refine wpAnyH_ready (rs := [3]) (by kernel_rfl) (by simp) (AllReadyH.cons (by simp only [List.getElem?_toArray, List.getElem?_cons_succ, List.getElem?_cons_zero]; exact rfl) (fun K9 hK => ?_) AllReadyH.nil)
  go_simp
  refine (l1Below_any (w.heap.size + 1) a n cap 3 _ C2).mono ?_
  rintro e ww1 ⟨x, rfl, x0, x1, C3, g3⟩
  have x2 := x1 (by omega)
  obtain ⟨k, rfl⟩ : ∃ k : Nat, x = (k : Int) := ⟨x.toNat, by omega⟩
  have hk2 : k ≤ 2 := by omega
  have N1 : _ ∧ _ := ⟨cell_drawnD g3 N.1 (by omega), cell_drawnD g3 N.2 (by omega)⟩
  replace V0 := V0.grown g3 (by omega)
  have DD1 := DD.kept g3 (by omega)
  replace B := B.grown g3 B.size (fun k hk => by injection hk with hk; omega)
  have z3 := g3.size
  refine hK.out _ _ N1 (fun hHeld => ?_)
  clear hK K9 hHeld N DD C2 g3 x1 x0 x2
  try simp only [Act.put, List.setIfInBounds_toArray, List.set_cons_zero, List.set_cons_succ]
  refine wpAnyH_ready (rs := [4]) (by kernel_rfl) (by simp) (AllReadyH.cons (by simp only [List.getElem?_toArray, List.getElem?_cons_succ, List.getElem?_cons_zero]; exact rfl) (fun K9 hK => ?_) AllReadyH.nil)
  go_simp
  refine (l1Bytes_any (w.heap.size + 1) a n cap k _ C3 (by omega)).mono ?_
  rintro e ww2 ⟨gd, cd, ds, rfl, hds, h8, R8, C4, g4⟩
  have N2 : _ ∧ _ := ⟨cell_drawnD g4 N1.1 (by omega), cell_drawnD g4 N1.2 (by omega)⟩
  replace V0 := V0.grown g4 (by omega)
  have DD2 := DD1.kept g4 (by omega)
  replace B := B.grown g4 B.size (fun k hk => by injection hk with hk; omega)
  have R9 : RowB (w.heap.size + 1) ww2 (.slice (some ⟨gd, 0, none⟩) k cd) ds := row_base R8 (by omega)
  have HDS : Hid (ds.length = k) := hds
  have H8 : Hid (∀ x ∈ ds, 0 ≤ x ∧ x < 256) := h8
  refine hK.out _ _ N2 (fun hHeld => ?_)
  clear hK K9 hHeld N1 DD1 C3 C4 g4 R8 hds h8
  try simp only [Act.put, List.setIfInBounds_toArray, List.set_cons_zero, List.set_cons_succ]
  refine wpAnyH_ready (rs := [5]) (by kernel_rfl) (by simp) (AllReadyH.cons (by simp only [List.getElem?_toArray, List.getElem?_cons_succ, List.getElem?_cons_zero]; exact rfl) (fun K9 hK => ?_) AllReadyH.nil)
  have q0 := V0.c0
  have q1 := V0.c1
  have qf := V0.fr
  go_simp
  have gq : ww2.grownBy ((ww2.setCell ⟨w.heap.size, 0, none⟩ (.slice ab bs.length cb)).setCell ⟨w.heap.size, 1, none⟩ (.slice a2 qs.length c2)) (some w.heap.size) := grownBy_setCell (p := ⟨w.heap.size, 1, none⟩) (grownBy_setCell (p := ⟨w.heap.size, 0, none⟩) (grownBy_refl _ _) rfl _) rfl _
  have N3 : _ ∧ _ := ⟨cell_drawnD gq N2.1 (by omega), cell_drawnD gq N2.2 (by omega)⟩
  have r0 := (V0.put (.slice ab bs.length cb) (.slice a2 qs.length c2)).c0
  have r1 := (V0.put (.slice ab bs.length cb) (.slice a2 qs.length c2)).c1
  have DD3 := (DD2.kept gq (by omega)).base (lo' := w.heap.size) (by omega)
  have R10 := row_base (base' := w.heap.size) (owns_kept' R9 gq (fun k hk e => by have := (World.ownsRow.lt R9 k hk).1; injection e with e; omega)) (by omega)
  have B3 := B.grown gq B.size (fun k hk => by injection hk with hk; omega)
  refine hK.out _ _ N3 (fun hHeld => ?_)
  clear hK K9 hHeld N2 DD2 gq R9 V0 B q0 q1 qf
  try simp only [Act.put]
  refine takeW (i := 6) (by simp only [List.getElem?_toArray, List.getElem?_cons_succ, List.getElem?_cons_zero]; exact rfl) (by kernel_rfl) (by kernel_rfl) (by kernel_rfl) (by exact fun _ _ _ h => h) (by rfl) (by intro wq hSw; go_simp <;> with_reducible rfl) (by assumption) ?_
  try simp only [Act.put, List.setIfInBounds_toArray, List.set_cons_zero, List.set_cons_succ]
  refine wpAnyH_done (by kernel_rfl) ?_ _
  go_wp2
  exact bodyPost_ret (v := .tuple #[.agg #[.slice ab bs.length cb, .slice a2 qs.length c2], .slice (some ⟨gd, 0, none⟩) k cd]) (by simp [results, Tryd.results5, go_sem, r0, r1]) rfl ⟨ab, cb, a2, c2, vs, bs, qs, gd, cd, ds, by rw [HDS.out], DD3, (by rw [HDS.out]; exact R10), H8.out, by rw [HDS.out]; exact hk2, B3⟩
end Go.Proofs.YtfdfcgjdigpofaaDoor
