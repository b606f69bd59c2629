/- The ends that lie on both segments: of the program. -/
import Derived.Test.YtfhcbgjnojcigaaPtM
import Derived.Test.YtfhcbgjnojcigaaPtG
import Derived.Test.YtfhcbgjnojcigaaBase
import Derived.Test.YtfhcbgjnojcigaaPtW
import Derived.BigRegion
namespace Go.Proofs.Ytfhcbgjnojcigaa
open Go.RowKit

def shL (ax ay bx bz cx cy dx dy : Int) (ps : List (Int × Int)) : List (Int × Int) := ps.foldl (fun l p => addP l p (shr ax ay bx bz cx cy dx dy p.1 p.2)) []
def shO (ax ay bx bz cx cy dx dy : Int) (ps : List (Int × Int)) : Int × Int := ps.foldl (fun o p => lastP o p (shr ax ay bx bz cx cy dx dy p.1 p.2)) (0, 0)
theorem PMap.kept {w w' : World} {b : Nat} {row : Option Nat} {l : List (Int × Int)} (h : PMap w b l) (g : w.grownBy w' row) (ne : some b ≠ row) : PMap w' b l := h.of_heap (g.block b h.lt ne)
theorem PMap.below {w w' : World} {b : Nat} {l : List (Int × Int)} (h : PMap w b l) (hb : Below w.heap.size w w') : PMap w' b l := h.of_heap (hb.block b h.lt)
theorem Box2.kept {lo q : Nat} {w w' : World} {row : Option Nat} {x0 x1 : Value} (h : Box2 lo w q x0 x1) (g : w.grownBy w' row) (ne : some q ≠ row) : Box2 lo w' q x0 x1 := by
  obtain ⟨hc, hf⟩ := grown_at g h.lt ne
  exact ⟨(hc 0).trans h.c0, (hc 1).trans h.c1, fun o => (hf o).trans (h.fr o), h.lo⟩
theorem PMap.new (w : World) : PMap (w.alloc (.map #[] 0)) w.heap.size [] := ⟨#[], 0, (MapKept.heap_alloc w _).1, rfl, by simp, by simp⟩
theorem PMap.len {w : World} {b : Nat} {l : List (Int × Int)} (h : PMap w b l) (ty : TypeId) : (Builtin.len_ #[60] ty #[.map (some b)]).run Try.prog w = .ok (.int .i64 l.length) w := by
  obtain ⟨es, clock, hb, hk, _, _⟩ := h
  have e1 : es.size = l.length := by
    have := congrArg List.length hk
    simpa using this
  simp [Builtin.len_, run_underlying Try.underlying60, MapKept.run_getObj_map hb, goInt, Result.andThen, e1]
theorem shL_in (x1 y1 x2 y2 x3 y3 x4 y4 : Int) (ps : List (Int × Int)) : ∀ q ∈ shL x1 y1 x2 y2 x3 y3 x4 y4 ps, q ∈ ps := by
  have gen : ∀ (ps l : List (Int × Int)), ∀ q ∈ ps.foldl (fun l p => addP l p (shr x1 y1 x2 y2 x3 y3 x4 y4 p.1 p.2)) l, q ∈ l ∨ q ∈ ps := by
    intro ps
    induction ps with
    | nil => intro l q h; exact .inl h
    | cons p r ih =>
      intro l q h
      rcases ih _ q h with h | h
      · unfold addP at h
        dsimp only at h
        split at h
        · rcases List.mem_append.1 h with h | h
          · exact .inl h
          · rw [List.mem_singleton] at h; exact .inr (by rw [h]; exact List.mem_cons_self)
        · exact .inl h
      · exact .inr (List.mem_cons_of_mem _ h)
  intro q h
  rcases gen ps [] q h with h | h
  · cases h
  · exact h
/-- What the loop keeps: the four points, the answer's box, the map, the last point. -/
structure ShAt (w wr : World) (x1 y1 x2 y2 x3 y3 x4 y4 : Int) (l : List (Int × Int)) (o : Int × Int) : Prop where
  k : wr.cell? ⟨w.heap.size, 0, none⟩ = some (.int .i64 x1) ∧ wr.cell? ⟨w.heap.size, 1, none⟩ = some (.int .i64 y1) ∧ wr.cell? ⟨w.heap.size + 1, 0, none⟩ = some (.int .i64 x2) ∧ wr.cell? ⟨w.heap.size + 1, 1, none⟩ = some (.int .i64 y2) ∧ wr.cell? ⟨w.heap.size + 1 + 1, 0, none⟩ = some (.int .i64 x3) ∧ wr.cell? ⟨w.heap.size + 1 + 1, 1, none⟩ = some (.int .i64 y3) ∧ wr.cell? ⟨w.heap.size + 1 + 1 + 1, 0, none⟩ = some (.int .i64 x4) ∧ wr.cell? ⟨w.heap.size + 1 + 1 + 1, 1, none⟩ = some (.int .i64 y4)
  r : Box2 w.heap.size wr (w.heap.size + 1 + 1 + 1 + 1) (.int .i64 0) (.int .i64 0)
  m : PMap wr (w.heap.size + 1 + 1 + 1 + 1 + 1) l
  o : Box2 w.heap.size wr (w.heap.size + 1 + 1 + 1 + 1 + 1 + 1) (.int .i64 o.1) (.int .i64 o.2)
  b : Below w.heap.size w wr
theorem ShAt.below {w wr w' : World} {x1 y1 x2 y2 x3 y3 x4 y4 : Int} {l : List (Int × Int)} {o : Int × Int} (h : ShAt w wr x1 y1 x2 y2 x3 y3 x4 y4 l o) (hb : Below wr.heap.size wr w') : ShAt w w' x1 y1 x2 y2 x3 y3 x4 y4 l o :=
  ⟨⟨bat hb h.k.1, bat hb h.k.2.1, bat hb h.k.2.2.1, bat hb h.k.2.2.2.1, bat hb h.k.2.2.2.2.1, bat hb h.k.2.2.2.2.2.1, bat hb h.k.2.2.2.2.2.2.1, bat hb h.k.2.2.2.2.2.2.2⟩, h.r.below hb, h.m.below hb, h.o.below hb, h.b.trans (hb.mono h.b.size)⟩
theorem ShAt.start (w : World) (x1 y1 x2 y2 x3 y3 x4 y4 : Int) : ShAt w (((((((w.alloc (.cells #[.int .i64 x1, .int .i64 y1] 25)).alloc (.cells #[.int .i64 x2, .int .i64 y2] 25)).alloc (.cells #[.int .i64 x3, .int .i64 y3] 25)).alloc (.cells #[.int .i64 x4, .int .i64 y4] 25)).alloc (.cells #[.int .i64 0, .int .i64 0] 25)).alloc (.map #[] 0)).alloc (.cells #[.int .i64 0, .int .i64 0] 25)) x1 y1 x2 y2 x3 y3 x4 y4 [] (0, 0) := by
  refine ⟨?_, ?_, ?_, ?_, ?_⟩
  · refine ⟨?_, ?_, ?_, ?_, ?_, ?_, ?_, ?_⟩ <;> simp [go_sem]
  · refine ⟨?_, ?_, ?_, by omega⟩ <;> simp [go_sem]
  · have this := (PMap.new (((((w.alloc (.cells #[.int .i64 x1, .int .i64 y1] 25)).alloc (.cells #[.int .i64 x2, .int .i64 y2] 25)).alloc (.cells #[.int .i64 x3, .int .i64 y3] 25)).alloc (.cells #[.int .i64 x4, .int .i64 y4] 25)).alloc (.cells #[.int .i64 0, .int .i64 0] 25))).below (below1 _ (.cells #[.int .i64 0, .int .i64 0] 25))
    simp only [World.size_alloc] at this
    exact this
  · refine ⟨?_, ?_, ?_, by omega⟩ <;> simp [go_sem]
  · exact (((((((Below.refl _ w).alloc (Nat.le_refl _) _).alloc (by simp) _).alloc (by simp; omega) _).alloc (by simp; omega) _).alloc (by simp; omega) _).alloc (by simp; omega) _).alloc (by simp; omega) _
theorem addP_true (l : List (Int × Int)) (p : Int × Int) : (if l.contains p then l else l ++ [p]) = addP l p true := by
  unfold addP
  cases l.contains p <;> rfl
theorem ShAt.as {w wr : World} {x1 y1 x2 y2 x3 y3 x4 y4 : Int} {l l' : List (Int × Int)} {o : Int × Int} (h : ShAt w wr x1 y1 x2 y2 x3 y3 x4 y4 l o) (e : l = l') : ShAt w wr x1 y1 x2 y2 x3 y3 x4 y4 l' o := e ▸ h
theorem ShAt.bumped {w wr V : World} {x1 y1 x2 y2 x3 y3 x4 y4 : Int} {l l' : List (Int × Int)} {o : Int × Int} (h : ShAt w wr x1 y1 x2 y2 x3 y3 x4 y4 l o) (g : wr.drew.grownBy V (some (w.heap.size + 1 + 1 + 1 + 1 + 1))) (m : PMap V (w.heap.size + 1 + 1 + 1 + 1 + 1) l') : ShAt w V x1 y1 x2 y2 x3 y3 x4 y4 l' o := by
  have hd := h.below ((Below.refl _ _).drew)
  have c : ∀ b oo v, wr.drew.cell? ⟨b, oo, none⟩ = some v → b ≠ w.heap.size + 1 + 1 + 1 + 1 + 1 → V.cell? ⟨b, oo, none⟩ = some v := fun b oo v e ne => by
    obtain ⟨hc, _⟩ := grown_at g (World.block_lt_of_cell? _ _ e) (by simpa using ne)
    exact (hc oo).trans e
  obtain ⟨k1, k2, k3, k4, k5, k6, k7, k8⟩ := hd.k
  exact ⟨⟨c _ _ _ k1 (by omega), c _ _ _ k2 (by omega), c _ _ _ k3 (by omega), c _ _ _ k4 (by omega), c _ _ _ k5 (by omega), c _ _ _ k6 (by omega), c _ _ _ k7 (by omega), c _ _ _ k8 (by omega)⟩, hd.r.kept g (by intro e; injection e with e; omega), m, hd.o.kept g (by intro e; injection e with e; omega), hd.b.grown g hd.b.size (fun k hk => by injection hk with hk; subst hk; omega)⟩
theorem ShAt.putO {w wr : World} {x1 y1 x2 y2 x3 y3 x4 y4 : Int} {l : List (Int × Int)} {o : Int × Int} (h : ShAt w wr x1 y1 x2 y2 x3 y3 x4 y4 l o) (x y : Int) : ShAt w ((wr.setCell ⟨w.heap.size + 1 + 1 + 1 + 1 + 1 + 1, 0, none⟩ (.int .i64 x)).setCell ⟨w.heap.size + 1 + 1 + 1 + 1 + 1 + 1, 1, none⟩ (.int .i64 y)) x1 y1 x2 y2 x3 y3 x4 y4 l (x, y) := by
  have c : ∀ b oo v, wr.cell? ⟨b, oo, none⟩ = some v → b ≠ w.heap.size + 1 + 1 + 1 + 1 + 1 + 1 → ((wr.setCell ⟨w.heap.size + 1 + 1 + 1 + 1 + 1 + 1, 0, none⟩ (.int .i64 x)).setCell ⟨w.heap.size + 1 + 1 + 1 + 1 + 1 + 1, 1, none⟩ (.int .i64 y)).cell? ⟨b, oo, none⟩ = some v := fun b oo v e ne => (put_old2 ne _ _).trans e
  obtain ⟨k1, k2, k3, k4, k5, k6, k7, k8⟩ := h.k
  exact ⟨⟨c _ _ _ k1 (by omega), c _ _ _ k2 (by omega), c _ _ _ k3 (by omega), c _ _ _ k4 (by omega), c _ _ _ k5 (by omega), c _ _ _ k6 (by omega), c _ _ _ k7 (by omega), c _ _ _ k8 (by omega)⟩, h.r.old (by omega) _ _, h.m.kept (grownBy_setCell (grownBy_setCell (grownBy_refl wr (some (w.heap.size + 1 + 1 + 1 + 1 + 1 + 1))) (p := ⟨w.heap.size + 1 + 1 + 1 + 1 + 1 + 1, 0, none⟩) rfl _) (p := ⟨w.heap.size + 1 + 1 + 1 + 1 + 1 + 1, 1, none⟩) rfl _) (by intro e; injection e with e; omega), h.o.put _ _, (h.b.setCell (p := ⟨w.heap.size + 1 + 1 + 1 + 1 + 1 + 1, 0, none⟩) (by dsimp only; omega) _).setCell (p := ⟨w.heap.size + 1 + 1 + 1 + 1 + 1 + 1, 1, none⟩) (by dsimp only; omega) _⟩

set_option maxRecDepth 20000 in
set_option maxHeartbeats 8000000 in
theorem sharedEnds_any (x1 y1 x2 y2 x3 y3 x4 y4 : Int) (w : World) (c1 : Crd x1) (d1 : Crd y1) (c2 : Crd x2) (d2 : Crd y2) (c3 : Crd x3) (d3 : Crd y3) (c4 : Crd x4) (d4 : Crd y4) :
    Calls Try.prog 17 #[.agg #[.int .i64 x1, .int .i64 y1], .agg #[.int .i64 x2, .int .i64 y2], .agg #[.int .i64 x3, .int .i64 y3], .agg #[.int .i64 x4, .int .i64 y4]] w fun e w' => e = .returned (.tuple #[.agg #[.int .i64 (shO x1 y1 x2 y2 x3 y3 x4 y4 [(x1, y1), (x2, y2), (x3, y3), (x4, y4)]).1, .int .i64 (shO x1 y1 x2 y2 x3 y3 x4 y4 [(x1, y1), (x2, y2), (x3, y3), (x4, y4)]).2], .int .i64 (shL x1 y1 x2 y2 x3 y3 x4 y4 [(x1, y1), (x2, y2), (x3, y3), (x4, y4)]).length]) ∧ Below w.heap.size w w' := by
  have hmm := @run_makeMap Try.prog
  have A0 := ShAt.start w x1 y1 x2 y2 x3 y3 x4 y4
  go_enter Try.func17, Try.ntmps17
  go_wp2_with fail
  clear hmm
  generalize (((((((w.alloc (.cells #[.int .i64 x1, .int .i64 y1] 25)).alloc (.cells #[.int .i64 x2, .int .i64 y2] 25)).alloc (.cells #[.int .i64 x3, .int .i64 y3] 25)).alloc (.cells #[.int .i64 x4, .int .i64 y4] 25)).alloc (.cells #[.int .i64 0, .int .i64 0] 25)).alloc (.map #[] 0)).alloc (.cells #[.int .i64 0, .int .i64 0] 25)) = W0 at *
  go_loopw [13, 20] (fun v i wr => ∃ j : Nat, j ≤ 4 ∧ i = .int .i64 j ∧ ShAt w wr x1 y1 x2 y2 x3 y3 x4 y4 (shL x1 y1 x2 y2 x3 y3 x4 y4 (List.take j [(x1, y1), (x2, y2), (x3, y3), (x4, y4)])) (shO x1 y1 x2 y2 x3 y3 x4 y4 (List.take j [(x1, y1), (x2, y2), (x3, y3), (x4, y4)]))) (fun _ i _ => 4 - (intOf i).toNat)
  case atStart => exact ⟨0, by omega, rfl, A0⟩
  case round =>
    clear A0
    obtain ⟨j, hj, rfl, A⟩ := hrel
    rename World => wr
    have hj5 : j = 0 ∨ j = 1 ∨ j = 2 ∨ j = 3 ∨ j = 4 := by omega
    have HC : ∀ q ∈ [(x1, y1), (x2, y2), (x3, y3), (x4, y4)], Crd q.1 ∧ Crd q.2 := by
      intro q hq
      simp only [List.mem_cons, List.not_mem_nil, or_false] at hq
      rcases hq with rfl | rfl | rfl | rfl
      · exact ⟨c1, d1⟩
      · exact ⟨c2, d2⟩
      · exact ⟨c3, d3⟩
      · exact ⟨c4, d4⟩
    rcases hj5 with rfl | rfl | rfl | rfl | rfl
    · have HL : Hid (∀ q ∈ (shL x1 y1 x2 y2 x3 y3 x4 y4 (List.take 0 [(x1, y1), (x2, y2), (x3, y3), (x4, y4)])), Crd q.1 ∧ Crd q.2) := fun q hq => HC q (List.mem_of_mem_take (shL_in x1 y1 x2 y2 x3 y3 x4 y4 _ q hq))
      have hq6 : w.heap.size + 1 + 1 + 1 + 1 + 1 + 1 < wr.heap.size := A.o.lt
      have P := Box2.new wr (lo := w.heap.size) A.b.size (.int .i64 x1) (.int .i64 y1) 25
      obtain ⟨k1, k2, k3, k4, k5, k6, k7, k8⟩ := A.k
      replace A := A.below (below1 wr (.cells #[.int .i64 x1, .int .i64 y1] 25))
      have z0 : w.heap.size < wr.heap.size := by omega
      have z1 : w.heap.size + 1 < wr.heap.size := by omega
      have z2 : w.heap.size + 1 + 1 < wr.heap.size := by omega
      have z3 : w.heap.size + 1 + 1 + 1 < wr.heap.size := by omega
      have hI : (Instr.index 61 (.agg #[.int .i64 x1, .int .i64 y1, .int .i64 x2, .int .i64 y2, .int .i64 x3, .int .i64 y3, .int .i64 x4, .int .i64 y4]) (.int .i64 0)).run Try.prog wr = .ok (.agg #[.int .i64 x1, .int .i64 y1]) wr := by kernel_rfl
      go_wp2_with fail
      clear hI z0 z1 z2 z3 k1 k2 k3 k4 k5 k6 k7 k8 HC
      generalize wr.alloc (.cells #[.int .i64 x1, .int .i64 y1] 25) = W1 at *
      generalize wr.heap.size = q at *
      refine (onSeg_any x1 y1 x2 y2 x1 y1 _ c1 d1 c2 d2 c1 d1).mono ?_
      rintro e w2 ⟨rfl, hb⟩
      replace A := A.below hb
      replace P := P.below hb
      clear hb
      obtain ⟨k1, k2, k3, k4, k5, k6, k7, k8⟩ := A.k
      obtain ⟨p0, p1, _, _⟩ := id P
      cases f1 : onB x1 y1 x2 y2 x1 y1
      · have FL : shr x1 y1 x2 y2 x3 y3 x4 y4 x1 y1 = false := by unfold shr; rw [f1]; rfl
        go_wp2_with fail
        go_roundw
        case rel => exact ⟨1, by omega, by first | rfl | go_num, by rw [show (shL x1 y1 x2 y2 x3 y3 x4 y4 (List.take 1 [(x1, y1), (x2, y2), (x3, y3), (x4, y4)])) = addP (shL x1 y1 x2 y2 x3 y3 x4 y4 (List.take 0 [(x1, y1), (x2, y2), (x3, y3), (x4, y4)])) (x1, y1) (shr x1 y1 x2 y2 x3 y3 x4 y4 x1 y1) from rfl, show (shO x1 y1 x2 y2 x3 y3 x4 y4 (List.take 1 [(x1, y1), (x2, y2), (x3, y3), (x4, y4)])) = lastP (shO x1 y1 x2 y2 x3 y3 x4 y4 (List.take 0 [(x1, y1), (x2, y2), (x3, y3), (x4, y4)])) (x1, y1) (shr x1 y1 x2 y2 x3 y3 x4 y4 x1 y1) from rfl, FL]; exact A⟩
        case measure => simp [intOf]
      · go_wp2_with fail
        refine (onSeg_any x3 y3 x4 y4 x1 y1 _ c3 d3 c4 d4 c1 d1).mono ?_
        rintro e w3 ⟨rfl, hb⟩
        replace A := A.below hb
        replace P := P.below hb
        clear hb k1 k2 k3 k4 k5 k6 k7 k8 p0 p1
        obtain ⟨p0, p1, _, _⟩ := id P
        cases f2 : onB x3 y3 x4 y4 x1 y1
        · have FL : shr x1 y1 x2 y2 x3 y3 x4 y4 x1 y1 = false := by unfold shr; rw [f1, f2]; rfl
          go_wp2_with fail
          go_roundw
          case rel => exact ⟨1, by omega, by first | rfl | go_num, by rw [show (shL x1 y1 x2 y2 x3 y3 x4 y4 (List.take 1 [(x1, y1), (x2, y2), (x3, y3), (x4, y4)])) = addP (shL x1 y1 x2 y2 x3 y3 x4 y4 (List.take 0 [(x1, y1), (x2, y2), (x3, y3), (x4, y4)])) (x1, y1) (shr x1 y1 x2 y2 x3 y3 x4 y4 x1 y1) from rfl, show (shO x1 y1 x2 y2 x3 y3 x4 y4 (List.take 1 [(x1, y1), (x2, y2), (x3, y3), (x4, y4)])) = lastP (shO x1 y1 x2 y2 x3 y3 x4 y4 (List.take 0 [(x1, y1), (x2, y2), (x3, y3), (x4, y4)])) (x1, y1) (shr x1 y1 x2 y2 x3 y3 x4 y4 x1 y1) from rfl, FL]; exact A⟩
          case measure => simp [intOf]
        · have FL : shr x1 y1 x2 y2 x3 y3 x4 y4 x1 y1 = true := by unfold shr; rw [f1, f2]; rfl
          have MD : PMap w3.drew (w.heap.size + 1 + 1 + 1 + 1 + 1) (shL x1 y1 x2 y2 x3 y3 x4 y4 (List.take 0 [(x1, y1), (x2, y2), (x3, y3), (x4, y4)])) := A.m
          obtain ⟨n, v0, st, V1, hL, hE, hL2, g1, hS⟩ := MD.bump HL.out (p := (x1, y1)) c1 d1
          obtain ⟨V2, hS2, m2, g2⟩ := hS (wrap64 (n + 1))
          simp only [goInt] at hE hS2
          unfold ptV at hL hE hL2
          dsimp only at hL hE hL2
          have pd0 : w3.drew.cell? ⟨q, 0, none⟩ = some (.int .i64 x1) := p0
          have pd1 : w3.drew.cell? ⟨q, 1, none⟩ = some (.int .i64 y1) := p1
          have PD := P.below ((Below.refl _ _).drew)
          have PDk := PD
          have pq := PD.kept g1 (by intro e; injection e with e; omega)
          have pe0 := pq.c0
          have pe1 := pq.c1
          clear MD hS
          go_wp2_with fail
          go_region
          have A2 := A.bumped g2 m2
          clear A P PD pq pe0 pe1 pd0 pd1 p0 p1 hL hE hL2 hS2 g1
          have pv : Box2 w.heap.size V2 q (.int .i64 x1) (.int .i64 y1) := PDk.kept g2 (by intro e; injection e with e; omega)
          obtain ⟨p0, p1, _, _⟩ := id pv
          obtain ⟨o0, o1, of, _⟩ := id A2.o
          replace A2 := A2.putO x1 y1
          go_wp2_with fail
          go_roundw
          case rel => exact ⟨1, by omega, by first | rfl | go_num, by rw [show (shL x1 y1 x2 y2 x3 y3 x4 y4 (List.take 1 [(x1, y1), (x2, y2), (x3, y3), (x4, y4)])) = addP (shL x1 y1 x2 y2 x3 y3 x4 y4 (List.take 0 [(x1, y1), (x2, y2), (x3, y3), (x4, y4)])) (x1, y1) (shr x1 y1 x2 y2 x3 y3 x4 y4 x1 y1) from rfl, show (shO x1 y1 x2 y2 x3 y3 x4 y4 (List.take 1 [(x1, y1), (x2, y2), (x3, y3), (x4, y4)])) = lastP (shO x1 y1 x2 y2 x3 y3 x4 y4 (List.take 0 [(x1, y1), (x2, y2), (x3, y3), (x4, y4)])) (x1, y1) (shr x1 y1 x2 y2 x3 y3 x4 y4 x1 y1) from rfl, FL]; exact A2.as (addP_true _ _)⟩
          case measure => simp [intOf]
    · have HL : Hid (∀ q ∈ (shL x1 y1 x2 y2 x3 y3 x4 y4 (List.take 1 [(x1, y1), (x2, y2), (x3, y3), (x4, y4)])), Crd q.1 ∧ Crd q.2) := fun q hq => HC q (List.mem_of_mem_take (shL_in x1 y1 x2 y2 x3 y3 x4 y4 _ q hq))
      have hq6 : w.heap.size + 1 + 1 + 1 + 1 + 1 + 1 < wr.heap.size := A.o.lt
      have P := Box2.new wr (lo := w.heap.size) A.b.size (.int .i64 x2) (.int .i64 y2) 25
      obtain ⟨k1, k2, k3, k4, k5, k6, k7, k8⟩ := A.k
      replace A := A.below (below1 wr (.cells #[.int .i64 x2, .int .i64 y2] 25))
      have z0 : w.heap.size < wr.heap.size := by omega
      have z1 : w.heap.size + 1 < wr.heap.size := by omega
      have z2 : w.heap.size + 1 + 1 < wr.heap.size := by omega
      have z3 : w.heap.size + 1 + 1 + 1 < wr.heap.size := by omega
      have hI : (Instr.index 61 (.agg #[.int .i64 x1, .int .i64 y1, .int .i64 x2, .int .i64 y2, .int .i64 x3, .int .i64 y3, .int .i64 x4, .int .i64 y4]) (.int .i64 1)).run Try.prog wr = .ok (.agg #[.int .i64 x2, .int .i64 y2]) wr := by kernel_rfl
      go_wp2_with fail
      clear hI z0 z1 z2 z3 k1 k2 k3 k4 k5 k6 k7 k8 HC
      generalize wr.alloc (.cells #[.int .i64 x2, .int .i64 y2] 25) = W1 at *
      generalize wr.heap.size = q at *
      refine (onSeg_any x1 y1 x2 y2 x2 y2 _ c1 d1 c2 d2 c2 d2).mono ?_
      rintro e w2 ⟨rfl, hb⟩
      replace A := A.below hb
      replace P := P.below hb
      clear hb
      obtain ⟨k1, k2, k3, k4, k5, k6, k7, k8⟩ := A.k
      obtain ⟨p0, p1, _, _⟩ := id P
      cases f1 : onB x1 y1 x2 y2 x2 y2
      · have FL : shr x1 y1 x2 y2 x3 y3 x4 y4 x2 y2 = false := by unfold shr; rw [f1]; rfl
        go_wp2_with fail
        go_roundw
        case rel => exact ⟨2, by omega, by first | rfl | go_num, by rw [show (shL x1 y1 x2 y2 x3 y3 x4 y4 (List.take 2 [(x1, y1), (x2, y2), (x3, y3), (x4, y4)])) = addP (shL x1 y1 x2 y2 x3 y3 x4 y4 (List.take 1 [(x1, y1), (x2, y2), (x3, y3), (x4, y4)])) (x2, y2) (shr x1 y1 x2 y2 x3 y3 x4 y4 x2 y2) from rfl, show (shO x1 y1 x2 y2 x3 y3 x4 y4 (List.take 2 [(x1, y1), (x2, y2), (x3, y3), (x4, y4)])) = lastP (shO x1 y1 x2 y2 x3 y3 x4 y4 (List.take 1 [(x1, y1), (x2, y2), (x3, y3), (x4, y4)])) (x2, y2) (shr x1 y1 x2 y2 x3 y3 x4 y4 x2 y2) from rfl, FL]; exact A⟩
        case measure => simp [intOf]
      · go_wp2_with fail
        refine (onSeg_any x3 y3 x4 y4 x2 y2 _ c3 d3 c4 d4 c2 d2).mono ?_
        rintro e w3 ⟨rfl, hb⟩
        replace A := A.below hb
        replace P := P.below hb
        clear hb k1 k2 k3 k4 k5 k6 k7 k8 p0 p1
        obtain ⟨p0, p1, _, _⟩ := id P
        cases f2 : onB x3 y3 x4 y4 x2 y2
        · have FL : shr x1 y1 x2 y2 x3 y3 x4 y4 x2 y2 = false := by unfold shr; rw [f1, f2]; rfl
          go_wp2_with fail
          go_roundw
          case rel => exact ⟨2, by omega, by first | rfl | go_num, by rw [show (shL x1 y1 x2 y2 x3 y3 x4 y4 (List.take 2 [(x1, y1), (x2, y2), (x3, y3), (x4, y4)])) = addP (shL x1 y1 x2 y2 x3 y3 x4 y4 (List.take 1 [(x1, y1), (x2, y2), (x3, y3), (x4, y4)])) (x2, y2) (shr x1 y1 x2 y2 x3 y3 x4 y4 x2 y2) from rfl, show (shO x1 y1 x2 y2 x3 y3 x4 y4 (List.take 2 [(x1, y1), (x2, y2), (x3, y3), (x4, y4)])) = lastP (shO x1 y1 x2 y2 x3 y3 x4 y4 (List.take 1 [(x1, y1), (x2, y2), (x3, y3), (x4, y4)])) (x2, y2) (shr x1 y1 x2 y2 x3 y3 x4 y4 x2 y2) from rfl, FL]; exact A⟩
          case measure => simp [intOf]
        · have FL : shr x1 y1 x2 y2 x3 y3 x4 y4 x2 y2 = true := by unfold shr; rw [f1, f2]; rfl
          have MD : PMap w3.drew (w.heap.size + 1 + 1 + 1 + 1 + 1) (shL x1 y1 x2 y2 x3 y3 x4 y4 (List.take 1 [(x1, y1), (x2, y2), (x3, y3), (x4, y4)])) := A.m
          obtain ⟨n, v0, st, V1, hL, hE, hL2, g1, hS⟩ := MD.bump HL.out (p := (x2, y2)) c2 d2
          obtain ⟨V2, hS2, m2, g2⟩ := hS (wrap64 (n + 1))
          simp only [goInt] at hE hS2
          unfold ptV at hL hE hL2
          dsimp only at hL hE hL2
          have pd0 : w3.drew.cell? ⟨q, 0, none⟩ = some (.int .i64 x2) := p0
          have pd1 : w3.drew.cell? ⟨q, 1, none⟩ = some (.int .i64 y2) := p1
          have PD := P.below ((Below.refl _ _).drew)
          have PDk := PD
          have pq := PD.kept g1 (by intro e; injection e with e; omega)
          have pe0 := pq.c0
          have pe1 := pq.c1
          clear MD hS
          go_wp2_with fail
          go_region
          have A2 := A.bumped g2 m2
          clear A P PD pq pe0 pe1 pd0 pd1 p0 p1 hL hE hL2 hS2 g1
          have pv : Box2 w.heap.size V2 q (.int .i64 x2) (.int .i64 y2) := PDk.kept g2 (by intro e; injection e with e; omega)
          obtain ⟨p0, p1, _, _⟩ := id pv
          obtain ⟨o0, o1, of, _⟩ := id A2.o
          replace A2 := A2.putO x2 y2
          go_wp2_with fail
          go_roundw
          case rel => exact ⟨2, by omega, by first | rfl | go_num, by rw [show (shL x1 y1 x2 y2 x3 y3 x4 y4 (List.take 2 [(x1, y1), (x2, y2), (x3, y3), (x4, y4)])) = addP (shL x1 y1 x2 y2 x3 y3 x4 y4 (List.take 1 [(x1, y1), (x2, y2), (x3, y3), (x4, y4)])) (x2, y2) (shr x1 y1 x2 y2 x3 y3 x4 y4 x2 y2) from rfl, show (shO x1 y1 x2 y2 x3 y3 x4 y4 (List.take 2 [(x1, y1), (x2, y2), (x3, y3), (x4, y4)])) = lastP (shO x1 y1 x2 y2 x3 y3 x4 y4 (List.take 1 [(x1, y1), (x2, y2), (x3, y3), (x4, y4)])) (x2, y2) (shr x1 y1 x2 y2 x3 y3 x4 y4 x2 y2) from rfl, FL]; exact A2.as (addP_true _ _)⟩
          case measure => simp [intOf]
    · have HL : Hid (∀ q ∈ (shL x1 y1 x2 y2 x3 y3 x4 y4 (List.take 2 [(x1, y1), (x2, y2), (x3, y3), (x4, y4)])), Crd q.1 ∧ Crd q.2) := fun q hq => HC q (List.mem_of_mem_take (shL_in x1 y1 x2 y2 x3 y3 x4 y4 _ q hq))
      have hq6 : w.heap.size + 1 + 1 + 1 + 1 + 1 + 1 < wr.heap.size := A.o.lt
      have P := Box2.new wr (lo := w.heap.size) A.b.size (.int .i64 x3) (.int .i64 y3) 25
      obtain ⟨k1, k2, k3, k4, k5, k6, k7, k8⟩ := A.k
      replace A := A.below (below1 wr (.cells #[.int .i64 x3, .int .i64 y3] 25))
      have z0 : w.heap.size < wr.heap.size := by omega
      have z1 : w.heap.size + 1 < wr.heap.size := by omega
      have z2 : w.heap.size + 1 + 1 < wr.heap.size := by omega
      have z3 : w.heap.size + 1 + 1 + 1 < wr.heap.size := by omega
      have hI : (Instr.index 61 (.agg #[.int .i64 x1, .int .i64 y1, .int .i64 x2, .int .i64 y2, .int .i64 x3, .int .i64 y3, .int .i64 x4, .int .i64 y4]) (.int .i64 2)).run Try.prog wr = .ok (.agg #[.int .i64 x3, .int .i64 y3]) wr := by kernel_rfl
      go_wp2_with fail
      clear hI z0 z1 z2 z3 k1 k2 k3 k4 k5 k6 k7 k8 HC
      generalize wr.alloc (.cells #[.int .i64 x3, .int .i64 y3] 25) = W1 at *
      generalize wr.heap.size = q at *
      refine (onSeg_any x1 y1 x2 y2 x3 y3 _ c1 d1 c2 d2 c3 d3).mono ?_
      rintro e w2 ⟨rfl, hb⟩
      replace A := A.below hb
      replace P := P.below hb
      clear hb
      obtain ⟨k1, k2, k3, k4, k5, k6, k7, k8⟩ := A.k
      obtain ⟨p0, p1, _, _⟩ := id P
      cases f1 : onB x1 y1 x2 y2 x3 y3
      · have FL : shr x1 y1 x2 y2 x3 y3 x4 y4 x3 y3 = false := by unfold shr; rw [f1]; rfl
        go_wp2_with fail
        go_roundw
        case rel => exact ⟨3, by omega, by first | rfl | go_num, by rw [show (shL x1 y1 x2 y2 x3 y3 x4 y4 (List.take 3 [(x1, y1), (x2, y2), (x3, y3), (x4, y4)])) = addP (shL x1 y1 x2 y2 x3 y3 x4 y4 (List.take 2 [(x1, y1), (x2, y2), (x3, y3), (x4, y4)])) (x3, y3) (shr x1 y1 x2 y2 x3 y3 x4 y4 x3 y3) from rfl, show (shO x1 y1 x2 y2 x3 y3 x4 y4 (List.take 3 [(x1, y1), (x2, y2), (x3, y3), (x4, y4)])) = lastP (shO x1 y1 x2 y2 x3 y3 x4 y4 (List.take 2 [(x1, y1), (x2, y2), (x3, y3), (x4, y4)])) (x3, y3) (shr x1 y1 x2 y2 x3 y3 x4 y4 x3 y3) from rfl, FL]; exact A⟩
        case measure => simp [intOf]
      · go_wp2_with fail
        refine (onSeg_any x3 y3 x4 y4 x3 y3 _ c3 d3 c4 d4 c3 d3).mono ?_
        rintro e w3 ⟨rfl, hb⟩
        replace A := A.below hb
        replace P := P.below hb
        clear hb k1 k2 k3 k4 k5 k6 k7 k8 p0 p1
        obtain ⟨p0, p1, _, _⟩ := id P
        cases f2 : onB x3 y3 x4 y4 x3 y3
        · have FL : shr x1 y1 x2 y2 x3 y3 x4 y4 x3 y3 = false := by unfold shr; rw [f1, f2]; rfl
          go_wp2_with fail
          go_roundw
          case rel => exact ⟨3, by omega, by first | rfl | go_num, by rw [show (shL x1 y1 x2 y2 x3 y3 x4 y4 (List.take 3 [(x1, y1), (x2, y2), (x3, y3), (x4, y4)])) = addP (shL x1 y1 x2 y2 x3 y3 x4 y4 (List.take 2 [(x1, y1), (x2, y2), (x3, y3), (x4, y4)])) (x3, y3) (shr x1 y1 x2 y2 x3 y3 x4 y4 x3 y3) from rfl, show (shO x1 y1 x2 y2 x3 y3 x4 y4 (List.take 3 [(x1, y1), (x2, y2), (x3, y3), (x4, y4)])) = lastP (shO x1 y1 x2 y2 x3 y3 x4 y4 (List.take 2 [(x1, y1), (x2, y2), (x3, y3), (x4, y4)])) (x3, y3) (shr x1 y1 x2 y2 x3 y3 x4 y4 x3 y3) from rfl, FL]; exact A⟩
          case measure => simp [intOf]
        · have FL : shr x1 y1 x2 y2 x3 y3 x4 y4 x3 y3 = true := by unfold shr; rw [f1, f2]; rfl
          have MD : PMap w3.drew (w.heap.size + 1 + 1 + 1 + 1 + 1) (shL x1 y1 x2 y2 x3 y3 x4 y4 (List.take 2 [(x1, y1), (x2, y2), (x3, y3), (x4, y4)])) := A.m
          obtain ⟨n, v0, st, V1, hL, hE, hL2, g1, hS⟩ := MD.bump HL.out (p := (x3, y3)) c3 d3
          obtain ⟨V2, hS2, m2, g2⟩ := hS (wrap64 (n + 1))
          simp only [goInt] at hE hS2
          unfold ptV at hL hE hL2
          dsimp only at hL hE hL2
          have pd0 : w3.drew.cell? ⟨q, 0, none⟩ = some (.int .i64 x3) := p0
          have pd1 : w3.drew.cell? ⟨q, 1, none⟩ = some (.int .i64 y3) := p1
          have PD := P.below ((Below.refl _ _).drew)
          have PDk := PD
          have pq := PD.kept g1 (by intro e; injection e with e; omega)
          have pe0 := pq.c0
          have pe1 := pq.c1
          clear MD hS
          go_wp2_with fail
          go_region
          have A2 := A.bumped g2 m2
          clear A P PD pq pe0 pe1 pd0 pd1 p0 p1 hL hE hL2 hS2 g1
          have pv : Box2 w.heap.size V2 q (.int .i64 x3) (.int .i64 y3) := PDk.kept g2 (by intro e; injection e with e; omega)
          obtain ⟨p0, p1, _, _⟩ := id pv
          obtain ⟨o0, o1, of, _⟩ := id A2.o
          replace A2 := A2.putO x3 y3
          go_wp2_with fail
          go_roundw
          case rel => exact ⟨3, by omega, by first | rfl | go_num, by rw [show (shL x1 y1 x2 y2 x3 y3 x4 y4 (List.take 3 [(x1, y1), (x2, y2), (x3, y3), (x4, y4)])) = addP (shL x1 y1 x2 y2 x3 y3 x4 y4 (List.take 2 [(x1, y1), (x2, y2), (x3, y3), (x4, y4)])) (x3, y3) (shr x1 y1 x2 y2 x3 y3 x4 y4 x3 y3) from rfl, show (shO x1 y1 x2 y2 x3 y3 x4 y4 (List.take 3 [(x1, y1), (x2, y2), (x3, y3), (x4, y4)])) = lastP (shO x1 y1 x2 y2 x3 y3 x4 y4 (List.take 2 [(x1, y1), (x2, y2), (x3, y3), (x4, y4)])) (x3, y3) (shr x1 y1 x2 y2 x3 y3 x4 y4 x3 y3) from rfl, FL]; exact A2.as (addP_true _ _)⟩
          case measure => simp [intOf]
    · have HL : Hid (∀ q ∈ (shL x1 y1 x2 y2 x3 y3 x4 y4 (List.take 3 [(x1, y1), (x2, y2), (x3, y3), (x4, y4)])), Crd q.1 ∧ Crd q.2) := fun q hq => HC q (List.mem_of_mem_take (shL_in x1 y1 x2 y2 x3 y3 x4 y4 _ q hq))
      have hq6 : w.heap.size + 1 + 1 + 1 + 1 + 1 + 1 < wr.heap.size := A.o.lt
      have P := Box2.new wr (lo := w.heap.size) A.b.size (.int .i64 x4) (.int .i64 y4) 25
      obtain ⟨k1, k2, k3, k4, k5, k6, k7, k8⟩ := A.k
      replace A := A.below (below1 wr (.cells #[.int .i64 x4, .int .i64 y4] 25))
      have z0 : w.heap.size < wr.heap.size := by omega
      have z1 : w.heap.size + 1 < wr.heap.size := by omega
      have z2 : w.heap.size + 1 + 1 < wr.heap.size := by omega
      have z3 : w.heap.size + 1 + 1 + 1 < wr.heap.size := by omega
      have hI : (Instr.index 61 (.agg #[.int .i64 x1, .int .i64 y1, .int .i64 x2, .int .i64 y2, .int .i64 x3, .int .i64 y3, .int .i64 x4, .int .i64 y4]) (.int .i64 3)).run Try.prog wr = .ok (.agg #[.int .i64 x4, .int .i64 y4]) wr := by kernel_rfl
      go_wp2_with fail
      clear hI z0 z1 z2 z3 k1 k2 k3 k4 k5 k6 k7 k8 HC
      generalize wr.alloc (.cells #[.int .i64 x4, .int .i64 y4] 25) = W1 at *
      generalize wr.heap.size = q at *
      refine (onSeg_any x1 y1 x2 y2 x4 y4 _ c1 d1 c2 d2 c4 d4).mono ?_
      rintro e w2 ⟨rfl, hb⟩
      replace A := A.below hb
      replace P := P.below hb
      clear hb
      obtain ⟨k1, k2, k3, k4, k5, k6, k7, k8⟩ := A.k
      obtain ⟨p0, p1, _, _⟩ := id P
      cases f1 : onB x1 y1 x2 y2 x4 y4
      · have FL : shr x1 y1 x2 y2 x3 y3 x4 y4 x4 y4 = false := by unfold shr; rw [f1]; rfl
        go_wp2_with fail
        go_roundw
        case rel => exact ⟨4, by omega, by first | rfl | go_num, by rw [show (shL x1 y1 x2 y2 x3 y3 x4 y4 (List.take 4 [(x1, y1), (x2, y2), (x3, y3), (x4, y4)])) = addP (shL x1 y1 x2 y2 x3 y3 x4 y4 (List.take 3 [(x1, y1), (x2, y2), (x3, y3), (x4, y4)])) (x4, y4) (shr x1 y1 x2 y2 x3 y3 x4 y4 x4 y4) from rfl, show (shO x1 y1 x2 y2 x3 y3 x4 y4 (List.take 4 [(x1, y1), (x2, y2), (x3, y3), (x4, y4)])) = lastP (shO x1 y1 x2 y2 x3 y3 x4 y4 (List.take 3 [(x1, y1), (x2, y2), (x3, y3), (x4, y4)])) (x4, y4) (shr x1 y1 x2 y2 x3 y3 x4 y4 x4 y4) from rfl, FL]; exact A⟩
        case measure => simp [intOf]
      · go_wp2_with fail
        refine (onSeg_any x3 y3 x4 y4 x4 y4 _ c3 d3 c4 d4 c4 d4).mono ?_
        rintro e w3 ⟨rfl, hb⟩
        replace A := A.below hb
        replace P := P.below hb
        clear hb k1 k2 k3 k4 k5 k6 k7 k8 p0 p1
        obtain ⟨p0, p1, _, _⟩ := id P
        cases f2 : onB x3 y3 x4 y4 x4 y4
        · have FL : shr x1 y1 x2 y2 x3 y3 x4 y4 x4 y4 = false := by unfold shr; rw [f1, f2]; rfl
          go_wp2_with fail
          go_roundw
          case rel => exact ⟨4, by omega, by first | rfl | go_num, by rw [show (shL x1 y1 x2 y2 x3 y3 x4 y4 (List.take 4 [(x1, y1), (x2, y2), (x3, y3), (x4, y4)])) = addP (shL x1 y1 x2 y2 x3 y3 x4 y4 (List.take 3 [(x1, y1), (x2, y2), (x3, y3), (x4, y4)])) (x4, y4) (shr x1 y1 x2 y2 x3 y3 x4 y4 x4 y4) from rfl, show (shO x1 y1 x2 y2 x3 y3 x4 y4 (List.take 4 [(x1, y1), (x2, y2), (x3, y3), (x4, y4)])) = lastP (shO x1 y1 x2 y2 x3 y3 x4 y4 (List.take 3 [(x1, y1), (x2, y2), (x3, y3), (x4, y4)])) (x4, y4) (shr x1 y1 x2 y2 x3 y3 x4 y4 x4 y4) from rfl, FL]; exact A⟩
          case measure => simp [intOf]
        · have FL : shr x1 y1 x2 y2 x3 y3 x4 y4 x4 y4 = true := by unfold shr; rw [f1, f2]; rfl
          have MD : PMap w3.drew (w.heap.size + 1 + 1 + 1 + 1 + 1) (shL x1 y1 x2 y2 x3 y3 x4 y4 (List.take 3 [(x1, y1), (x2, y2), (x3, y3), (x4, y4)])) := A.m
          obtain ⟨n, v0, st, V1, hL, hE, hL2, g1, hS⟩ := MD.bump HL.out (p := (x4, y4)) c4 d4
          obtain ⟨V2, hS2, m2, g2⟩ := hS (wrap64 (n + 1))
          simp only [goInt] at hE hS2
          unfold ptV at hL hE hL2
          dsimp only at hL hE hL2
          have pd0 : w3.drew.cell? ⟨q, 0, none⟩ = some (.int .i64 x4) := p0
          have pd1 : w3.drew.cell? ⟨q, 1, none⟩ = some (.int .i64 y4) := p1
          have PD := P.below ((Below.refl _ _).drew)
          have PDk := PD
          have pq := PD.kept g1 (by intro e; injection e with e; omega)
          have pe0 := pq.c0
          have pe1 := pq.c1
          clear MD hS
          go_wp2_with fail
          go_region
          have A2 := A.bumped g2 m2
          clear A P PD pq pe0 pe1 pd0 pd1 p0 p1 hL hE hL2 hS2 g1
          have pv : Box2 w.heap.size V2 q (.int .i64 x4) (.int .i64 y4) := PDk.kept g2 (by intro e; injection e with e; omega)
          obtain ⟨p0, p1, _, _⟩ := id pv
          obtain ⟨o0, o1, of, _⟩ := id A2.o
          replace A2 := A2.putO x4 y4
          go_wp2_with fail
          go_roundw
          case rel => exact ⟨4, by omega, by first | rfl | go_num, by rw [show (shL x1 y1 x2 y2 x3 y3 x4 y4 (List.take 4 [(x1, y1), (x2, y2), (x3, y3), (x4, y4)])) = addP (shL x1 y1 x2 y2 x3 y3 x4 y4 (List.take 3 [(x1, y1), (x2, y2), (x3, y3), (x4, y4)])) (x4, y4) (shr x1 y1 x2 y2 x3 y3 x4 y4 x4 y4) from rfl, show (shO x1 y1 x2 y2 x3 y3 x4 y4 (List.take 4 [(x1, y1), (x2, y2), (x3, y3), (x4, y4)])) = lastP (shO x1 y1 x2 y2 x3 y3 x4 y4 (List.take 3 [(x1, y1), (x2, y2), (x3, y3), (x4, y4)])) (x4, y4) (shr x1 y1 x2 y2 x3 y3 x4 y4 x4 y4) from rfl, FL]; exact A2.as (addP_true _ _)⟩
          case measure => simp [intOf]
    · have A5 : ShAt w wr x1 y1 x2 y2 x3 y3 x4 y4 (shL x1 y1 x2 y2 x3 y3 x4 y4 [(x1, y1), (x2, y2), (x3, y3), (x4, y4)]) (shO x1 y1 x2 y2 x3 y3 x4 y4 [(x1, y1), (x2, y2), (x3, y3), (x4, y4)]) := A
      clear A
      obtain ⟨r0, r1, rf, _⟩ := id A5.r
      obtain ⟨o0, o1, _, _⟩ := id A5.o
      have hl := A5.m.len 3
      have R2 := A5.r.put (.int .i64 (shO x1 y1 x2 y2 x3 y3 x4 y4 [(x1, y1), (x2, y2), (x3, y3), (x4, y4)]).1) (.int .i64 (shO x1 y1 x2 y2 x3 y3 x4 y4 [(x1, y1), (x2, y2), (x3, y3), (x4, y4)]).2)
      have BF := Box2.chain A5.b A5.r (.int .i64 (shO x1 y1 x2 y2 x3 y3 x4 y4 [(x1, y1), (x2, y2), (x3, y3), (x4, y4)]).1) (.int .i64 (shO x1 y1 x2 y2 x3 y3 x4 y4 [(x1, y1), (x2, y2), (x3, y3), (x4, y4)]).2)
      obtain ⟨s0, s1, _, _⟩ := id R2
      go_wp2
      exact bodyPost_ret (v := .tuple #[.agg #[.int .i64 (shO x1 y1 x2 y2 x3 y3 x4 y4 [(x1, y1), (x2, y2), (x3, y3), (x4, y4)]).1, .int .i64 (shO x1 y1 x2 y2 x3 y3 x4 y4 [(x1, y1), (x2, y2), (x3, y3), (x4, y4)]).2], .int .i64 (shL x1 y1 x2 y2 x3 y3 x4 y4 [(x1, y1), (x2, y2), (x3, y3), (x4, y4)]).length]) (by simp [results, Try.results17, go_sem, s0, s1]) rfl ⟨rfl, BF⟩

end Go.Proofs.Ytfhcbgjnojcigaa
