/- Trees copied (toIntS, toNode, toNodeS). -/
import Derived.Test.YthompofbdjdloaaGreatTrL
namespace Go.Proofs.YthompofbdjdloaaGreat
open Go.RowKit

theorem infoJ : (Tryz.prog.info? 3).map (fun i => (i.zero, i.size, i.bytes)) = some (some (.int .i64 0), 1, 8) := by kernel_rfl
theorem infoN : (Tryz.prog.info? 32).map (fun i => (i.zero, i.size, i.bytes)) = some (some (.agg #[.int .i64 0, .int .i64 0, .int .i64 0, .int .i64 0, .slice none 0 0, .slice none 0 0, .slice none 0 0]), 7, 104) := by kernel_rfl
/-- A row of numbers that is being filled. -/
structure RowJ (w : World) (g n j : Nat) (is : List Int) : Prop where
  c : ∀ i, i < j → w.cell? ⟨g, i, none⟩ = some (.int .i64 (is[i]?.getD 0))
  u : ∀ k, k < n → ∃ v, w.cell? ⟨g, k, none⟩ = some v
  fr : ∀ o, w.frozen? ⟨g, o, none⟩ = false
  lt : g < w.heap.size
theorem RowJ.below {w w' : World} {g n j : Nat} {is : List Int} (h : RowJ w g n j is) (hb : Below w.heap.size w w') : RowJ w' g n j is := by
  obtain ⟨q, r⟩ := at_block hb h.lt
  exact ⟨fun i hi => bat hb (h.c i hi), fun k hk => by obtain ⟨v, hv⟩ := h.u k hk; exact ⟨v, (q _).trans hv⟩, fun o => (r o).trans (h.fr o), Nat.lt_of_lt_of_le h.lt hb.size⟩
theorem owns_cells {w : World} {base e s g n : Nat} {xs : List Value} (h : w.ownsRow base e s (.slice (some ⟨g, 0, none⟩) n n) n xs) : (∀ k, k < n * s → ∃ v, w.cell? ⟨g, k, none⟩ = some v) ∧ (∀ o, w.frozen? ⟨g, o, none⟩ = false) ∧ g < w.heap.size ∧ Plain w g := by
  obtain ⟨h1, h2⟩ := h
  rcases h2 with ⟨h2, _⟩ | ⟨g', cap', cur, hv, hb, hh, hc, hm, hs, ht⟩
  · cases h2
  simp only [Value.slice.injEq, Option.some.injEq, Addr.mk.injEq, and_true] at hv
  obtain ⟨rfl, _, rfl⟩ := hv
  refine ⟨fun k hk => ?_, fun o => by simp [World.frozen?, hh], ?_, ⟨_, _, hh⟩⟩
  · rw [cell_of_row w g k cur e (0, 0) hh]
    exact ⟨cur[k]'(by omega), Array.getElem?_eq_getElem (by omega)⟩
  · rcases Nat.lt_or_ge g w.heap.size with k | k
    · exact k
    · rw [Array.getElem?_eq_none k] at hh
      cases hh
theorem RowJ.step {w : World} {g n j : Nat} {is : List Int} (h : RowJ w g n j is) (hj : j < n) {x : Int} (hx : is[j]?.getD 0 = x) : RowJ (w.setCell ⟨g, j, none⟩ (.int .i64 x)) g n (j + 1) is := by
  refine ⟨fun i hi => ?_, fun k hk => cell_ex (h.u k hk), fun o => (World.frozen?_setCell ..).trans (h.fr o), by simpa using h.lt⟩
  by_cases e : i = j
  · subst e
    rw [hx]
    obtain ⟨v, hv⟩ := h.u i hj
    exact cell_same hv _
  · exact (cell_other (.inr (by omega)) _).trans (h.c i (by omega))
theorem RowJ.sees {w : World} {g n : Nat} {is : List Int} (h : RowJ w g n n is) (hn : is.length = n) (hm : n ≤ maxLen) : SeesI w (some ⟨g, 0, none⟩) n is :=
  ⟨by omega, hm, fun _ => ⟨g, 0, rfl, fun i hi => by rw [Nat.zero_add]; exact h.c i (by omega)⟩⟩

set_option maxRecDepth 20000 in
set_option maxHeartbeats 1000000 in
theorem toInts (a : Option Addr) (cap : Nat) (is : List Int) (w : World) (h : SeesI w a cap is) (hs : is.length ≤ 1048576) :
    Calls Tryz.prog 8 #[.slice a is.length cap] w fun e w' => e = .returned (.slice (some ⟨w.heap.size, 0, none⟩) is.length is.length) ∧ RowJ w' w.heap.size is.length is.length is ∧ Below w.heap.size w w' := by
  obtain ⟨i0, hi, hz0, hz1, hz2⟩ := info_parts infoJ
  go_enter Tryz.func8, Tryz.ntmps8
  go_wp2_with (at_make; refine wpList_make_full _ rfl _ _ 22 rfl w.heap.size 3 i0 (.int .i64 0) 1 Tryz.underlying22 hi hz0 hz1 .i64 .i64 _ _ is.length rfl rfl rfl rfl ?b2 ?b3 (Nat.le_refl _) ?_)
  case b2 => rw [hz2]; omega
  case b3 => unfold maxLen; omega
  intro w0 hown0 hgrow0
  have R : RowJ w0 w.heap.size is.length 0 is := by
    obtain ⟨q1, q2, q3, _⟩ := owns_cells hown0
    exact ⟨fun i hi => absurd hi (by omega), fun k hk => q1 k (by omega), q2, q3⟩
  have hb0 : Below w.heap.size w w0 := (Below.refl _ _).grown hgrow0 (Nat.le_refl _) (fun k h => by cases h)
  have hm := h.max
  have hf := h.fits
  unfold maxLen at hm
  clear hown0 hgrow0 hi hz0 hz1 hz2
  go_wp2
  go_loopw [4] (fun i wr => ∃ j : Nat, j ≤ is.length ∧ i = .int .i64 j ∧ RowJ wr w.heap.size is.length j is ∧ Below w.heap.size w wr) (fun i _ => is.length - (intOf i).toNat)
  case atStart => exact ⟨0, Nat.zero_le _, rfl, R, hb0⟩
  case round =>
    clear R hb0
    obtain ⟨j, hj, rfl, R, B⟩ := hrel
    by_cases hlt : j < is.length
    · obtain ⟨b1, o1, rfl, hc⟩ := (h.below B).cells (by intro e; simp [e] at hlt)
      have g1 := hc j hlt
      obtain ⟨x, ux⟩ : ∃ x, Hid (is[j]?.getD 0 = x) := ⟨_, rfl⟩
      rw [ux.out] at g1
      clear hc
      obtain ⟨v0, c0⟩ := R.u j (by omega)
      have cf := R.fr
      replace R := R.step hlt ux.out
      replace B := B.setCell (p := ⟨w.heap.size, j, none⟩) (Nat.le_refl _) (.int .i64 x)
      go_wp2_with fail
      go_roundw
      case rel => exact ⟨j + 1, by omega, by go_num, R, B⟩
      case measure => simp [intOf]; omega
    · have hje : j = is.length := by omega
      subst hje
      go_wp2
      go_ret
      exact ⟨rfl, R, B⟩

/-- A variable of seven cells. -/
structure Bx7 (w : World) (p : Nat) (u0 u1 u2 u3 u4 u5 u6 : Value) : Prop where
  c0 : w.cell? ⟨p, 0, none⟩ = some u0
  c1 : w.cell? ⟨p, 1, none⟩ = some u1
  c2 : w.cell? ⟨p, 2, none⟩ = some u2
  c3 : w.cell? ⟨p, 3, none⟩ = some u3
  c4 : w.cell? ⟨p, 4, none⟩ = some u4
  c5 : w.cell? ⟨p, 5, none⟩ = some u5
  c6 : w.cell? ⟨p, 6, none⟩ = some u6
  fr : ∀ o, w.frozen? ⟨p, o, none⟩ = false
theorem Bx7.new (w : World) (u0 u1 u2 u3 u4 u5 u6 : Value) (T : TypeId) : Bx7 (w.alloc (.cells #[u0, u1, u2, u3, u4, u5, u6] T)) w.heap.size u0 u1 u2 u3 u4 u5 u6 :=
  ⟨cell_new w _ T 0 rfl, cell_new w _ T 1 rfl, cell_new w _ T 2 rfl, cell_new w _ T 3 rfl, cell_new w _ T 4 rfl, cell_new w _ T 5 rfl, cell_new w _ T 6 rfl, fun o => frozen_new _ _ _ o⟩
theorem Bx7.lt {w : World} {p : Nat} {u0 u1 u2 u3 u4 u5 u6 : Value} (h : Bx7 w p u0 u1 u2 u3 u4 u5 u6) : p < w.heap.size := World.block_lt_of_cell? _ _ h.c0
theorem Bx7.below {w w' : World} {p : Nat} {u0 u1 u2 u3 u4 u5 u6 : Value} (h : Bx7 w p u0 u1 u2 u3 u4 u5 u6) (hb : Below w.heap.size w w') : Bx7 w' p u0 u1 u2 u3 u4 u5 u6 :=
  ⟨bat hb h.c0, bat hb h.c1, bat hb h.c2, bat hb h.c3, bat hb h.c4, bat hb h.c5, bat hb h.c6, fun o => (hb.frozen (p := ⟨p, o, none⟩) h.lt).trans (h.fr o)⟩
theorem Bx7.old {w : World} {p q o : Nat} {u0 u1 u2 u3 u4 u5 u6 : Value} (h : Bx7 w p u0 u1 u2 u3 u4 u5 u6) (ne : p ≠ q) (x : Value) : Bx7 (w.setCell ⟨q, o, none⟩ x) p u0 u1 u2 u3 u4 u5 u6 :=
  ⟨(cell_other (.inl (Ne.symm ne)) x).trans h.c0, (cell_other (.inl (Ne.symm ne)) x).trans h.c1, (cell_other (.inl (Ne.symm ne)) x).trans h.c2, (cell_other (.inl (Ne.symm ne)) x).trans h.c3, (cell_other (.inl (Ne.symm ne)) x).trans h.c4, (cell_other (.inl (Ne.symm ne)) x).trans h.c5, (cell_other (.inl (Ne.symm ne)) x).trans h.c6, fun o => (World.frozen?_setCell ..).trans (h.fr o)⟩
theorem Bx7.set0 {w : World} {p : Nat} {u0 u1 u2 u3 u4 u5 u6 : Value} (h : Bx7 w p u0 u1 u2 u3 u4 u5 u6) (x : Value) : Bx7 (w.setCell ⟨p, 0, none⟩ x) p x u1 u2 u3 u4 u5 u6 := ⟨cell_same h.c0 x, (cell_other (.inr (by omega)) x).trans h.c1, (cell_other (.inr (by omega)) x).trans h.c2, (cell_other (.inr (by omega)) x).trans h.c3, (cell_other (.inr (by omega)) x).trans h.c4, (cell_other (.inr (by omega)) x).trans h.c5, (cell_other (.inr (by omega)) x).trans h.c6, fun o => (World.frozen?_setCell ..).trans (h.fr o)⟩
theorem Bx7.set1 {w : World} {p : Nat} {u0 u1 u2 u3 u4 u5 u6 : Value} (h : Bx7 w p u0 u1 u2 u3 u4 u5 u6) (x : Value) : Bx7 (w.setCell ⟨p, 1, none⟩ x) p u0 x u2 u3 u4 u5 u6 := ⟨(cell_other (.inr (by omega)) x).trans h.c0, cell_same h.c1 x, (cell_other (.inr (by omega)) x).trans h.c2, (cell_other (.inr (by omega)) x).trans h.c3, (cell_other (.inr (by omega)) x).trans h.c4, (cell_other (.inr (by omega)) x).trans h.c5, (cell_other (.inr (by omega)) x).trans h.c6, fun o => (World.frozen?_setCell ..).trans (h.fr o)⟩
theorem Bx7.set2 {w : World} {p : Nat} {u0 u1 u2 u3 u4 u5 u6 : Value} (h : Bx7 w p u0 u1 u2 u3 u4 u5 u6) (x : Value) : Bx7 (w.setCell ⟨p, 2, none⟩ x) p u0 u1 x u3 u4 u5 u6 := ⟨(cell_other (.inr (by omega)) x).trans h.c0, (cell_other (.inr (by omega)) x).trans h.c1, cell_same h.c2 x, (cell_other (.inr (by omega)) x).trans h.c3, (cell_other (.inr (by omega)) x).trans h.c4, (cell_other (.inr (by omega)) x).trans h.c5, (cell_other (.inr (by omega)) x).trans h.c6, fun o => (World.frozen?_setCell ..).trans (h.fr o)⟩
theorem Bx7.set3 {w : World} {p : Nat} {u0 u1 u2 u3 u4 u5 u6 : Value} (h : Bx7 w p u0 u1 u2 u3 u4 u5 u6) (x : Value) : Bx7 (w.setCell ⟨p, 3, none⟩ x) p u0 u1 u2 x u4 u5 u6 := ⟨(cell_other (.inr (by omega)) x).trans h.c0, (cell_other (.inr (by omega)) x).trans h.c1, (cell_other (.inr (by omega)) x).trans h.c2, cell_same h.c3 x, (cell_other (.inr (by omega)) x).trans h.c4, (cell_other (.inr (by omega)) x).trans h.c5, (cell_other (.inr (by omega)) x).trans h.c6, fun o => (World.frozen?_setCell ..).trans (h.fr o)⟩
theorem Bx7.set4 {w : World} {p : Nat} {u0 u1 u2 u3 u4 u5 u6 : Value} (h : Bx7 w p u0 u1 u2 u3 u4 u5 u6) (x : Value) : Bx7 (w.setCell ⟨p, 4, none⟩ x) p u0 u1 u2 u3 x u5 u6 := ⟨(cell_other (.inr (by omega)) x).trans h.c0, (cell_other (.inr (by omega)) x).trans h.c1, (cell_other (.inr (by omega)) x).trans h.c2, (cell_other (.inr (by omega)) x).trans h.c3, cell_same h.c4 x, (cell_other (.inr (by omega)) x).trans h.c5, (cell_other (.inr (by omega)) x).trans h.c6, fun o => (World.frozen?_setCell ..).trans (h.fr o)⟩
theorem Bx7.set5 {w : World} {p : Nat} {u0 u1 u2 u3 u4 u5 u6 : Value} (h : Bx7 w p u0 u1 u2 u3 u4 u5 u6) (x : Value) : Bx7 (w.setCell ⟨p, 5, none⟩ x) p u0 u1 u2 u3 u4 x u6 := ⟨(cell_other (.inr (by omega)) x).trans h.c0, (cell_other (.inr (by omega)) x).trans h.c1, (cell_other (.inr (by omega)) x).trans h.c2, (cell_other (.inr (by omega)) x).trans h.c3, (cell_other (.inr (by omega)) x).trans h.c4, cell_same h.c5 x, (cell_other (.inr (by omega)) x).trans h.c6, fun o => (World.frozen?_setCell ..).trans (h.fr o)⟩
theorem Bx7.set6 {w : World} {p : Nat} {u0 u1 u2 u3 u4 u5 u6 : Value} (h : Bx7 w p u0 u1 u2 u3 u4 u5 u6) (x : Value) : Bx7 (w.setCell ⟨p, 6, none⟩ x) p u0 u1 u2 u3 u4 u5 x := ⟨(cell_other (.inr (by omega)) x).trans h.c0, (cell_other (.inr (by omega)) x).trans h.c1, (cell_other (.inr (by omega)) x).trans h.c2, (cell_other (.inr (by omega)) x).trans h.c3, (cell_other (.inr (by omega)) x).trans h.c4, (cell_other (.inr (by omega)) x).trans h.c5, cell_same h.c6 x, fun o => (World.frozen?_setCell ..).trans (h.fr o)⟩
theorem Bx7.sev {w : World} {p : Nat} {x1 x2 x3 x4 : Int} {v1 v2 v3 : Value} (h : Bx7 w p (.int .i64 x1) (.int .i64 x2) (.int .i64 x3) (.int .i64 x4) v1 v2 v3) : Sev w p 0 (x1, x2, x3, x4) v1 v2 v3 := ⟨⟨h.c0, h.c1, h.c2, h.c3⟩, h.c4, h.c5, h.c6⟩
theorem ndsSz_mem {k : Nd} : ∀ {ks : List Nd}, k ∈ ks → ndSz k ≤ ndSz.ndsSz ks
  | [], h => by cases h
  | q :: ks, h => by
    simp only [ndSz.ndsSz]
    rcases List.mem_cons.1 h with rfl | h
    · omega
    · have := ndsSz_mem h
      omega
/-- A row of nodes that is being filled. -/
structure RowN (w : World) (g n j : Nat) (ks : List Nd) : Prop where
  c : ∀ i, i < j → ∃ v1 v2 v3, Sev w g (i * 7) (ndA ks i).b v1 v2 v3 ∧ NdUp w (g + 1) (ndA ks i) v1 v2 v3
  u : ∀ k, k < n * 7 → ∃ v, w.cell? ⟨g, k, none⟩ = some v
  fr : ∀ o, w.frozen? ⟨g, o, none⟩ = false
  lt : g < w.heap.size
  pl : Plain w g
theorem RowN.below {w w' : World} {g n j : Nat} {ks : List Nd} (h : RowN w g n j ks) (hb : Below w.heap.size w w') : RowN w' g n j ks := by
  obtain ⟨q, r⟩ := at_block hb h.lt
  refine ⟨fun i hi => ?_, fun k hk => by obtain ⟨v, hv⟩ := h.u k hk; exact ⟨v, (q _).trans hv⟩, fun o => (r o).trans (h.fr o), Nat.lt_of_lt_of_le h.lt hb.size, h.pl.below hb⟩
  obtain ⟨v1, v2, v3, S, N⟩ := h.c i hi
  exact ⟨v1, v2, v3, S.below hb, NdUp.keep hb _ N⟩
theorem RowN.set {w : World} {g n j : Nat} {ks : List Nd} (h : RowN w g n j ks) {k : Nat} (hk : j * 7 ≤ k) (x : Value) : RowN (w.setCell ⟨g, k, none⟩ x) g n j ks := by
  refine ⟨fun i hi => ?_, fun k hk => cell_ex (h.u k hk), fun o => (World.frozen?_setCell ..).trans (h.fr o), by simpa using h.lt, h.pl.put x⟩
  obtain ⟨v1, v2, v3, S, N⟩ := h.c i hi
  exact ⟨v1, v2, v3, S.put (.inr (.inr (by omega))) x, NdUp.put _ (by omega) N⟩
theorem RowN.step {w : World} {g n j : Nat} {ks : List Nd} (h : RowN w g n j ks) (hj : j < n) {x1 x2 x3 x4 : Int} {u1 u2 u3 : Value} (hx : (ndA ks j).b = (x1, x2, x3, x4)) (N : NdUp w (g + 1) (ndA ks j) u1 u2 u3) :
    RowN (((((((w.setCell ⟨g, j * 7, none⟩ (.int .i64 x1)).setCell ⟨g, j * 7 + 1, none⟩ (.int .i64 x2)).setCell ⟨g, j * 7 + 2, none⟩ (.int .i64 x3)).setCell ⟨g, j * 7 + 3, none⟩ (.int .i64 x4)).setCell ⟨g, j * 7 + 4, none⟩ u1).setCell ⟨g, j * 7 + 5, none⟩ u2).setCell ⟨g, j * 7 + 6, none⟩ u3) g n (j + 1) ks := by
  have R := ((((((h.set (k := j * 7) (by omega) (.int .i64 x1)).set (k := j * 7 + 1) (by omega) (.int .i64 x2)).set (k := j * 7 + 2) (by omega) (.int .i64 x3)).set (k := j * 7 + 3) (by omega) (.int .i64 x4)).set (k := j * 7 + 4) (by omega) u1).set (k := j * 7 + 5) (by omega) u2).set (k := j * 7 + 6) (by omega) u3
  have N' := NdUp.put (q := g) (k := j * 7 + 6) (u := u3) _ (Nat.lt_succ_self g) (NdUp.put (q := g) (k := j * 7 + 5) (u := u2) _ (Nat.lt_succ_self g) (NdUp.put (q := g) (k := j * 7 + 4) (u := u1) _ (Nat.lt_succ_self g) (NdUp.put (q := g) (k := j * 7 + 3) (u := .int .i64 x4) _ (Nat.lt_succ_self g) (NdUp.put (q := g) (k := j * 7 + 2) (u := .int .i64 x3) _ (Nat.lt_succ_self g) (NdUp.put (q := g) (k := j * 7 + 1) (u := .int .i64 x2) _ (Nat.lt_succ_self g) (NdUp.put (q := g) (k := j * 7) (u := .int .i64 x1) _ (Nat.lt_succ_self g) N))))))
  refine ⟨fun i hi => ?_, R.u, R.fr, R.lt, R.pl⟩
  by_cases e : i = j
  · subst e
    refine ⟨u1, u2, u3, ?_, N'⟩
    rw [hx]
    have ex : ∀ k, k < 7 → ∃ v, w.cell? ⟨g, i * 7 + k, none⟩ = some v := fun k hk => h.u _ (by omega)
    obtain ⟨y0, h0⟩ := ex 0 (by omega)
    obtain ⟨y1, h1⟩ := ex 1 (by omega)
    obtain ⟨y2, h2⟩ := ex 2 (by omega)
    obtain ⟨y3, h3⟩ := ex 3 (by omega)
    obtain ⟨y4, h4⟩ := ex 4 (by omega)
    obtain ⟨y5, h5⟩ := ex 5 (by omega)
    obtain ⟨y6, h6⟩ := ex 6 (by omega)
    rw [Nat.add_zero] at h0
    refine ⟨⟨?_, ?_, ?_, ?_⟩, ?_, ?_, ?_⟩
    · exact (cell_other (.inr (by omega)) _).trans ((cell_other (.inr (by omega)) _).trans ((cell_other (.inr (by omega)) _).trans ((cell_other (.inr (by omega)) _).trans ((cell_other (.inr (by omega)) _).trans ((cell_other (.inr (by omega)) _).trans (cell_same (h0) _))))))
    · exact (cell_other (.inr (by omega)) _).trans ((cell_other (.inr (by omega)) _).trans ((cell_other (.inr (by omega)) _).trans ((cell_other (.inr (by omega)) _).trans ((cell_other (.inr (by omega)) _).trans (cell_same ((cell_other (.inr (by omega)) _).trans (h1)) _)))))
    · exact (cell_other (.inr (by omega)) _).trans ((cell_other (.inr (by omega)) _).trans ((cell_other (.inr (by omega)) _).trans ((cell_other (.inr (by omega)) _).trans (cell_same ((cell_other (.inr (by omega)) _).trans ((cell_other (.inr (by omega)) _).trans (h2))) _))))
    · exact (cell_other (.inr (by omega)) _).trans ((cell_other (.inr (by omega)) _).trans ((cell_other (.inr (by omega)) _).trans (cell_same ((cell_other (.inr (by omega)) _).trans ((cell_other (.inr (by omega)) _).trans ((cell_other (.inr (by omega)) _).trans (h3)))) _)))
    · exact (cell_other (.inr (by omega)) _).trans ((cell_other (.inr (by omega)) _).trans (cell_same ((cell_other (.inr (by omega)) _).trans ((cell_other (.inr (by omega)) _).trans ((cell_other (.inr (by omega)) _).trans ((cell_other (.inr (by omega)) _).trans (h4))))) _))
    · exact (cell_other (.inr (by omega)) _).trans (cell_same ((cell_other (.inr (by omega)) _).trans ((cell_other (.inr (by omega)) _).trans ((cell_other (.inr (by omega)) _).trans ((cell_other (.inr (by omega)) _).trans ((cell_other (.inr (by omega)) _).trans (h5)))))) _)
    · exact cell_same ((cell_other (.inr (by omega)) _).trans ((cell_other (.inr (by omega)) _).trans ((cell_other (.inr (by omega)) _).trans ((cell_other (.inr (by omega)) _).trans ((cell_other (.inr (by omega)) _).trans ((cell_other (.inr (by omega)) _).trans (h6))))))) _
  · exact R.c i (by omega)

end Go.Proofs.YthompofbdjdloaaGreat
