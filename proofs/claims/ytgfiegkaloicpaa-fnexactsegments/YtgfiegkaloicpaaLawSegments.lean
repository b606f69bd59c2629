import Derived.Test.YtgfiegkaloicpaaSegE
import Derived.Test.YtgfiegkaloicpaaSegI
import Derived.Test.YtgfiegkaloicpaaFrameSh
/- The law on Segments: at every argument the program's Segments is the specification's, field by field; it writes into no argument and keeps nothing of one; its answer owns its memory. -/
namespace Go.Proofs.Ytgfiegkaloicpaa
open Go.RowKit

/-- Rows of points that may be marked: the list lies in block b, the rows from block lo up to below hi. -/
def MarkS (lo hi : Nat) (w : World) (b off : Nat) (rs : List (List (Int × Int))) : Prop :=
  ∀ i, i < rs.length → ∃ a' c', w.cell? ⟨b, off + i, none⟩ = some (.slice a' (rowA rs i).length c') ∧ (rowA rs i).length ≤ c' ∧ c' ≤ maxLen ∧ ((rowA rs i).length = 0 ∨ ∃ b' off', a' = some ⟨b', off', none⟩ ∧ lo ≤ b' ∧ b' < hi ∧ Has w b' off' ((rowA rs i).length * 2))
theorem MarkS.put {lo hi b off b' o : Nat} {w : World} {rs : List (List (Int × Int))} {u : Value} (h : MarkS lo hi w b off rs) (hb : b < lo) (h1 : lo ≤ b') : MarkS lo hi (w.setCell ⟨b', o, none⟩ u) b off rs := by
  intro i hi'
  obtain ⟨a', c', g, f1, f2, r⟩ := h i hi'
  refine ⟨a', c', (cell_other (.inl (by omega)) u).trans g, f1, f2, ?_⟩
  rcases r with r | ⟨b2, o2, e, l1, l2, H⟩
  · exact .inl r
  · exact .inr ⟨b2, o2, e, l1, l2, H.put b' o u⟩
theorem MarkS.below {lo hi b off : Nat} {w w' : World} {rs : List (List (Int × Int))} (h : MarkS lo hi w b off rs) (bn : Below w.heap.size w w') : MarkS lo hi w' b off rs := by
  intro i hi'
  obtain ⟨a', c', g, f1, f2, r⟩ := h i hi'
  refine ⟨a', c', bat bn g, f1, f2, ?_⟩
  rcases r with r | ⟨b2, o2, e, l1, l2, H⟩
  · exact .inl r
  · rcases Nat.eq_zero_or_pos (rowA rs i).length with z | z
    · exact .inl z
    · refine .inr ⟨b2, o2, e, l1, l2, fun o ho => ?_, fun o => ?_⟩
      · obtain ⟨v, hv⟩ := H.c o ho
        exact ⟨v, bat bn hv⟩
      · obtain ⟨v, hv⟩ := H.c 0 (by omega)
        have hlt : b2 < w.heap.size := World.block_lt_of_cell? w ⟨b2, o2 + 0, none⟩ hv
        exact (bn.frozen (p := ⟨b2, o, none⟩) hlt).trans (H.f o)
theorem SeesP.has {w : World} {b off c : Nat} {ps : List (Int × Int)} (h : SeesP w (some ⟨b, off, none⟩) c ps) (f : ∀ o, w.frozen? ⟨b, o, none⟩ = false) : Has w b off (ps.length * 2) :=
  ⟨fun o ho => by
    have hi : o / 2 < ps.length := by omega
    obtain ⟨b', off', e, hc⟩ := h.cells (by intro e; simp [e] at hi)
    simp only [Option.some.injEq, Addr.mk.injEq] at e
    obtain ⟨rfl, rfl, _⟩ := e
    obtain ⟨c0, c1⟩ := hc _ hi
    have hm : o % 2 = 0 ∨ o % 2 = 1 := by omega
    rcases hm with m | m
    · exact ⟨_, by rw [show off + o = off + o / 2 * 2 by omega]; exact c0⟩
    · exact ⟨_, by rw [show off + o = off + o / 2 * 2 + 1 by omega]; exact c1⟩, f⟩
theorem OwnS.mark {lo b off : Nat} {w : World} {c : Nat} {rs : List (List (Int × Int))} (h : OwnS lo w (some ⟨b, off, none⟩) c rs) : MarkS (b + 1) w.heap.size w b off rs := by
  intro i hi
  obtain ⟨b0, off0, e, _, hc⟩ := h.cells (by intro e; simp [e] at hi)
  simp only [Option.some.injEq, Addr.mk.injEq] at e
  obtain ⟨rfl, rfl, _⟩ := e
  obtain ⟨a', c', g, S, r⟩ := hc i hi
  refine ⟨a', c', g, S.fits, S.max, ?_⟩
  rcases Nat.eq_zero_or_pos (rowA rs i).length with z | z
  · exact .inl z
  · obtain ⟨b', off', rfl, _⟩ := S.cells (by intro e; simp [e] at z)
    obtain ⟨r1, r2, r3, r4⟩ := r b' off' rfl
    exact .inr ⟨b', off', rfl, r2, r3, S.has r4⟩

theorem markNone (a : Option Addr) (c : Nat) (k : Int) (w : World) :
    Calls Try.prog 52 #[.slice a 0 c, .int .i64 k] w fun e w' => e = .returned (.int .i64 k) ∧ w' = w := by
  go_enter Try.func52, Try.ntmps52
  go_wp2
  go_loopw [1, 5] (fun s1 i wr => i = .int .i64 0 ∧ s1 = .int .i64 k ∧ Hid (wr = w)) (fun _ _ _ => 0)
  case atStart => exact ⟨rfl, rfl, rfl⟩
  case round =>
    obtain ⟨rfl, rfl, hw⟩ := hrel
    go_wp2
    go_ret
    exact ⟨rfl, hw.out⟩

set_option maxRecDepth 20000 in
set_option maxHeartbeats 1000000 in
theorem markRows (b off c lo hi : Nat) (rs : List (List (Int × Int))) (w : World) (h : MarkS lo hi w b off rs) (hb : b < lo) (hc : c ≤ maxLen) (hf : rs.length ≤ c) (hs : upto rs rs.length ≤ 1048576) :
    Calls Try.prog 35 #[.slice (some ⟨b, off, none⟩) rs.length c, .int .i64 1] w fun e w' => ∃ k : Int, e = .returned (.int .i64 k) ∧ 0 ≤ k ∧ Puts lo hi w w' := by
  unfold maxLen at hc
  have HS : Hid (upto rs rs.length ≤ 1048576) := hs
  clear hs
  go_enter Try.func35, Try.ntmps35
  go_wp2
  go_loopw [1, 5] (fun s1 i wr => ∃ (j : Nat) (k : Int), j ≤ rs.length ∧ i = .int .i64 j ∧ s1 = .int .i64 k ∧ 0 ≤ k ∧ k ≤ 1 + 2 * (upto rs j : Int) ∧ Hid (Puts lo hi w wr)) (fun _ i _ => rs.length - (intOf i).toNat)
  case atStart => exact ⟨0, 1, Nat.zero_le _, rfl, rfl, by omega, by omega, Puts.refl _ _ _⟩
  case round =>
    obtain ⟨j, k, hj, rfl, rfl, k0, k1, P⟩ := hrel
    rename World => wr
    by_cases hlt : j < rs.length
    · have H := P.out (fun W => MarkS lo hi W b off rs) (fun W b' o u q _ r => r.put hb q) h
      obtain ⟨a', c', g, f1, f2, r⟩ := H j hlt
      have hu : upto rs (j + 1) = upto rs j + (rowA rs j).length := rfl
      have hle := upto_le rs (j + 1) (rs.length - (j + 1))
      rw [show j + 1 + (rs.length - (j + 1)) = rs.length by omega] at hle
      have hsz := HS.out
      have HU : Hid (upto rs (j + 1) = upto rs j + (rowA rs j).length) := hu
      have b1 : upto rs j + (rowA rs j).length ≤ 1048576 := by omega
      clear H hu hle hsz
      generalize upto rs j = uj at *
      generalize (rowA rs j).length = m at *
      rcases r with rfl | ⟨b', off', rfl, l1, l2, HA⟩
      · go_wp2_with fail
        refine (markNone a' c' k _).mono ?_
        rintro e w3 ⟨rfl, rfl⟩
        go_wp2
        go_roundw
        case rel => exact ⟨j + 1, k, by omega, by go_num, rfl, k0, (by rw [HU.out]; omega), P⟩
        case measure => simp [intOf]; omega
      · go_wp2_with fail
        refine (markPts b' off' c' m k _ HA (by omega) f2 f1 k0 (by omega)).mono ?_
        rintro e w3 ⟨rfl, P3⟩
        have P4 : Hid (Puts lo hi w w3) := P.out.trans (P3.wider l1 (by omega))
        clear P P3 HA
        go_wp2
        go_roundw
        case rel => exact ⟨j + 1, _, by omega, by go_num, rfl, by omega, (by rw [HU.out]; push_cast; omega), P4⟩
        case measure => simp [intOf]; omega
    · obtain rfl : j = rs.length := by omega
      go_wp2
      go_ret
      exact ⟨_, rfl, k0, P.out⟩
theorem markEmpty (a : Option Addr) (c : Nat) (w : World) :
    Calls Try.prog 35 #[.slice a 0 c, .int .i64 1] w fun e w' => e = .returned (.int .i64 1) ∧ w' = w := by
  go_enter Try.func35, Try.ntmps35
  go_wp2
  go_loopw [1, 5] (fun s1 i wr => i = .int .i64 0 ∧ s1 = .int .i64 1 ∧ Hid (wr = w)) (fun _ _ _ => 0)
  case atStart => exact ⟨rfl, rfl, rfl⟩
  case round =>
    obtain ⟨rfl, rfl, hw⟩ := hrel
    go_wp2
    go_ret
    exact ⟨rfl, hw.out⟩

/-- A shape of a call's own is marked: nothing below its blocks is written, nothing from hi on. -/
theorem markShape_any (n : Int) (lo hi : Nat) (a : Option Addr) (c : Nat) (rs : List (List (Int × Int))) (w : World) (h : OwnS lo w a c rs) (hh : ∀ b off, a = some ⟨b, off, none⟩ → MarkS (b + 1) hi w b off rs) (hs : upto rs rs.length ≤ 1048576) :
    Calls Try.prog 15 #[.agg #[.int .i64 n, .slice a rs.length c], .int .i64 1] w fun e w' => ∃ k : Int, e = .returned (.int .i64 k) ∧ 0 ≤ k ∧ Puts lo hi (w.alloc (.cells #[.int .i64 n, .slice a rs.length c] 33)) w' := by
  have hm := h.max
  have hf := h.fits
  have HS : Hid (upto rs rs.length ≤ 1048576) := hs
  clear hs
  by_cases hz : rs.length = 0
  · obtain rfl : rs = [] := List.eq_nil_of_length_eq_zero hz
    clear h hh hz
    go_enter Try.func15, Try.ntmps15
    go_wp2_with fail
    refine (markEmpty a c _).mono ?_
    rintro e w3 ⟨rfl, rfl⟩
    go_wp2
    go_ret
    exact ⟨_, rfl, by omega, Puts.refl _ _ _⟩
  · obtain ⟨b, off, rfl, hlo, _⟩ := h.cells (by intro e; simp [e] at hz)
    have M := hh b off rfl
    have M2 := M.below (below1 w (.cells #[.int .i64 n, .slice (some ⟨b, off, none⟩) rs.length c] 33))
    clear h hh M
    go_enter Try.func15, Try.ntmps15
    go_wp2_with fail
    refine (markRows b off c (b + 1) hi rs _ M2 (by omega) hm hf HS.out).mono ?_
    rintro e w3 ⟨k, rfl, k0, P⟩
    have P2 : Hid (Puts lo hi (w.alloc (.cells #[.int .i64 n, .slice (some ⟨b, off, none⟩) rs.length c] 33)) w3) := P.wider (by omega) (Nat.le_refl _)
    clear P M2
    go_wp2
    go_ret
    exact ⟨_, rfl, k0, P2.out⟩
theorem RowQ.puts {base lo hi : Nat} {w w' : World} {v : Value} {es : List Sg} (h : RowQ base w v es) (P : Puts lo hi w w') (ne : ∀ k, v.ownBlock = some k → k < lo ∨ hi ≤ k) : RowQ base w' v es :=
  P (fun W => RowQ base W v es) (fun W b o u h1 h2 q => World.ownsRow.kept q (grownBy_setCell (grownBy_refl W (some b)) rfl u) (by
    cases e : v.ownBlock with
    | none => exact .inl rfl
    | some k => exact .inr (by have := ne k e; intro q; simp only [Option.some.injEq] at q; omega))) h
theorem belowPuts {b lo hi : Nat} {w0 w w' : World} (h : Below b w0 w) (P : Puts lo hi w w') (hb : b ≤ lo) : Below b w0 w' :=
  P (fun W => Below b w0 W) (fun _ b' o u h1 _ q => q.setCell (p := ⟨b', o, none⟩) (Nat.le_trans hb h1) u) h
theorem Box2.puts {l p lo hi : Nat} {w w' : World} {x0 x1 : Value} (h : Box2 l w p x0 x1) (P : Puts lo hi w w') (hp : p < lo ∨ hi ≤ p) : Box2 l w' p x0 x1 :=
  P (fun W => Box2 l W p x0 x1) (fun _ b o u h1 h2 q => ⟨(cell_other (.inl (by omega)) u).trans q.c0, (cell_other (.inl (by omega)) u).trans q.c1, fun i => (World.frozen?_setCell ..).trans (q.fr i), q.lo⟩) h
theorem keepG4 {W W' : World} {p q : Nat} {v0 v1 v2 v3 : Value} (k : W.cell? ⟨p, 0, none⟩ = some v0 ∧ W.cell? ⟨p, 1, none⟩ = some v1 ∧ W.cell? ⟨q, 0, none⟩ = some v2 ∧ W.cell? ⟨q, 1, none⟩ = some v3) (hb : Below W.heap.size W W') :
    W'.cell? ⟨p, 0, none⟩ = some v0 ∧ W'.cell? ⟨p, 1, none⟩ = some v1 ∧ W'.cell? ⟨q, 0, none⟩ = some v2 ∧ W'.cell? ⟨q, 1, none⟩ = some v3 :=
  ⟨bat hb k.1, bat hb k.2.1, bat hb k.2.2.1, bat hb k.2.2.2⟩
theorem segsB_le (k : Int) (rs : List (List (Int × Int))) : (segsB k rs).length ≤ 1000000 := by
  unfold segsB
  cases g : goodB k rs
  · simp
  · obtain ⟨_, h1, h2⟩ := goodS_rows g
    have := segL_le (k := k) (fun i hi => (h2 i hi).2.2) rs.length (Nat.le_refl _)
    rw [List.take_length] at this
    simp only [if_true]
    omega

set_option maxRecDepth 20000 in
set_option maxHeartbeats 4000000 in
theorem lawSegments (n : Int) (a : Option Addr) (c : Nat) (rs : List (List (Int × Int))) (w : World) (h : SeesS w a c rs) :
    Calls Try.prog 4 #[.agg #[.int .i64 n, .slice a rs.length c]] w fun e w' => e = .returned (.bool true) ∧ Below w.heap.size w w' := by
  have B0 := below1 w (.cells #[.int .i64 n, .slice a rs.length c] 24)
  have V1 : Box2 0 (w.alloc (.cells #[.int .i64 n, .slice a rs.length c] 24)) w.heap.size (.int .i64 n) (.slice a rs.length c) := Box2.new w (lo := 0) (by omega) _ _ _
  have ML := segsB_le n rs
  obtain ⟨es, HE⟩ : ∃ u, Hid (segsB n rs = u) := ⟨_, rfl⟩
  rw [HE.out] at ML
  have hlw := V1.lt
  go_enter Try.func4, Try.ntmps4
  go_wp2_with fail
  generalize w.alloc (.cells #[.int .i64 n, .slice a rs.length c] 24) = W0 at *
  refine (szShape_any n a c rs 1048576 _ (h.below B0) (by omega)).mono ?_
  rintro e w1 ⟨z1, rfl, hz1, hb⟩
  replace B0 := B0.trans (hb.mono B0.size)
  replace V1 := V1.below hb
  have hlw := V1.lt
  clear hb
  rcases hz1 with rfl | ⟨z10, hz1⟩
  · go_wp2
    go_ret
    exact ⟨rfl, B0⟩
  · have L1 : Hid (upto rs rs.length ≤ 1048576) := by show _ ≤ _; omega
    clear hz1
    obtain ⟨k0, k1, _, _⟩ := id V1
    go_wp2_with fail
    refine (toShape_any n a c rs _ (h.below B0) L1.out).mono ?_
    rintro e w2 ⟨a3, c3, rfl, o3, hb⟩
    replace B0 := B0.trans (hb.mono B0.size)
    replace V1 := V1.below hb
    clear hb k0 k1
    go_wp2_with fail
    refine (specSegments n a3 c3 rs _ o3.sees).mono ?_
    rintro e w3 ⟨v0, rfl, R0, hb⟩
    rw [HE.out] at R0
    replace B0 := B0.trans (hb.mono B0.size)
    replace V1 := V1.below hb
    clear hb o3
    obtain ⟨e0, f0, rfl, _, _⟩ := R0.shape
    have Q0 : Hid (∀ k, (Value.slice e0 es.length f0).ownBlock = some k → k < w3.heap.size) := fun k hk => (World.ownsRow.lt R0 k hk).2
    have hlw3 := V1.lt
    obtain ⟨k0, k1, _, _⟩ := id V1
    go_wp2_with fail
    refine (toShape_any n a c rs _ (h.below B0) L1.out).mono ?_
    rintro e x4 ⟨a5, c5, rfl, o5, hb⟩
    have M5 : Hid (∀ b off, a5 = some ⟨b, off, none⟩ → MarkS (b + 1) x4.heap.size x4 b off rs) := fun b off e => by
      subst e
      exact o5.mark
    have bn := below1 x4 (.cells #[.int .i64 n, .slice a5 rs.length c5] 33)
    have V3 := Box2.new x4 (lo := 0) (by omega) (.int .i64 n) (.slice a5 rs.length c5) 33
    have NB : Below w3.heap.size w3 (x4.alloc (.cells #[.int .i64 n, .slice a5 rs.length c5] 33)) := hb.trans (bn.mono hb.size)
    have O5 := o5.below bn
    have hx4 : x4.heap.size ≤ (x4.alloc (.cells #[.int .i64 n, .slice a5 rs.length c5] 33)).heap.size := bn.size
    have hw3x : w3.heap.size ≤ x4.heap.size := hb.size
    have BX : Below x4.heap.size x4 (x4.alloc (.cells #[.int .i64 n, .slice a5 rs.length c5] 33)) := bn
    replace B0 := B0.trans (NB.mono B0.size)
    replace V1 := V1.below NB
    replace R0 := R0.below NB
    clear hb bn k0 k1 o5 NB
    obtain ⟨k4, k5, _, _⟩ := id V3
    go_wp2_with fail
    generalize x4.alloc (.cells #[.int .i64 n, .slice a5 rs.length c5] 33) = W5 at *
    generalize hq5 : x4.heap.size = q5 at *
    refine (implSegments n a5 c5 rs _ O5.sees).mono ?_
    rintro e x6 ⟨v1, rfl, R1, hb⟩
    rw [HE.out] at R1
    obtain ⟨e1, f1, rfl, _, _⟩ := R1.shape
    have Q1 : Hid (∀ k, (Value.slice e1 es.length f1).ownBlock = some k → q5 ≤ k) := fun k hk => by have := (World.ownsRow.lt R1 k hk).1; omega
    replace BX := BX.trans (hb.mono hx4)
    replace B0 := B0.trans (hb.mono B0.size)
    replace V1 := V1.below hb
    replace V3 := V3.below hb
    replace R0 := R0.below hb
    replace O5 := O5.below hb
    clear hb k4 k5
    go_wp2_with fail
    refine (eqSgs _ _ _ _ es _ R1.sees R0.sees).mono ?_
    rintro e x8 ⟨rfl, hb⟩
    replace BX := BX.trans (hb.mono (by have := BX.size; omega))
    replace B0 := B0.trans (hb.mono B0.size)
    replace V1 := V1.below hb
    replace V3 := V3.below hb
    replace R0 := R0.below hb
    replace R1 := R1.below hb
    replace O5 := O5.below hb
    clear hb
    have K1 : x8.cell? ⟨q5, 0, none⟩ = some (.int .i64 n) ∧ x8.cell? ⟨q5, 1, none⟩ = some (.slice a5 rs.length c5) ∧ x8.cell? ⟨w.heap.size, 0, none⟩ = some (.int .i64 n) ∧ x8.cell? ⟨w.heap.size, 1, none⟩ = some (.slice a rs.length c) := ⟨V3.c0, V3.c1, V1.c0, V1.c1⟩
    have S1 := h.below B0
    go_wp2_with fail
    go_region_held3 (fun w' => w'.cell? ⟨q5, 0, none⟩ = some (.int .i64 n) ∧ w'.cell? ⟨q5, 1, none⟩ = some (.slice a5 rs.length c5) ∧ w'.cell? ⟨w.heap.size, 0, none⟩ = some (.int .i64 n) ∧ w'.cell? ⟨w.heap.size, 1, none⟩ = some (.slice a rs.length c))
      (first | exact K1 | exact m1 | exact m2)
      (first
      | (go_at_call 8; refine (toShape_any n a c rs _ (S1.below (Below.refl _ _).drew) L1.out).mono ?_; rintro e y1 ⟨a8, c8, rfl, o8, hb⟩; have N1 := (Below.refl x8.heap.size x8).drew.trans (hb.mono (by simp)); have m1 := keepG4 K1 N1; clear hb)
      | (go_at_call 11; refine (eqShape_any n a5 a8 c5 c8 rs _ (O5.below N1).sees o8.sees).mono ?_; rintro e y2 ⟨rfl, hb⟩; have N2 := N1.trans (hb.mono N1.size); have m2 := keepG4 K1 N2; clear hb o8))
    all_goals
      replace BX := BX.trans (N2.mono (by have := BX.size; omega))
      replace B0 := B0.trans (N2.mono B0.size)
      replace V1 := V1.below N2
      replace V3 := V3.below N2
      replace R0 := R0.below N2
      replace R1 := R1.below N2
      replace O5 := O5.below N2
      clear N1 N2 m1 m2 K1 S1
      have BX' : Below x4.heap.size x4 y2 := by rw [hq5]; exact BX
      obtain ⟨k4, k5, _, _⟩ := id V3
      go_wp2_with fail
      refine (markShape_any n w3.heap.size q5 a5 c5 rs _ O5 (fun b off e => (M5.out b off e).below BX') L1.out).mono ?_
      rintro e y3 ⟨kk, rfl, kk0, PU⟩
      have bn := below1 y2 (.cells #[.int .i64 n, .slice a5 rs.length c5] 33)
      replace R0 := (R0.below bn).puts PU (fun k hk => .inl (Q0.out k hk))
      replace R1 := (R1.below bn).puts PU (fun k hk => .inr (Q1.out k hk))
      replace V1 := (V1.below bn).puts PU (.inl hlw3)
      replace B0 := belowPuts (B0.trans (bn.mono B0.size)) PU (Nat.le_of_lt hlw3)
      have hkk : ¬ kk < 0 := by omega
      clear bn PU BX BX' k4 k5 V3 O5 M5
      go_wp2_with fail
      refine (eqSgs _ _ _ _ es _ R1.sees R0.sees).mono ?_
      rintro e y4 ⟨rfl, hb⟩
      replace B0 := B0.trans (hb.mono B0.size)
      replace V1 := V1.below hb
      replace R0 := R0.below hb
      replace R1 := R1.below hb
      clear hb
      go_wp2_with fail
      refine (markSgs _ _ es.length _ _ ML).mono ?_
      rintro e y5 ⟨rfl, rfl⟩
      go_wp2_with fail
      refine (heldSgs _ _ es.length _ _ ML).mono ?_
      rintro e y6 ⟨rfl, rfl⟩
      obtain ⟨k0, k1, _, _⟩ := id V1
      go_wp2_with fail
      refine (toShape_any n a c rs _ (h.below B0) L1.out).mono ?_
      rintro e y7 ⟨a9, c9, rfl, o9, hb⟩
      replace B0 := B0.trans (hb.mono B0.size)
      replace R0 := R0.below hb
      clear hb k0 k1
      go_wp2_with fail
      refine (implSegments n a9 c9 rs _ o9.sees).mono ?_
      rintro e y8 ⟨v2, rfl, R2, hb⟩
      rw [HE.out] at R2
      obtain ⟨e2, f2, rfl, _, _⟩ := R2.shape
      replace B0 := B0.trans (hb.mono B0.size)
      replace R0 := R0.below hb
      clear hb o9
      go_wp2_with fail
      refine (eqSgs _ _ _ _ es _ R2.sees R0.sees).mono ?_
      rintro e y9 ⟨rfl, hb⟩
      replace B0 := B0.trans (hb.mono B0.size)
      clear hb
      go_wp2_with fail
      refine (heldSgs _ _ es.length _ _ ML).mono ?_
      rintro e y10 ⟨rfl, rfl⟩
      go_wp2
      go_ret
      exact ⟨rfl, B0⟩
end Go.Proofs.Ytgfiegkaloicpaa

/- The law FnExactSegments holds at every argument: the program's Segments answers as the specification's, field by field; it writes into no argument and keeps nothing of one; its answer owns its memory. No condition. -/
namespace Go.Proofs.Ytgfiegkaloicpaa
open Go.ChangeShapes Go.WideShapes Go.ChangeAt Go.RowKit Go.Joins

set_option maxRecDepth 100000 in
theorem segments_lifted (os : Os) (started : os.Started) (H : Type) (enc : TypeId × Value → H) :
    ReturnsInHanded {} Try.checked os 4 .any (Rows.fnExactSegmentsSpec.pre6 enc Try.prog Try.f4 Rows.fnExactSegmentsRow.domain false) (Rows.fnExactSegmentsSpec.post enc Try.prog Try.f4 false true false false) := by
  refine returnsInHanded_of_change (C := Try.checked) own started (by kernel_rfl) Try.func4
    (ChangeSpec.witness6 (enc := enc) (C := Try.checked) false ⟨#[], #[.agg #[.int .i64 0, .slice none 0 0]], []⟩ 8 (by kernel_rfl) (by kernel_rfl) (by kernel_rfl) (by kernel_rfl)) ?_
  intro W base args ds gs before hval0 hW hcnd _
  have hval : ∀ (j : Nat) t v, Try.f4.params[j]? = some t → args[j]? = some v → Value.okWide Try.prog W .any base t v := hval0
  have hW' := hW
  obtain ⟨p, q, hA0, hV, rfl, hfz, hnd⟩ := hW
  have hA : DataW.TrodAll enc Try.prog W 0 (fun _ => true) true Try.f4.params.toList args.toList ds p := hA0
  rw [Try.params4] at hA hval
  obtain ⟨v0, vs0, d0, ds0, p0, q0, hargs, rfl, rfl, h0, r0⟩ := trodAll_cons hA
  obtain ⟨rfl, rfl, rfl⟩ := trodAll_nil r0
  obtain rfl : args = #[v0] := by cases args; simp_all
  obtain ⟨rfl, rfl⟩ := trodVars_none hV
  obtain ⟨n0, a0, c0, rs0, rfl, s0⟩ := openShape (hval 0 24 v0 rfl rfl) h0
  have lt0 : ∀ x ∈ p0, x.block < W.heap.size := by obtain ⟨m, hm⟩ := h0; exact DataW.trod_lt m _ _ _ hm
  clear hA0 hval0
  refine (lawSegments n0 a0 c0 rs0 W s0).mono fun e W' ⟨he, bel⟩ => ?_
  subst he
  exact ⟨_, rfl, _, _, _, [], _, [], hW', trodAll_mk1 (shut_bool Try.underlying4 _), (trodAll_cons_mk (Below.trod laidOut (by kernel_rfl) (of_decide_eq_true (by kernel_rfl)) h0 bel lt0) trodAll_mk0), rfl, bel.frame _, fun h => by cases h⟩

theorem segments_over : Rows.fnExactSegmentsRow.holds Try.pinned (OpenSpec.ofChange Rows.fnExactSegmentsSpec) :=
  OpenClaim.holds_of_wide 4 Try.f4 rfl rfl rfl rfl rfl rfl rfl ⟨rfl, rfl, rfl, rfl, rfl⟩ rfl rfl rfl rfl rfl (by kernel_rfl) Try.func4 (by kernel_rfl)
    (of_decide_eq_true (by kernel_rfl)) (by unfold Func.isWrapper; first | (rw [if_pos (by decide +kernel)]; kernel_rfl) | (rw [if_neg (by decide +kernel)]; exact ⟨rfl, rfl⟩))
    (fun os started H enc _ => segments_lifted os started H enc)

theorem segments_holds : Rows.FnExactSegmentsSaid := segments_over
#print axioms segments_holds
end Go.Proofs.Ytgfiegkaloicpaa
