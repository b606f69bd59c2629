/- Marks: stores into the rows of points of a call's own. -/
import Derived.Test.YtecjeomcbcpfiaaGreatShapeM
namespace Go.Proofs.YtecjeomcbcpfiaaGreat
open Go.RowKit

/-- Of one world came another one, by stores into blocks from lo up to below hi. -/
def Puts (lo hi : Nat) (w w' : World) : Prop := ∀ P : World → Prop, (∀ W b o u, lo ≤ b → b < hi → P W → P (W.setCell ⟨b, o, none⟩ u)) → P w → P w'
theorem Puts.refl (lo hi : Nat) (w : World) : Puts lo hi w w := fun _ _ h => h
theorem Puts.put {lo hi b : Nat} {w w' : World} (h : Puts lo hi w w') (h1 : lo ≤ b) (h2 : b < hi) (o : Nat) (u : Value) : Puts lo hi w (w'.setCell ⟨b, o, none⟩ u) :=
  fun P c p => c _ b o u h1 h2 (h P c p)
theorem Puts.trans {lo hi : Nat} {a b c : World} (h : Puts lo hi a b) (k : Puts lo hi b c) : Puts lo hi a c := fun P q p => k P q (h P q p)
theorem Puts.wider {lo hi lo' hi' : Nat} {a b : World} (h : Puts lo hi a b) (h1 : lo' ≤ lo) (h2 : hi ≤ hi') : Puts lo' hi' a b := fun P q p => h P (fun W b o u x y z => q W b o u (by omega) (by omega) z) p
/-- There are cells, which may be written. -/
structure Has (w : World) (b off n : Nat) : Prop where
  c : ∀ o, o < n → ∃ v, w.cell? ⟨b, off + o, none⟩ = some v
  f : ∀ o, w.frozen? ⟨b, o, none⟩ = false
theorem Has.put {w : World} {b off n : Nat} (h : Has w b off n) (b' o : Nat) (u : Value) : Has (w.setCell ⟨b', o, none⟩ u) b off n :=
  ⟨fun i hi => by
    obtain ⟨v, hv⟩ := h.c i hi
    by_cases e : b' = b ∧ o = off + i
    · obtain ⟨rfl, rfl⟩ := e
      exact ⟨u, cell_same hv u⟩
    · refine ⟨v, (cell_other ?_ u).trans hv⟩
      by_cases e1 : b' = b
      · exact .inr (fun q => e ⟨e1, q⟩)
      · exact .inl e1, fun i => (World.frozen?_setCell ..).trans (h.f i)⟩

set_option maxRecDepth 20000 in
set_option maxHeartbeats 1000000 in
theorem markPts (b off c m : Nat) (k : Int) (w : World) (h : Has w b off (m * 2)) (hm : m ≤ 1048576) (hc : c ≤ maxLen) (hmc : m ≤ c) (k0 : 0 ≤ k) (k1 : k ≤ 1000000000000) :
    Calls Tryz.prog 45 #[.slice (some ⟨b, off, none⟩) m c, .int .i64 k] w fun e w' => e = .returned (.int .i64 (k + 2 * (m : Int))) ∧ Puts b (b + 1) w w' := by
  unfold maxLen at hc
  go_enter Tryz.func45, Tryz.ntmps45
  go_wp2
  go_loopw [1, 5] (fun s1 i wr => ∃ j : Nat, j ≤ m ∧ i = .int .i64 j ∧ s1 = .int .i64 (k + 2 * (j : Int)) ∧ Hid (Puts b (b + 1) w wr)) (fun _ i _ => m - (intOf i).toNat)
  case atStart => exact ⟨0, Nat.zero_le _, rfl, by simp, Puts.refl _ _ _⟩
  case round =>
    obtain ⟨j, hj, rfl, rfl, P⟩ := hrel
    rename World => wr
    by_cases hlt : j < m
    · have H := P.out (fun W => Has W b off (m * 2)) (fun W b' o u _ _ q => q.put b' o u) h
      obtain ⟨v0, c0⟩ := H.c (j * 2) (by omega)
      have f0 := H.f
      have P1 := P.out.put (Nat.le_refl b) (Nat.lt_succ_self b) (off + j * 2) (.int .i64 (k + 2 * (j : Int)))
      have H1 := H.put b (off + j * 2) (.int .i64 (k + 2 * (j : Int)))
      obtain ⟨v1, c1⟩ := H1.c (j * 2 + 1) (by omega)
      have f1 := H1.f
      rw [← Nat.add_assoc] at c1
      have P2 : Hid (Puts b (b + 1) w _) := P1.put (Nat.le_refl b) (Nat.lt_succ_self b) (off + j * 2 + 1) (.int .i64 (k + 2 * (j : Int) + 1))
      clear P P1 H H1
      go_wp2
      go_roundw
      case rel => exact ⟨j + 1, by omega, by go_num, (by congr 1; push_cast; omega), P2⟩
      case measure => simp [intOf]; omega
    · obtain rfl : j = m := by omega
      go_wp2
      go_ret
      exact ⟨rfl, P.out⟩

/-- Rows of points that may be marked: the list lies in block b, the rows from block lo up to below hi. -/
def MarkS (lo hi : Nat) (w : World) (b off : Nat) (rs : List (List (Int × Int))) : Prop :=
  ∀ i, i < rs.length → ∃ a' c', w.cell? ⟨b, off + i, none⟩ = some (.slice a' (rowA rs i).length c') ∧ (rowA rs i).length ≤ c' ∧ c' ≤ maxLen ∧ ((rowA rs i).length = 0 ∨ ∃ b' off', a' = some ⟨b', off', none⟩ ∧ lo ≤ b' ∧ b' < hi ∧ Has w b' off' ((rowA rs i).length * 2))
theorem MarkS.put {lo hi b off b' o : Nat} {w : World} {rs : List (List (Int × Int))} {u : Value} (h : MarkS lo hi w b off rs) (hb : b < lo) (h1 : lo ≤ b') : MarkS lo hi (w.setCell ⟨b', o, none⟩ u) b off rs := by
  intro i hi'
  obtain ⟨a', c', g, f1, f2, r⟩ := h i hi'
  refine ⟨a', c', (cell_other (.inl (by omega)) u).trans g, f1, f2, ?_⟩
  rcases r with r | ⟨b2, o2, e, l1, l2, H⟩
  · exact .inl r
  · exact .inr ⟨b2, o2, e, l1, l2, H.put b' o u⟩
theorem MarkS.below {lo hi b off : Nat} {w w' : World} {rs : List (List (Int × Int))} (h : MarkS lo hi w b off rs) (bn : Below w.heap.size w w') : MarkS lo hi w' b off rs := by
  intro i hi'
  obtain ⟨a', c', g, f1, f2, r⟩ := h i hi'
  refine ⟨a', c', bat bn g, f1, f2, ?_⟩
  rcases r with r | ⟨b2, o2, e, l1, l2, H⟩
  · exact .inl r
  · rcases Nat.eq_zero_or_pos (rowA rs i).length with z | z
    · exact .inl z
    · refine .inr ⟨b2, o2, e, l1, l2, fun o ho => ?_, fun o => ?_⟩
      · obtain ⟨v, hv⟩ := H.c o ho
        exact ⟨v, bat bn hv⟩
      · obtain ⟨v, hv⟩ := H.c 0 (by omega)
        have hlt : b2 < w.heap.size := World.block_lt_of_cell? w ⟨b2, o2 + 0, none⟩ hv
        exact (bn.frozen (p := ⟨b2, o, none⟩) hlt).trans (H.f o)
theorem SeesP.has {w : World} {b off c : Nat} {ps : List (Int × Int)} (h : SeesP w (some ⟨b, off, none⟩) c ps) (f : ∀ o, w.frozen? ⟨b, o, none⟩ = false) : Has w b off (ps.length * 2) :=
  ⟨fun o ho => by
    have hi : o / 2 < ps.length := by omega
    obtain ⟨b', off', e, hc⟩ := h.cells (by intro e; simp [e] at hi)
    simp only [Option.some.injEq, Addr.mk.injEq] at e
    obtain ⟨rfl, rfl, _⟩ := e
    obtain ⟨c0, c1⟩ := hc _ hi
    have hm : o % 2 = 0 ∨ o % 2 = 1 := by omega
    rcases hm with m | m
    · exact ⟨_, by rw [show off + o = off + o / 2 * 2 by omega]; exact c0⟩
    · exact ⟨_, by rw [show off + o = off + o / 2 * 2 + 1 by omega]; exact c1⟩, f⟩
theorem OwnS.mark {lo b off : Nat} {w : World} {c : Nat} {rs : List (List (Int × Int))} (h : OwnS lo w (some ⟨b, off, none⟩) c rs) : MarkS (b + 1) w.heap.size w b off rs := by
  intro i hi
  obtain ⟨b0, off0, e, _, hc⟩ := h.cells (by intro e; simp [e] at hi)
  simp only [Option.some.injEq, Addr.mk.injEq] at e
  obtain ⟨rfl, rfl, _⟩ := e
  obtain ⟨a', c', g, S, r⟩ := hc i hi
  refine ⟨a', c', g, S.fits, S.max, ?_⟩
  rcases Nat.eq_zero_or_pos (rowA rs i).length with z | z
  · exact .inl z
  · obtain ⟨b', off', rfl, _⟩ := S.cells (by intro e; simp [e] at z)
    obtain ⟨r1, r2, r3, r4⟩ := r b' off' rfl
    exact .inr ⟨b', off', rfl, r2, r3, S.has r4⟩

theorem markNone (a : Option Addr) (c : Nat) (k : Int) (w : World) :
    Calls Tryz.prog 45 #[.slice a 0 c, .int .i64 k] w fun e w' => e = .returned (.int .i64 k) ∧ w' = w := by
  go_enter Tryz.func45, Tryz.ntmps45
  go_wp2
  go_loopw [1, 5] (fun s1 i wr => i = .int .i64 0 ∧ s1 = .int .i64 k ∧ Hid (wr = w)) (fun _ _ _ => 0)
  case atStart => exact ⟨rfl, rfl, rfl⟩
  case round =>
    obtain ⟨rfl, rfl, hw⟩ := hrel
    go_wp2
    go_ret
    exact ⟨rfl, hw.out⟩

set_option maxRecDepth 20000 in
set_option maxHeartbeats 1000000 in
theorem markRows (b off c lo hi : Nat) (rs : List (List (Int × Int))) (w : World) (h : MarkS lo hi w b off rs) (hb : b < lo) (hc : c ≤ maxLen) (hf : rs.length ≤ c) (hs : upto rs rs.length ≤ 1048576) :
    Calls Tryz.prog 29 #[.slice (some ⟨b, off, none⟩) rs.length c, .int .i64 1] w fun e w' => ∃ k : Int, e = .returned (.int .i64 k) ∧ 0 ≤ k ∧ Puts lo hi w w' := by
  unfold maxLen at hc
  have HS : Hid (upto rs rs.length ≤ 1048576) := hs
  clear hs
  go_enter Tryz.func29, Tryz.ntmps29
  go_wp2
  go_loopw [1, 5] (fun s1 i wr => ∃ (j : Nat) (k : Int), j ≤ rs.length ∧ i = .int .i64 j ∧ s1 = .int .i64 k ∧ 0 ≤ k ∧ k ≤ 1 + 2 * (upto rs j : Int) ∧ Hid (Puts lo hi w wr)) (fun _ i _ => rs.length - (intOf i).toNat)
  case atStart => exact ⟨0, 1, Nat.zero_le _, rfl, rfl, by omega, by omega, Puts.refl _ _ _⟩
  case round =>
    obtain ⟨j, k, hj, rfl, rfl, k0, k1, P⟩ := hrel
    rename World => wr
    by_cases hlt : j < rs.length
    · have H := P.out (fun W => MarkS lo hi W b off rs) (fun W b' o u q _ r => r.put hb q) h
      obtain ⟨a', c', g, f1, f2, r⟩ := H j hlt
      have hu : upto rs (j + 1) = upto rs j + (rowA rs j).length := rfl
      have hle := upto_le rs (j + 1) (rs.length - (j + 1))
      rw [show j + 1 + (rs.length - (j + 1)) = rs.length by omega] at hle
      have hsz := HS.out
      have HU : Hid (upto rs (j + 1) = upto rs j + (rowA rs j).length) := hu
      have b1 : upto rs j + (rowA rs j).length ≤ 1048576 := by omega
      clear H hu hle hsz
      generalize upto rs j = uj at *
      generalize (rowA rs j).length = m at *
      rcases r with rfl | ⟨b', off', rfl, l1, l2, HA⟩
      · go_wp2_with fail
        refine (markNone a' c' k _).mono ?_
        rintro e w3 ⟨rfl, rfl⟩
        go_wp2
        go_roundw
        case rel => exact ⟨j + 1, k, by omega, by go_num, rfl, k0, (by rw [HU.out]; omega), P⟩
        case measure => simp [intOf]; omega
      · go_wp2_with fail
        refine (markPts b' off' c' m k _ HA (by omega) f2 f1 k0 (by omega)).mono ?_
        rintro e w3 ⟨rfl, P3⟩
        have P4 : Hid (Puts lo hi w w3) := P.out.trans (P3.wider l1 (by omega))
        clear P P3 HA
        go_wp2
        go_roundw
        case rel => exact ⟨j + 1, _, by omega, by go_num, rfl, by omega, (by rw [HU.out]; push_cast; omega), P4⟩
        case measure => simp [intOf]; omega
    · obtain rfl : j = rs.length := by omega
      go_wp2
      go_ret
      exact ⟨_, rfl, k0, P.out⟩
theorem markEmpty (a : Option Addr) (c : Nat) (w : World) :
    Calls Tryz.prog 29 #[.slice a 0 c, .int .i64 1] w fun e w' => e = .returned (.int .i64 1) ∧ w' = w := by
  go_enter Tryz.func29, Tryz.ntmps29
  go_wp2
  go_loopw [1, 5] (fun s1 i wr => i = .int .i64 0 ∧ s1 = .int .i64 1 ∧ Hid (wr = w)) (fun _ _ _ => 0)
  case atStart => exact ⟨rfl, rfl, rfl⟩
  case round =>
    obtain ⟨rfl, rfl, hw⟩ := hrel
    go_wp2
    go_ret
    exact ⟨rfl, hw.out⟩

/-- A shape of a call's own is marked: nothing below its blocks is written, nothing from hi on. -/
theorem markShape_any (n : Int) (lo hi : Nat) (a : Option Addr) (c : Nat) (rs : List (List (Int × Int))) (w : World) (h : OwnS lo w a c rs) (hh : ∀ b off, a = some ⟨b, off, none⟩ → MarkS (b + 1) hi w b off rs) (hs : upto rs rs.length ≤ 1048576) :
    Calls Tryz.prog 20 #[.agg #[.int .i64 n, .slice a rs.length c], .int .i64 1] w fun e w' => ∃ k : Int, e = .returned (.int .i64 k) ∧ 0 ≤ k ∧ Puts lo hi (w.alloc (.cells #[.int .i64 n, .slice a rs.length c] 48)) w' := by
  have hm := h.max
  have hf := h.fits
  have HS : Hid (upto rs rs.length ≤ 1048576) := hs
  clear hs
  by_cases hz : rs.length = 0
  · obtain rfl : rs = [] := List.eq_nil_of_length_eq_zero hz
    clear h hh hz
    go_enter Tryz.func20, Tryz.ntmps20
    go_wp2_with fail
    refine (markEmpty a c _).mono ?_
    rintro e w3 ⟨rfl, rfl⟩
    go_wp2
    go_ret
    exact ⟨_, rfl, by omega, Puts.refl _ _ _⟩
  · obtain ⟨b, off, rfl, hlo, _⟩ := h.cells (by intro e; simp [e] at hz)
    have M := hh b off rfl
    have M2 := M.below (below1 w (.cells #[.int .i64 n, .slice (some ⟨b, off, none⟩) rs.length c] 48))
    clear h hh M
    go_enter Tryz.func20, Tryz.ntmps20
    go_wp2_with fail
    refine (markRows b off c (b + 1) hi rs _ M2 (by omega) hm hf HS.out).mono ?_
    rintro e w3 ⟨k, rfl, k0, P⟩
    have P2 : Hid (Puts lo hi (w.alloc (.cells #[.int .i64 n, .slice (some ⟨b, off, none⟩) rs.length c] 48)) w3) := P.wider (by omega) (Nat.le_refl _)
    clear P M2
    go_wp2
    go_ret
    exact ⟨_, rfl, k0, P2.out⟩
theorem belowPuts {b lo hi : Nat} {w0 w w' : World} (h : Below b w0 w) (P : Puts lo hi w w') (hb : b ≤ lo) : Below b w0 w' :=
  P (fun W => Below b w0 W) (fun _ b' o u h1 _ q => q.setCell (p := ⟨b', o, none⟩) (Nat.le_trans hb h1) u) h
theorem Box2.puts {l p lo hi : Nat} {w w' : World} {x0 x1 : Value} (h : Box2 l w p x0 x1) (P : Puts lo hi w w') (hp : p < lo ∨ hi ≤ p) : Box2 l w' p x0 x1 :=
  P (fun W => Box2 l W p x0 x1) (fun _ b o u h1 h2 q => ⟨(cell_other (.inl (by omega)) u).trans q.c0, (cell_other (.inl (by omega)) u).trans q.c1, fun i => (World.frozen?_setCell ..).trans (q.fr i), q.lo⟩) h
theorem keepG4 {W W' : World} {p q : Nat} {v0 v1 v2 v3 : Value} (k : W.cell? ⟨p, 0, none⟩ = some v0 ∧ W.cell? ⟨p, 1, none⟩ = some v1 ∧ W.cell? ⟨q, 0, none⟩ = some v2 ∧ W.cell? ⟨q, 1, none⟩ = some v3) (hb : Below W.heap.size W W') :
    W'.cell? ⟨p, 0, none⟩ = some v0 ∧ W'.cell? ⟨p, 1, none⟩ = some v1 ∧ W'.cell? ⟨q, 0, none⟩ = some v2 ∧ W'.cell? ⟨q, 1, none⟩ = some v3 :=
  ⟨bat hb k.1, bat hb k.2.1, bat hb k.2.2.1, bat hb k.2.2.2⟩
end Go.Proofs.YtecjeomcbcpfiaaGreat
