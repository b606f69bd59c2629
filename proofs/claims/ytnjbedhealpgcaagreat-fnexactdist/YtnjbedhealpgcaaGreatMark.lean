import Derived.Test.YtnjbedhealpgcaaGreatShapeM
import Derived.Test.YtnjbedhealpgcaaGreatDivI
import Derived.Test.YtnjbedhealpgcaaGreatRows
import Derived.Test.YtnjbedhealpgcaaGreatBase
import Derived.WalkKit
import Derived.ProofKit
import Derived.OpenShut
import Derived.ChangeOld
import Derived.Below
import Derived.Lib.SmallJoins
import Derived.Test.YtnjbedhealpgcaaGreatGapM
import Derived.Test.YtnjbedhealpgcaaGreatParL
import Derived.Test.YtnjbedhealpgcaaGreatFTake
import Derived.Test.YtnjbedhealpgcaaGreatSMul
/- Marks: stores into the rows of points of a call's own. -/
namespace Go.Proofs.YtnjbedhealpgcaaGreat
open Go.RowKit

def Puts (lo hi : Nat) (w w' : World) : Prop := ∀ P : World → Prop, (∀ W b o u, lo ≤ b → b < hi → P W → P (W.setCell ⟨b, o, none⟩ u)) → P w → P w'
theorem Puts.refl (lo hi : Nat) (w : World) : Puts lo hi w w := fun _ _ h => h
theorem Puts.put {lo hi b : Nat} {w w' : World} (h : Puts lo hi w w') (h1 : lo ≤ b) (h2 : b < hi) (o : Nat) (u : Value) : Puts lo hi w (w'.setCell ⟨b, o, none⟩ u) :=
 fun P c p => c _ b o u h1 h2 (h P c p)
theorem Puts.trans {lo hi : Nat} {a b c : World} (h : Puts lo hi a b) (k : Puts lo hi b c) : Puts lo hi a c := fun P q p => k P q (h P q p)
theorem Puts.wider {lo hi lo' hi' : Nat} {a b : World} (h : Puts lo hi a b) (h1 : lo' ≤ lo) (h2 : hi ≤ hi') : Puts lo' hi' a b := fun P q p => h P (fun W b o u x y z => q W b o u (by omega) (by omega) z) p
structure Has (w : World) (b off n : Nat) : Prop where
 c : ∀ o, o < n → ∃ v, w.cell? ⟨b, off + o, none⟩ = some v
 f : ∀ o, w.frozen? ⟨b, o, none⟩ = false
theorem Has.put {w : World} {b off n : Nat} (h : Has w b off n) (b' o : Nat) (u : Value) : Has (w.setCell ⟨b', o, none⟩ u) b off n :=
 ⟨fun i hi => by
  obtain ⟨v, hv⟩ := h.c i hi
  by_cases e : b' = b ∧ o = off + i
  ·obtain ⟨rfl, rfl⟩ := e
   exact ⟨u, cell_same hv u⟩
  ·refine ⟨v, (cell_other ?_ u).trans hv⟩
   by_cases e1 : b' = b
   ·exact .inr (fun q => e ⟨e1, q⟩)
   ·exact .inl e1, fun i => (World.frozen?_setCell ..).trans (h.f i)⟩

set_option maxRecDepth 20000 in
set_option maxHeartbeats 1000000 in
theorem markPts (b off c m : Nat) (k : Int) (w : World) (h : Has w b off (m * 2)) (hm : m ≤ 1048576) (hc : c ≤ maxLen) (hmc : m ≤ c) (k0 : 0 ≤ k) (k1 : k ≤ 1000000000000) :
  Calls Tryz.prog 57 #[.slice (some ⟨b, off, none⟩) m c, .int .i64 k] w fun e w' => e = .returned (.int .i64 (k + 2 * (m : Int))) ∧ Puts b (b + 1) w w' := by
 unfold maxLen at hc
 go_enter Tryz.func57, Tryz.ntmps57
 go_wp2
 go_loopw [1, 5] (fun s1 i wr => ∃ j : Nat, j ≤ m ∧ i = .int .i64 j ∧ s1 = .int .i64 (k + 2 * (j : Int)) ∧ Hid (Puts b (b + 1) w wr)) (fun _ i _ => m - (intOf i).toNat)
 case atStart => exact ⟨0, Nat.zero_le _, rfl, by simp, Puts.refl _ _ _⟩
 case round =>
  obtain ⟨j, hj, rfl, rfl, P⟩ := hrel
  rename World => wr
  by_cases hlt : j < m
  ·have H := P.out (fun W => Has W b off (m * 2)) (fun W b' o u _ _ q => q.put b' o u) h
   obtain ⟨v0, c0⟩ := H.c (j * 2) (by omega)
   have f0 := H.f
   have P1 := P.out.put (Nat.le_refl b) (Nat.lt_succ_self b) (off + j * 2) (.int .i64 (k + 2 * (j : Int)))
   have H1 := H.put b (off + j * 2) (.int .i64 (k + 2 * (j : Int)))
   obtain ⟨v1, c1⟩ := H1.c (j * 2 + 1) (by omega)
   have f1 := H1.f
   rw [← Nat.add_assoc] at c1
   have P2 : Hid (Puts b (b + 1) w _) := P1.put (Nat.le_refl b) (Nat.lt_succ_self b) (off + j * 2 + 1) (.int .i64 (k + 2 * (j : Int) + 1))
   clear P P1 H H1
   go_wp2
   go_roundw
   case rel => exact ⟨j + 1, by omega, by go_num, (by congr 1; push_cast; omega), P2⟩
   case measure => simp [intOf]; omega
  ·obtain rfl : j = m := by omega
   go_wp2
   go_ret
   exact ⟨rfl, P.out⟩

def MarkS (lo hi : Nat) (w : World) (b off : Nat) (rs : List (List (Int × Int))) : Prop :=
 ∀ i, i < rs.length → ∃ a' c', w.cell? ⟨b, off + i, none⟩ = some (.slice a' (rowA rs i).length c') ∧ (rowA rs i).length ≤ c' ∧ c' ≤ maxLen ∧ ((rowA rs i).length = 0 ∨ ∃ b' off', a' = some ⟨b', off', none⟩ ∧ lo ≤ b' ∧ b' < hi ∧ Has w b' off' ((rowA rs i).length * 2))
theorem MarkS.put {lo hi b off b' o : Nat} {w : World} {rs : List (List (Int × Int))} {u : Value} (h : MarkS lo hi w b off rs) (hb : b < lo) (h1 : lo ≤ b') : MarkS lo hi (w.setCell ⟨b', o, none⟩ u) b off rs := by
 intro i hi'
 obtain ⟨a', c', g, f1, f2, r⟩ := h i hi'
 refine ⟨a', c', (cell_other (.inl (by omega)) u).trans g, f1, f2, ?_⟩
 rcases r with r | ⟨b2, o2, e, l1, l2, H⟩
 ·exact .inl r
 ·exact .inr ⟨b2, o2, e, l1, l2, H.put b' o u⟩
theorem MarkS.below {lo hi b off : Nat} {w w' : World} {rs : List (List (Int × Int))} (h : MarkS lo hi w b off rs) (bn : Below w.heap.size w w') : MarkS lo hi w' b off rs := by
 intro i hi'
 obtain ⟨a', c', g, f1, f2, r⟩ := h i hi'
 refine ⟨a', c', bat bn g, f1, f2, ?_⟩
 rcases r with r | ⟨b2, o2, e, l1, l2, H⟩
 ·exact .inl r
 ·rcases Nat.eq_zero_or_pos (rowA rs i).length with z | z
  ·exact .inl z
  ·refine .inr ⟨b2, o2, e, l1, l2, fun o ho => ?_, fun o => ?_⟩
   ·obtain ⟨v, hv⟩ := H.c o ho
    exact ⟨v, bat bn hv⟩
   ·obtain ⟨v, hv⟩ := H.c 0 (by omega)
    have hlt : b2 < w.heap.size := World.block_lt_of_cell? w ⟨b2, o2 + 0, none⟩ hv
    exact (bn.frozen (p := ⟨b2, o, none⟩) hlt).trans (H.f o)
theorem SeesP.has {w : World} {b off c : Nat} {ps : List (Int × Int)} (h : SeesP w (some ⟨b, off, none⟩) c ps) (f : ∀ o, w.frozen? ⟨b, o, none⟩ = false) : Has w b off (ps.length * 2) :=
 ⟨fun o ho => by
  have hi : o / 2 < ps.length := by omega
  obtain ⟨b', off', e, hc⟩ := h.cells (by intro e; simp [e] at hi)
  simp only [Option.some.injEq, Addr.mk.injEq] at e
  obtain ⟨rfl, rfl, _⟩ := e
  obtain ⟨c0, c1⟩ := hc _ hi
  have hm : o % 2 = 0 ∨ o % 2 = 1 := by omega
  rcases hm with m | m
  ·exact ⟨_, by rw [show off + o = off + o / 2 * 2 by omega]; exact c0⟩
  ·exact ⟨_, by rw [show off + o = off + o / 2 * 2 + 1 by omega]; exact c1⟩, f⟩
theorem OwnS.mark {lo b off : Nat} {w : World} {c : Nat} {rs : List (List (Int × Int))} (h : OwnS lo w (some ⟨b, off, none⟩) c rs) : MarkS (b + 1) w.heap.size w b off rs := by
 intro i hi
 obtain ⟨b0, off0, e, _, hc⟩ := h.cells (by intro e; simp [e] at hi)
 simp only [Option.some.injEq, Addr.mk.injEq] at e
 obtain ⟨rfl, rfl, _⟩ := e
 obtain ⟨a', c', g, S, r⟩ := hc i hi
 refine ⟨a', c', g, S.fits, S.max, ?_⟩
 rcases Nat.eq_zero_or_pos (rowA rs i).length with z | z
 ·exact .inl z
 ·obtain ⟨b', off', rfl, _⟩ := S.cells (by intro e; simp [e] at z)
  obtain ⟨r1, r2, r3, r4⟩ := r b' off' rfl
  exact .inr ⟨b', off', rfl, r2, r3, S.has r4⟩

theorem markNone (a : Option Addr) (c : Nat) (k : Int) (w : World) :
  Calls Tryz.prog 57 #[.slice a 0 c, .int .i64 k] w fun e w' => e = .returned (.int .i64 k) ∧ w' = w := by
 go_enter Tryz.func57, Tryz.ntmps57
 go_wp2
 go_loopw [1, 5] (fun s1 i wr => i = .int .i64 0 ∧ s1 = .int .i64 k ∧ Hid (wr = w)) (fun _ _ _ => 0)
 case atStart => exact ⟨rfl, rfl, rfl⟩
 case round =>
  obtain ⟨rfl, rfl, hw⟩ := hrel
  go_wp2
  go_ret
  exact ⟨rfl, hw.out⟩

set_option maxRecDepth 20000 in
set_option maxHeartbeats 1000000 in
theorem markRows (b off c lo hi : Nat) (rs : List (List (Int × Int))) (w : World) (h : MarkS lo hi w b off rs) (hb : b < lo) (hc : c ≤ maxLen) (hf : rs.length ≤ c) (hs : upto rs rs.length ≤ 1048576) :
  Calls Tryz.prog 31 #[.slice (some ⟨b, off, none⟩) rs.length c, .int .i64 1] w fun e w' => ∃ k : Int, e = .returned (.int .i64 k) ∧ 0 ≤ k ∧ Puts lo hi w w' := by
 unfold maxLen at hc
 have HS : Hid (upto rs rs.length ≤ 1048576) := hs
 clear hs
 go_enter Tryz.func31, Tryz.ntmps31
 go_wp2
 go_loopw [1, 5] (fun s1 i wr => ∃ (j : Nat) (k : Int), j ≤ rs.length ∧ i = .int .i64 j ∧ s1 = .int .i64 k ∧ 0 ≤ k ∧ k ≤ 1 + 2 * (upto rs j : Int) ∧ Hid (Puts lo hi w wr)) (fun _ i _ => rs.length - (intOf i).toNat)
 case atStart => exact ⟨0, 1, Nat.zero_le _, rfl, rfl, by omega, by omega, Puts.refl _ _ _⟩
 case round =>
  obtain ⟨j, k, hj, rfl, rfl, k0, k1, P⟩ := hrel
  rename World => wr
  by_cases hlt : j < rs.length
  ·have H := P.out (fun W => MarkS lo hi W b off rs) (fun W b' o u q _ r => r.put hb q) h
   obtain ⟨a', c', g, f1, f2, r⟩ := H j hlt
   have hu : upto rs (j + 1) = upto rs j + (rowA rs j).length := rfl
   have hle := upto_le rs (j + 1) (rs.length - (j + 1))
   rw [show j + 1 + (rs.length - (j + 1)) = rs.length by omega] at hle
   have hsz := HS.out
   have HU : Hid (upto rs (j + 1) = upto rs j + (rowA rs j).length) := hu
   have b1 : upto rs j + (rowA rs j).length ≤ 1048576 := by omega
   clear H hu hle hsz
   generalize upto rs j = uj at *
   generalize (rowA rs j).length = m at *
   rcases r with rfl | ⟨b', off', rfl, l1, l2, HA⟩
   ·go_wp2_with fail
    refine (markNone a' c' k _).mono ?_
    rintro e w3 ⟨rfl, rfl⟩
    go_wp2
    go_roundw
    case rel => exact ⟨j + 1, k, by omega, by go_num, rfl, k0, (by rw [HU.out]; omega), P⟩
    case measure => simp [intOf]; omega
   ·go_wp2_with fail
    refine (markPts b' off' c' m k _ HA (by omega) f2 f1 k0 (by omega)).mono ?_
    rintro e w3 ⟨rfl, P3⟩
    have P4 : Hid (Puts lo hi w w3) := P.out.trans (P3.wider l1 (by omega))
    clear P P3 HA
    go_wp2
    go_roundw
    case rel => exact ⟨j + 1, _, by omega, by go_num, rfl, by omega, (by rw [HU.out]; push_cast; omega), P4⟩
    case measure => simp [intOf]; omega
  ·obtain rfl : j = rs.length := by omega
   go_wp2
   go_ret
   exact ⟨_, rfl, k0, P.out⟩
theorem markEmpty (a : Option Addr) (c : Nat) (w : World) :
  Calls Tryz.prog 31 #[.slice a 0 c, .int .i64 1] w fun e w' => e = .returned (.int .i64 1) ∧ w' = w := by
 go_enter Tryz.func31, Tryz.ntmps31
 go_wp2
 go_loopw [1, 5] (fun s1 i wr => i = .int .i64 0 ∧ s1 = .int .i64 1 ∧ Hid (wr = w)) (fun _ _ _ => 0)
 case atStart => exact ⟨rfl, rfl, rfl⟩
 case round =>
  obtain ⟨rfl, rfl, hw⟩ := hrel
  go_wp2
  go_ret
  exact ⟨rfl, hw.out⟩

theorem markShape_any (n : Int) (lo hi : Nat) (a : Option Addr) (c : Nat) (rs : List (List (Int × Int))) (w : World) (h : OwnS lo w a c rs) (hh : ∀ b off, a = some ⟨b, off, none⟩ → MarkS (b + 1) hi w b off rs) (hs : upto rs rs.length ≤ 1048576) :
  Calls Tryz.prog 11 #[.agg #[.int .i64 n, .slice a rs.length c], .int .i64 1] w fun e w' => ∃ k : Int, e = .returned (.int .i64 k) ∧ 0 ≤ k ∧ Puts lo hi (w.alloc (.cells #[.int .i64 n, .slice a rs.length c] 36)) w' := by
 have hm := h.max
 have hf := h.fits
 have HS : Hid (upto rs rs.length ≤ 1048576) := hs
 clear hs
 by_cases hz : rs.length = 0
 ·obtain rfl : rs = [] := List.eq_nil_of_length_eq_zero hz
  clear h hh hz
  go_enter Tryz.func11, Tryz.ntmps11
  go_wp2_with fail
  refine (markEmpty a c _).mono ?_
  rintro e w3 ⟨rfl, rfl⟩
  go_wp2
  go_ret
  exact ⟨_, rfl, by omega, Puts.refl _ _ _⟩
 ·obtain ⟨b, off, rfl, hlo, _⟩ := h.cells (by intro e; simp [e] at hz)
  have M := hh b off rfl
  have M2 := M.below (below1 w (.cells #[.int .i64 n, .slice (some ⟨b, off, none⟩) rs.length c] 36))
  clear h hh M
  go_enter Tryz.func11, Tryz.ntmps11
  go_wp2_with fail
  refine (markRows b off c (b + 1) hi rs _ M2 (by omega) hm hf HS.out).mono ?_
  rintro e w3 ⟨k, rfl, k0, P⟩
  have P2 : Hid (Puts lo hi (w.alloc (.cells #[.int .i64 n, .slice (some ⟨b, off, none⟩) rs.length c] 36)) w3) := P.wider (by omega) (Nat.le_refl _)
  clear P M2
  go_wp2
  go_ret
  exact ⟨_, rfl, k0, P2.out⟩
theorem belowPuts {b lo hi : Nat} {w0 w w' : World} (h : Below b w0 w) (P : Puts lo hi w w') (hb : b ≤ lo) : Below b w0 w' :=
 P (fun W => Below b w0 W) (fun _ b' o u h1 _ q => q.setCell (p := ⟨b', o, none⟩) (Nat.le_trans hb h1) u) h
theorem Box2.puts {l p lo hi : Nat} {w w' : World} {x0 x1 : Value} (h : Box2 l w p x0 x1) (P : Puts lo hi w w') (hp : p < lo ∨ hi ≤ p) : Box2 l w' p x0 x1 :=
 P (fun W => Box2 l W p x0 x1) (fun _ b o u h1 h2 q => ⟨(cell_other (.inl (by omega)) u).trans q.c0, (cell_other (.inl (by omega)) u).trans q.c1, fun i => (World.frozen?_setCell ..).trans (q.fr i), q.lo⟩) h
theorem keepG4 {W W' : World} {p q : Nat} {v0 v1 v2 v3 : Value} (k : W.cell? ⟨p, 0, none⟩ = some v0 ∧ W.cell? ⟨p, 1, none⟩ = some v1 ∧ W.cell? ⟨q, 0, none⟩ = some v2 ∧ W.cell? ⟨q, 1, none⟩ = some v3) (hb : Below W.heap.size W W') :
  W'.cell? ⟨p, 0, none⟩ = some v0 ∧ W'.cell? ⟨p, 1, none⟩ = some v1 ∧ W'.cell? ⟨q, 0, none⟩ = some v2 ∧ W'.cell? ⟨q, 1, none⟩ = some v3 :=
 ⟨bat hb k.1, bat hb k.2.1, bat hb k.2.2.1, bat hb k.2.2.2⟩
open Go.RowKit

set_option maxHeartbeats 1000000 in
theorem heldF (g h : Bool) (a b : Option Addr) (c d n m : Nat) (k : Int) (w : World) (h1 : Sees w a c (marks k n)) (h2 : Sees w b d (marks (k + n) m)) (hk : 0 ≤ k) (hs : k + n + m < 4294967296) :
  Calls Tryz.prog 13 #[.agg #[.bool g, .slice a n c, .bool h, .slice b m d], .int .i64 k] w fun e w' => e = .returned (.int .i64 (k + n + m)) ∧ Below w.heap.size w w' := by
 have h0 : 0 ≤ k + n := by omega
 have h0' : 0 ≤ k + n + m := by omega
 have B0 := below1 w (.cells #[.bool g, .slice a n c, .bool h, .slice b m d] 32)
 go_enter Tryz.func13, Tryz.ntmps13
 go_wp2_with fail
 refine (heldN g a c n k _ (h1.below B0) hk (by omega)).mono ?_
 rintro e w1 ⟨rfl, hb⟩
 obtain ⟨q, _⟩ := at_block hb (b := w.heap.size) (by simp)
 have B1 := B0.trans (hb.mono (by simp))
 clear hb
 go_wp2_with fail
 refine (heldN h b d m (k + n) _ (h2.below B1) h0 (by omega)).mono ?_
 rintro e w2 ⟨rfl, hb⟩
 have B2 := B1.trans (hb.mono B1.size)
 go_wp2
 go_ret
 exact ⟨rfl, B2⟩
open Go.ChangeShapes Go.WideShapes Go.ChangeAt Go.RowKit Go.Joins

theorem own : ownKnob Tryz.prog.godebug = none := by kernel_rfl
theorem laidOut : laidOutB Tryz.prog = true := by kernel_rfl
theorem cellsPt : Tryz.prog.cellsOf 26 = 2 := by kernel_rfl

set_option maxRecDepth 100000 in
theorem openPt {H : Type} {enc : TypeId × Value → H} {W : World} {base : Nat} {v : Value} {d : DataW H} {p : List MemPlace}
  (hv : Value.okWide Tryz.prog W .any base 26 v) (h : DataW.Trod enc Tryz.prog W 0 (fun _ => true) true 26 v d p) :
  ∃ x y, v = .agg #[.int .i64 x, .int .i64 y] := by
 obtain ⟨c0, c1, y0, y1, m, rfl, rfl, rfl, hy0, hy1⟩ := open_agg2 Tryz.underlying26 (by kernel_rfl) cellsPt hv h
 obtain ⟨x, e0, _⟩ := DataW.trod_int Tryz.underlying3 hy0
 obtain ⟨y, e1, _⟩ := DataW.trod_int Tryz.underlying3 hy1
 simp at e0 e1
 subst e0 e1
 exact ⟨x, y, rfl⟩
open Go.ChangeShapes Go.WideShapes Go.ChangeAt Go.RowKit Go.Joins

theorem cellsInt : Tryz.prog.cellsOf 3 = 1 := by kernel_rfl
theorem cellsPtN : Tryz.prog.cellsOf 26 = 2 := by kernel_rfl
set_option maxRecDepth 100000 in
theorem openTwo {H : Type} {enc : TypeId × Value → H} {W : World} {n : Nat} {c0 c1 : Value} {y : DataW H × List MemPlace}
  (h : DataW.trod enc Tryz.prog W 0 (fun _ => true) true n 26 [c0, c1] = some y) : ∃ a b, c0 = .int .i64 a ∧ c1 = .int .i64 b := by
 obtain ⟨y0, y1, m, _, _, h0, h1⟩ := trod_struct2 Tryz.underlying26 h
 have hy0 : DataW.trod enc Tryz.prog W 0 (fun _ => true) true m 3 [c0] = some y0 := by simpa [cellsInt] using h0
 have hy1 : DataW.trod enc Tryz.prog W 0 (fun _ => true) true m 3 [c1] = some y1 := by simpa [cellsInt] using h1
 obtain ⟨a, e0, _⟩ := DataW.trod_int Tryz.underlying3 hy0
 obtain ⟨b, e1, _⟩ := DataW.trod_int Tryz.underlying3 hy1
 simp at e0 e1
 exact ⟨a, b, e0, e1⟩

open Go.ChangeShapes Go.WideShapes Go.ChangeAt Go.RowKit Go.Joins

theorem cells_two {w : World} {a : Addr} {cs : List Value} (h : w.cells? 0 a 2 = some cs) : ∃ c0 c1, cs = [c0, c1] ∧ w.cell? (a.add 0) = some c0 ∧ w.cell? (a.add 1) = some c1 := by
 unfold World.cells? at h
 rw [if_pos (Nat.zero_le _)] at h
 simp only [List.range_succ, List.range_zero, List.nil_append, List.cons_append, List.mapM_cons, List.mapM_nil] at h
 cases h0 : w.cell? (a.add 0) with
 | none => simp [h0] at h
 | some c0 =>
  cases h1 : w.cell? (a.add 1) with
  | none => simp [h0, h1] at h
  | some c1 =>
   simp [h0, h1] at h
   exact ⟨c0, c1, h.symm, rfl, rfl⟩

open Go.ChangeShapes Go.WideShapes Go.ChangeAt Go.RowKit Go.Joins

theorem cells_one {w : World} {a : Addr} {cs : List Value} (h : w.cells? 0 a 1 = some cs) : ∃ c0, cs = [c0] ∧ w.cell? (a.add 0) = some c0 := by
 unfold World.cells? at h
 rw [if_pos (Nat.zero_le _)] at h
 simp only [List.range_succ, List.range_zero, List.nil_append, List.mapM_cons, List.mapM_nil] at h
 cases h0 : w.cell? (a.add 0) with
 | none => simp [h0] at h
 | some c0 =>
  simp [h0] at h
  exact ⟨c0, h.symm, rfl⟩
theorem cellsRow : Tryz.prog.cellsOf 68 = 1 := by kernel_rfl
theorem cellsShape : Tryz.prog.cellsOf 24 = 2 := by kernel_rfl

set_option maxRecDepth 100000 in
theorem openPtsC {H : Type} {enc : TypeId × Value → H} {W : World} {m : Nat} {v : Value} {y : DataW H × List MemPlace}
  (hm : DataW.trod enc Tryz.prog W 0 (fun _ => true) true m 68 [v] = some y) :
  ∃ a cap ps, v = .slice a (List.length ps) cap ∧ SeesP W a cap ps := by
 rcases DataW.trod_slice Tryz.underlying68 hm with ⟨hcs, _⟩ | ⟨x, len, cap, elems, rest, n, _, hcs, _, _, hl, hM, hlen, hel, _, _⟩
 ·simp only [List.cons.injEq, and_true] at hcs
  subst hcs
  exact ⟨none, 0, [], rfl, ⟨by simp, by simp [maxLen], fun h => absurd rfl h⟩⟩
 ·simp only [List.cons.injEq, and_true] at hcs
  subst hcs
  have get : ∀ i, i < len → ∃ q : Int × Int, W.cell? ((x.add (i * 2)).add 0) = some (.int .i64 q.1) ∧ W.cell? ((x.add (i * 2)).add 1) = some (.int .i64 q.2) := by
   intro i hi
   have hE := hel i hi
   rw [cellsPtN, List.getElem?_eq_getElem (show i < elems.length by omega), Option.bind_eq_some_iff] at hE
   obtain ⟨cs, hc2, hy⟩ := hE
   obtain ⟨e0, e1, rfl, g0, g1⟩ := cells_two hc2
   obtain ⟨a, b, rfl, rfl⟩ := openTwo hy
   exact ⟨(a, b), g0, g1⟩
  refine ⟨some x, cap, (List.range len).map (fun i => if h : i < len then Classical.choose (get i h) else (0, 0)), by simp, ⟨by simpa using hl, hM, fun hn => ?_⟩⟩
  have hpos : 0 < len := by
   rcases Nat.eq_zero_or_pos len with e | e
   ·subst e; simp at hn
   ·exact e
  obtain ⟨b, off, spot⟩ := x
  obtain ⟨q0, hq0, _⟩ := get 0 hpos
  have hspot : spot = none := by simpa [Addr.add] using World.cell?_spot hq0
  subst hspot
  refine ⟨b, off, rfl, fun i hi => ?_⟩
  have hi' : i < len := by simpa using hi
  have hc := Classical.choose_spec (get i hi')
  rw [List.getElem?_map, List.getElem?_range hi']
  simp only [Option.map_some, Option.getD_some, dif_pos hi']
  have e0 : ((⟨b, off, none⟩ : Addr).add (i * 2)).add 0 = ⟨b, off + i * 2, none⟩ := by simp [Addr.add_lit]
  have e1 : ((⟨b, off, none⟩ : Addr).add (i * 2)).add 1 = ⟨b, off + i * 2 + 1, none⟩ := by simp [Addr.add_lit]
  exact ⟨(congrArg W.cell? e0.symm).trans hc.1, (congrArg W.cell? e1.symm).trans hc.2⟩

set_option maxRecDepth 100000 in
theorem openRows {H : Type} {enc : TypeId × Value → H} {W : World} {m : Nat} {v : Value} {y : DataW H × List MemPlace}
  (hm : DataW.trod enc Tryz.prog W 0 (fun _ => true) true m 22 [v] = some y) :
  ∃ a cap rs, v = .slice a (List.length rs) cap ∧ SeesS W a cap rs := by
 rcases DataW.trod_slice Tryz.underlying22 hm with ⟨hcs, _⟩ | ⟨x, len, cap, elems, rest, n, _, hcs, _, _, hl, hM, hlen, hel, _, _⟩
 ·simp only [List.cons.injEq, and_true] at hcs
  subst hcs
  exact ⟨none, 0, [], rfl, ⟨by simp, by simp [maxLen], fun h => absurd rfl h⟩⟩
 ·simp only [List.cons.injEq, and_true] at hcs
  subst hcs
  have get : ∀ i, i < len → ∃ ps : List (Int × Int), ∃ a' c', W.cell? ((x.add i).add 0) = some (.slice a' ps.length c') ∧ SeesP W a' c' ps := by
   intro i hi
   have hE := hel i hi
   rw [cellsRow, Nat.mul_one, List.getElem?_eq_getElem (show i < elems.length by omega), Option.bind_eq_some_iff] at hE
   obtain ⟨cs, hc2, hy⟩ := hE
   obtain ⟨e0, rfl, g0⟩ := cells_one hc2
   obtain ⟨a', c', ps, rfl, sp⟩ := openPtsC hy
   exact ⟨ps, a', c', g0, sp⟩
  refine ⟨some x, cap, (List.range len).map (fun i => if h : i < len then Classical.choose (get i h) else []), by simp, ⟨by simpa using hl, hM, fun hn => ?_⟩⟩
  have hpos : 0 < len := by
   rcases Nat.eq_zero_or_pos len with e | e
   ·subst e; simp at hn
   ·exact e
  obtain ⟨b, off, spot⟩ := x
  obtain ⟨_, _, _, hq0, _⟩ := get 0 hpos
  have hspot : spot = none := by simpa [Addr.add] using World.cell?_spot hq0
  subst hspot
  refine ⟨b, off, rfl, fun i hi => ?_⟩
  have hi' : i < len := by simpa using hi
  have hc := Classical.choose_spec (get i hi')
  have er : rowA ((List.range len).map (fun i => if h : i < len then Classical.choose (get i h) else [])) i = Classical.choose (get i hi') := by
   unfold rowA
   rw [List.getElem?_map, List.getElem?_range hi']
   simp only [Option.map_some, Option.getD_some, dif_pos hi']
  rw [er]
  obtain ⟨a', c', h1, h2⟩ := hc
  have e0 : ((⟨b, off, none⟩ : Addr).add i).add 0 = ⟨b, off + i, none⟩ := by simp [Addr.add_lit]
  exact ⟨a', c', (congrArg W.cell? e0.symm).trans h1, h2⟩

set_option maxRecDepth 100000 in
theorem openShape {H : Type} {enc : TypeId × Value → H} {W : World} {base : Nat} {v : Value} {d : DataW H} {p : List MemPlace}
  (hv : Value.okWide Tryz.prog W .any base 24 v) (h : DataW.Trod enc Tryz.prog W 0 (fun _ => true) true 24 v d p) :
  ∃ k a cap rs, v = .agg #[.int .i64 k, .slice a (List.length rs) cap] ∧ SeesS W a cap rs := by
 obtain ⟨c0, c1, y0, y1, m, rfl, rfl, rfl, hy0, hy1⟩ := open_agg2 Tryz.underlying24 (by kernel_rfl) cellsShape hv h
 obtain ⟨k, e0, _⟩ := DataW.trod_int Tryz.underlying3 hy0
 simp at e0
 subst e0
 obtain ⟨a, cap, rs, rfl, sr⟩ := openRows hy1
 exact ⟨k, a, cap, rs, rfl, sr⟩
open Go.RowKit

theorem mul_len {us vs zs : List Int} (hu : Lim us) (hv : Lim vs) (lu : us.length ≤ 24) (lv : vs.length ≤ 24) (hz : Lim zs) (nz : Nrm zs) (e : val zs = val us * val vs) : zs.length ≤ 48 := by
 refine len_le hz nz ?_
 have a1 := val_lt hu
 have a2 := val_lt hv
 have a3 := p_mono us.length (24 - us.length)
 have a4 := p_mono vs.length (24 - vs.length)
 rw [show us.length + (24 - us.length) = 24 by omega] at a3
 rw [show vs.length + (24 - vs.length) = 24 by omega] at a4
 rw [e, show (4294967296 : Int) ^ 48 = 4294967296 ^ 24 * 4294967296 ^ 24 from Int.pow_add _ 24 24]
 have h5 := p_pos 24
 have h6 := val_nonneg hu
 generalize (4294967296 : Int) ^ 24 = P at *
 exact Int.lt_of_le_of_lt (Int.mul_le_mul_of_nonneg_left (show val vs ≤ P by omega) h6) (Int.mul_lt_mul_of_pos_right (show val us < P by omega) h5)
theorem cmp_diff (x y : Int) : cmpZ x y = if x - y = 0 then 0 else if x - y < 0 then -1 else 1 := by
 unfold cmpZ
 by_cases h1 : x < y
 ·rw [if_pos h1, if_neg (by omega), if_pos (by omega)]
 ·rw [if_neg h1]
  by_cases h2 : x = y
  ·rw [if_pos h2, if_pos (by omega)]
  ·rw [if_neg h2, if_neg (by omega), if_neg (by omega)]
theorem mg_mul (x y : Int) : mg (x * y) = mg x * mg y := by
 have e := sg_mul (decide (x < 0)) (decide (y < 0)) (mg x) (mg y)
 rw [sg_of_mg, sg_of_mg] at e
 have hx : 0 ≤ mg x := by unfold mg; split <;> omega
 have hy : 0 ≤ mg y := by unfold mg; split <;> omega
 rw [← e, mg_sg (Int.mul_nonneg hx hy)]

set_option maxRecDepth 20000 in
set_option maxHeartbeats 4000000 in
theorem specCmpFrac (g h g' h' : Bool) (a b a' b' : Option Addr) (c d c' d' : Nat) (xs ys xs' ys' : List Int) (w : World) (h1 : Sees w a c xs) (h2 : Sees w b d ys) (k1 : Sees w a' c' xs') (k2 : Sees w b' d' ys') :
  Calls Tryz.prog 41 #[.agg #[.bool g, .slice a xs.length c, .bool h, .slice b ys.length d], .agg #[.bool g', .slice a' xs'.length c', .bool h', .slice b' ys'.length d']] w fun e w' => e = .returned (.int .i64 (cmpZ (fN g xs h ys * fD g' xs' h' ys') (fN g' xs' h' ys' * fD g xs h ys))) ∧ Below w.heap.size w w' := by
 have B0 := below2 w (.cells #[.bool g, .slice a xs.length c, .bool h, .slice b ys.length d] 32) (.cells #[.bool g', .slice a' xs'.length c', .bool h', .slice b' ys'.length d'] 32)
 have k0 := box8 w g h g' h' a b a' b' xs.length ys.length xs'.length ys'.length c d c' d' 32
 have h1' := h1.below B0
 have h2' := h2.below B0
 have k1' := k1.below B0
 have k2' := k2.below B0
 clear h1 h2 k1 k2
 obtain ⟨n1, hn1⟩ : ∃ n, fN g xs h ys = n := ⟨_, rfl⟩
 obtain ⟨d1, hd1⟩ : ∃ n, fD g xs h ys = n := ⟨_, rfl⟩
 obtain ⟨n2, hn2⟩ : ∃ n, fN g' xs' h' ys' = n := ⟨_, rfl⟩
 obtain ⟨d2, hd2⟩ : ∃ n, fD g' xs' h' ys' = n := ⟨_, rfl⟩
 rw [hn1, hd1, hn2, hd2]
 have HN : Hid (fN g xs h ys = n1 ∧ fD g xs h ys = d1 ∧ fN g' xs' h' ys' = n2 ∧ fD g' xs' h' ys' = d2) := ⟨hn1, hd1, hn2, hd2⟩
 clear hn1 hd1 hn2 hd2
 go_enter Tryz.func41, Tryz.ntmps41
 go_wp2_with fail
 generalize (w.alloc (.cells #[.bool g, .slice a xs.length c, .bool h, .slice b ys.length d] 32)).alloc (.cells #[.bool g', .slice a' xs'.length c', .bool h', .slice b' ys'.length d'] 32) = W at *
 obtain ⟨b0, b1, b2, b3, y0, y1, y2, y3⟩ := k0
 refine (l2RightC g h a b c d xs ys _ h1' h2').mono ?_
 rintro e w1 ⟨v, rfl, hI, hb1⟩
 rw [HN.out.1, HN.out.2.1] at hI
 obtain ⟨p1, q1, u1, p2, q2, u2, rfl, s1, s2, e1, e2, v1, v2, l1, l2⟩ := hI
 have H1 : Hid (Nrm u1 ∧ Nrm u2 ∧ val u1 = mg n1 ∧ val u2 = mg d1) := ⟨e1, e2, v1, v2⟩
 obtain ⟨sd1, hsd1⟩ : ∃ x, Hid (decide (n1 < 0) = x) := ⟨_, rfl⟩
 obtain ⟨sd2, hsd2⟩ : ∃ x, Hid (decide (d1 < 0) = x) := ⟨_, rfl⟩
 rw [hsd1.out, hsd2.out]
 replace y0 := bat hb1 y0
 replace y1 := bat hb1 y1
 replace y2 := bat hb1 y2
 replace y3 := bat hb1 y3
 have ly : w.heap.size + 1 < w1.heap.size := World.block_lt_of_cell? _ _ y0
 have hbx := below1 w1 (.cells #[.bool sd1, .slice p1 u1.length q1, .bool sd2, .slice p2 u2.length q2] 32)
 obtain ⟨x0, x1, x2, x3⟩ := fvar_new w1 sd1 sd2 p1 p2 u1.length u2.length q1 q2 32
 go_wp2_with fail
 have B1 : Below W.heap.size W (w1.alloc (.cells #[.bool sd1, .slice p1 u1.length q1, .bool sd2, .slice p2 u2.length q2] 32)) := hb1.trans (hbx.mono hb1.size)
 have s1' := s1.below hbx
 have s2' := s2.below hbx
 clear e1 e2 v1 v2 hb1 hbx s1 s2 b0 b1 b2 b3 y0 y1 y2 y3 ly
 generalize w1.alloc (.cells #[.bool sd1, .slice p1 u1.length q1, .bool sd2, .slice p2 u2.length q2] 32) = W1 at *
 refine (l2RightC g' h' a' b' c' d' xs' ys' _ (k1'.below B1) (k2'.below B1)).mono ?_
 rintro e w2 ⟨v, rfl, hI, hb2⟩
 rw [HN.out.2.2.1, HN.out.2.2.2] at hI
 obtain ⟨p3, q3, u3, p4, q4, u4, rfl, s3, s4, e3, e4, v3, v4, l3, l4⟩ := hI
 have H2 : Hid (Nrm u3 ∧ Nrm u4 ∧ val u3 = mg n2 ∧ val u4 = mg d2) := ⟨e3, e4, v3, v4⟩
 obtain ⟨sd3, hsd3⟩ : ∃ x, Hid (decide (n2 < 0) = x) := ⟨_, rfl⟩
 obtain ⟨sd4, hsd4⟩ : ∃ x, Hid (decide (d2 < 0) = x) := ⟨_, rfl⟩
 rw [hsd3.out, hsd4.out]
 replace x0 := bat hb2 x0
 replace x1 := bat hb2 x1
 replace x2 := bat hb2 x2
 replace x3 := bat hb2 x3
 have lx : w1.heap.size < w2.heap.size := World.block_lt_of_cell? _ _ x0
 have hby := below1 w2 (.cells #[.bool sd3, .slice p3 u3.length q3, .bool sd4, .slice p4 u4.length q4] 32)
 obtain ⟨y0, y1, y2, y3⟩ := fvar_new w2 sd3 sd4 p3 p4 u3.length u4.length q3 q4 32
 go_wp2_with fail
 have B2 : Below W.heap.size W (w2.alloc (.cells #[.bool sd3, .slice p3 u3.length q3, .bool sd4, .slice p4 u4.length q4] 32)) := (B1.trans (hb2.mono B1.size)).trans (hby.mono (Nat.le_trans B1.size hb2.size))
 have t1 := (s1'.below hb2).below hby
 have t2 := (s2'.below hb2).below hby
 have t3 := s3.below hby
 have t4 := s4.below hby
 replace x0 := bat hby x0
 replace x1 := bat hby x1
 replace x2 := bat hby x2
 replace x3 := bat hby x3
 clear e3 e4 v3 v4 hb2 hby s1' s2' s3 s4 lx B1
 generalize w2.alloc (.cells #[.bool sd3, .slice p3 u3.length q3, .bool sd4, .slice p4 u4.length q4] 32) = W2 at *
 refine (l2MulC sd1 sd4 p1 p4 q1 q4 u1 u4 _ t1 t4 (by omega)).mono ?_
 rintro e w3 ⟨v, rfl, hI, hb3⟩
 have hE1 : sg (sd1 != sd4) (val u1 * val u4) = n1 * d2 := by rw [sg_mul, H1.out.2.2.1, H2.out.2.2.2, ← hsd1.out, ← hsd4.out, sg_of_mg, sg_of_mg]
 rw [hE1] at hI
 obtain ⟨a5, c5, z5, rfl, o5, n5, v5⟩ := hI
 have L5 : Hid (z5.length ≤ 48) := mul_len t1.lim t4.lim l1 l4 o5.lim n5 (by rw [v5, H1.out.2.2.1, H2.out.2.2.2]; exact mg_mul _ _)
 have H5 : Hid (Nrm z5 ∧ val z5 = mg (n1 * d2)) := ⟨n5, v5⟩
 obtain ⟨sd5, hsd5⟩ : ∃ x, Hid (decide (n1 * d2 < 0) = x) := ⟨_, rfl⟩
 rw [hsd5.out]
 replace x0 := bat hb3 x0
 replace x1 := bat hb3 x1
 replace x2 := bat hb3 x2
 replace x3 := bat hb3 x3
 replace y0 := bat hb3 y0
 replace y1 := bat hb3 y1
 replace y2 := bat hb3 y2
 replace y3 := bat hb3 y3
 have lx : w1.heap.size < w3.heap.size := World.block_lt_of_cell? _ _ x0
 have ly : w2.heap.size < w3.heap.size := World.block_lt_of_cell? _ _ y0
 have hbp := below1 w3 (.cells #[.bool sd5, .slice a5 z5.length c5] 30)
 obtain ⟨m0, m1⟩ := var_new w3 sd5 a5 z5.length c5 30
 go_wp2_with fail
 have B3 : Below W.heap.size W (w3.alloc (.cells #[.bool sd5, .slice a5 z5.length c5] 30)) := (B2.trans (hb3.mono B2.size)).trans (hbp.mono (Nat.le_trans B2.size hb3.size))
 replace t2 := (t2.below hb3).below hbp
 replace t3 := (t3.below hb3).below hbp
 have o5' := o5.below hbp
 clear n5 v5 hE1 hb3 hbp t1 t4 o5 x0 x1 x2 x3 y0 y1 y2 y3 lx ly B2
 generalize w3.alloc (.cells #[.bool sd5, .slice a5 z5.length c5] 30) = W3 at *
 refine (l2MulC sd3 sd2 p3 p2 q3 q2 u3 u2 _ t3 t2 (by omega)).mono ?_
 rintro e w4 ⟨v, rfl, hI, hb4⟩
 have hE2 : sg (sd3 != sd2) (val u3 * val u2) = n2 * d1 := by rw [sg_mul, H2.out.2.2.1, H1.out.2.2.2, ← hsd3.out, ← hsd2.out, sg_of_mg, sg_of_mg]
 rw [hE2] at hI
 obtain ⟨a6, c6, z6, rfl, o6, n6, v6⟩ := hI
 have L6 : Hid (z6.length ≤ 48) := mul_len t3.lim t2.lim l3 l2 o6.lim n6 (by rw [v6, H2.out.2.2.1, H1.out.2.2.2]; exact mg_mul _ _)
 have H6 : Hid (Nrm z6 ∧ val z6 = mg (n2 * d1)) := ⟨n6, v6⟩
 obtain ⟨sd6, hsd6⟩ : ∃ x, Hid (decide (n2 * d1 < 0) = x) := ⟨_, rfl⟩
 rw [hsd6.out]
 replace m0 := bat hb4 m0
 replace m1 := bat hb4 m1
 have lm : w3.heap.size < w4.heap.size := World.block_lt_of_cell? _ _ m0
 have hbq := below1 w4 (.cells #[.bool sd6, .slice a6 z6.length c6] 30)
 go_wp2_with fail
 have B4 : Below W.heap.size W (w4.alloc (.cells #[.bool sd6, .slice a6 z6.length c6] 30)) := (B3.trans (hb4.mono B3.size)).trans (hbq.mono (Nat.le_trans B3.size hb4.size))
 have o5'' := (o5'.below hb4).below hbq
 have o6' := o6.below hbq
 clear n6 v6 hE2 hb4 hbq t2 t3 o5' o6 m0 m1 lm B3
 generalize w4.alloc (.cells #[.bool sd6, .slice a6 z6.length c6] 30) = W4 at *
 refine (l1AddC sd5 (!sd6) a5 a6 c5 c6 z5 z6 _ o5''.toSees o6'.toSees H5.out.1 H6.out.1 (by have := L5.out; omega) (by have := L6.out; omega)).mono ?_
 rintro e w5 ⟨v, rfl, hI, hb5⟩
 have hE3 : sg sd5 (val z5) + sg (!sd6) (val z6) = n1 * d2 - n2 * d1 := by rw [sg_not, H5.out.2, H6.out.2, ← hsd5.out, ← hsd6.out, sg_of_mg, sg_of_mg]; omega
 rw [hE3] at hI
 obtain ⟨a7, c7, z7, rfl, o7, n7, v7⟩ := hI
 have B5 := B4.trans (hb5.mono B4.size)
 have lz : z7.length ≤ 9223372036854775807 := by have := o7.max; have := o7.fits; unfold maxLen at *; omega
 have BB := B0.trans (B5.mono B0.size)
 have HZ : Hid (Lim z7 ∧ Nrm z7 ∧ val z7 = mg (n1 * d2 - n2 * d1)) := ⟨o7.lim, n7, v7⟩
 clear n7 v7 hb5 hE3 o5'' o6' o7 B4 B5 B0
 have EC : Hid (cmpZ (n1 * d2) (n2 * d1) = if n1 * d2 - n2 * d1 = 0 then 0 else if n1 * d2 - n2 * d1 < 0 then -1 else 1) := cmp_diff _ _
 generalize n1 * d2 - n2 * d1 = D at *
 by_cases hD0 : D = 0
 ·have EF : Hid (cmpZ (n1 * d2) (n2 * d1) = 0) := by show _ = _; rw [EC.out, if_pos hD0]
  clear EC
  subst hD0
  have e7 : z7 = [] := by
   by_cases e : z7 = []
   ·exact e
   ·have := val_pos HZ.out.1 HZ.out.2.1 e
    rw [HZ.out.2.2] at this
    simp [mg] at this
  subst e7
  go_wp2
  go_ret
  exact ⟨by rw [EF.out]; rfl, BB.trans ((below1 _ _).mono BB.size)⟩
 ·have hne : z7 ≠ [] := by
   rintro rfl
   have := HZ.out.2.2
   unfold mg at this
   simp only [val] at this
   split at this <;> omega
  have hlp : ((z7.length : Int) == 0) = false := by simp; exact hne
  by_cases hDn : D < 0
  ·have EF : Hid (cmpZ (n1 * d2) (n2 * d1) = -1) := by show _ = _; rw [EC.out, if_neg hD0, if_pos hDn]
   clear EC
   rw [decide_eq_true hDn]
   go_wp2
   go_ret
   exact ⟨by rw [EF.out]; rfl, BB.trans ((below1 _ _).mono BB.size)⟩
  ·have EF : Hid (cmpZ (n1 * d2) (n2 * d1) = 1) := by show _ = _; rw [EC.out, if_neg hD0, if_neg hDn]
   clear EC
   rw [decide_eq_false hDn]
   go_wp2
   go_ret
   exact ⟨by rw [EF.out]; rfl, BB.trans ((below1 _ _).mono BB.size)⟩
end Go.Proofs.YtnjbedhealpgcaaGreat
