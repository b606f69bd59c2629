/- CurvePt of the program: the cells at a place on the curves of one bit, of two and so on, by an iterator. -/
import Derived.Test.YtaabgmhjgofdmaaCurU
import Derived.Test.YtaabgmhjgofdmaaCurI
namespace Go.Proofs.Ytaabgmhjgofdmaa
open Go.RowKit Go.Shelf
attribute [local go_sem] Oper.semAt_some

set_option maxRecDepth 20000 in
set_option maxHeartbeats 1000000 in
theorem put_any (u v h q : Int) (w : World) (hu : 0 ≤ u ∧ u < h) (hv : 0 ≤ v ∧ v < h) (hh : 1 ≤ h ∧ h ≤ 16777216) (hq : q = 0 ∨ q = 1 ∨ q = 2 ∨ q = 3) :
    Calls Try.prog 25 #[.agg #[.int .i64 u, .int .i64 v], .int .i64 q, .int .i64 h] w fun e w' => e = .returned (.agg #[.int .i64 (hQ h q (u, v)).1, .int .i64 (hQ h q (u, v)).2]) ∧ Below w.heap.size w w' := by
  obtain ⟨k0, k1, _, _⟩ := Box2.new w (lo := w.heap.size) (Nat.le_refl _) (.int .i64 u) (.int .i64 v) 37
  obtain ⟨U, hU⟩ : ∃ U, Hid (hQ h q (u, v) = U) := ⟨_, rfl⟩
  rw [hU.out]
  rcases hq with e | e | e | e <;> subst e
  · have V : U = (v, u) := by rw [← hU.out]; simp [hQ]
    subst V
    clear hU
    have e1 : wrap64 (v) = v := by unfold wrap64; omega
    have e2 : wrap64 (u) = u := by unfold wrap64; omega
    have e3 : wrap64 (h - 1) = h - 1 := by unfold wrap64; omega
    have e4 : wrap64 (2 * h) = 2 * h := by unfold wrap64; omega
    have e5 : wrap64 (2 * h - 1) = 2 * h - 1 := by unfold wrap64; omega
    go_enter Try.func25, Try.ntmps25
    go_wp2
    refine bodyPost_ret (v := .agg #[.int .i64 (v), .int .i64 (u)]) (by simp [results, Try.results25, go_sem]) rfl ?_
    exact ⟨rfl, ((Below.refl _ w).alloc (Nat.le_refl _) _).alloc (by simp) _⟩
  · have V : U = (u, v + h) := by rw [← hU.out]; simp [hQ]
    subst V
    clear hU
    have e1 : wrap64 (u) = u := by unfold wrap64; omega
    have e2 : wrap64 (v + h) = v + h := by unfold wrap64; omega
    have e3 : wrap64 (h - 1) = h - 1 := by unfold wrap64; omega
    have e4 : wrap64 (2 * h) = 2 * h := by unfold wrap64; omega
    have e5 : wrap64 (2 * h - 1) = 2 * h - 1 := by unfold wrap64; omega
    go_enter Try.func25, Try.ntmps25
    go_wp2
    refine bodyPost_ret (v := .agg #[.int .i64 (u), .int .i64 (v + h)]) (by simp [results, Try.results25, go_sem]) rfl ?_
    exact ⟨rfl, ((Below.refl _ w).alloc (Nat.le_refl _) _).alloc (by simp) _⟩
  · have V : U = (u + h, v + h) := by rw [← hU.out]; simp [hQ]
    subst V
    clear hU
    have e1 : wrap64 (u + h) = u + h := by unfold wrap64; omega
    have e2 : wrap64 (v + h) = v + h := by unfold wrap64; omega
    have e3 : wrap64 (h - 1) = h - 1 := by unfold wrap64; omega
    have e4 : wrap64 (2 * h) = 2 * h := by unfold wrap64; omega
    have e5 : wrap64 (2 * h - 1) = 2 * h - 1 := by unfold wrap64; omega
    go_enter Try.func25, Try.ntmps25
    go_wp2
    refine bodyPost_ret (v := .agg #[.int .i64 (u + h), .int .i64 (v + h)]) (by simp [results, Try.results25, go_sem]) rfl ?_
    exact ⟨rfl, ((Below.refl _ w).alloc (Nat.le_refl _) _).alloc (by simp) _⟩
  · have V : U = (2 * h - 1 - v, h - 1 - u) := by rw [← hU.out]; simp [hQ]
    subst V
    clear hU
    have e1 : wrap64 (2 * h - 1 - v) = 2 * h - 1 - v := by unfold wrap64; omega
    have e2 : wrap64 (h - 1 - u) = h - 1 - u := by unfold wrap64; omega
    have e3 : wrap64 (h - 1) = h - 1 := by unfold wrap64; omega
    have e4 : wrap64 (2 * h) = 2 * h := by unfold wrap64; omega
    have e5 : wrap64 (2 * h - 1) = 2 * h - 1 := by unfold wrap64; omega
    go_enter Try.func25, Try.ntmps25
    go_wp2
    refine bodyPost_ret (v := .agg #[.int .i64 (2 * h - 1 - v), .int .i64 (h - 1 - u)]) (by simp [results, Try.results25, go_sem]) rfl ?_
    exact ⟨rfl, ((Below.refl _ w).alloc (Nat.le_refl _) _).alloc (by simp) _⟩

theorem point_any (u v : Int) (w : World) (hx : wrap64 (u - 10000000) = u - 10000000) (hy : wrap64 (v - 10000000) = v - 10000000) :
    Calls Try.prog 16 #[.agg #[.int .i64 u, .int .i64 v]] w fun e w' => e = .returned (.agg #[.int .i64 (u - 10000000), .int .i64 (v - 10000000)]) ∧ Below w.heap.size w w' := by
  obtain ⟨k0, k1, _, _⟩ := Box2.new w (lo := w.heap.size) (Nat.le_refl _) (.int .i64 u) (.int .i64 v) 37
  go_enter Try.func16, Try.ntmps16
  go_wp2
  refine bodyPost_ret (v := .agg #[.int .i64 (u - 10000000), .int .i64 (v - 10000000)]) (by simp [results, Try.results16, go_sem]) rfl ?_
  exact ⟨rfl, ((Below.refl _ w).alloc (Nat.le_refl _) _).alloc (by simp) _⟩
theorem outward_any (n : Int) (w : World) :
    Calls Try.prog 15 #[.int .i64 n] w fun e w' => e = .returned (.func (.func 24) #[] #[.pointer (some ⟨w.heap.size, 0, none⟩)]) ∧ w' = w.alloc (.cells #[.int .i64 n] 3) := by
  go_enter Try.func15, Try.ntmps15
  go_wp2
  go_ret
  exact ⟨rfl, rfl⟩

/-- A state of the iterator: how many bits there were. -/
def outStep (n : Int) (k : Nat) (c : Int × Int) (k' : Nat) : Prop := k < 25 ∧ c = hPt (k + 1) (n % 4 ^ (k + 1)) ∧ k' = k + 1
theorem cvRest (n : Int) (k : Nat) : n / 4 ^ k / 4 = n / 4 ^ (k + 1) := by rw [cvFourS, Int.mul_comm, Int.ediv_ediv_of_nonneg (Int.le_of_lt (cvFour k))]
theorem cvTdiv {m : Int} (h : 0 ≤ m) : m.tdiv 4 = m / 4 := by rw [Int.tdiv_eq_ediv_of_nonneg h]
theorem cvTmod {m : Int} (h : 0 ≤ m) : m.tmod 4 = m % 4 := by rw [Int.tmod_eq_emod_of_nonneg h]

theorem cvWrap2 {p : Int} (h : 1 ≤ p) (h2 : p ≤ 16777216) : wrap64 (p * 2) = p * 2 := by unfold wrap64; omega
theorem cvLess2 {p : Int} (h : 1 ≤ p) (h2 : p ≤ 16777216) : (33554432 - p * 2).toNat < (33554432 - p).toNat := by omega

set_option maxRecDepth 100000 in
set_option maxHeartbeats 2000000 in
theorem outward_seq (b : Nat) (n : Int) (w : World) (m : Nat) (hm : 1 ≤ m) (hn : 0 ≤ n ∧ n ≤ 1125899906842623) (h0 : w.cell? ⟨b, 0, none⟩ = some (.int .i64 n)) :
    SeqG Fence.wide m Try.prog 24 #[.pointer (some ⟨b, 0, none⟩)] (fun c : Int × Int => Value.agg #[.int .i64 c.1, .int .i64 c.2]) (outStep n) 0 (fun k => k = 25) w := fun l J W hW hJ hY hJ0 => by
  replace h0 := bat hW h0
  clear hW
  have B0 := below1 W (.cells #[.int .i64 0, .int .i64 0] 37)
  have X0 := Box2.new W (lo := W.heap.size) (Nat.le_refl _) (.int .i64 0) (.int .i64 0) 37
  refine callsIn_of_wp Try.func24 rfl trivial ?_ rfl
  simp only [Try.ntmps24, List.size_toArray, List.length_cons, List.length_nil, Nat.reduceAdd, Nat.reduceSub, Array.replicate_succ, Array.replicate_zero, List.push_toArray, List.append_toArray, List.nil_append, List.cons_append]
  gi_wp2
  have g0 := bat B0 h0
  gi_region
  replace hJ0 := hJ _ _ _ hJ0 B0.drew
  have S0 := B0.drew.size
  replace X0 : Box2 W.heap.size (W.alloc (.cells #[.int .i64 0, .int .i64 0] 37)).drew W.heap.size (.int .i64 0) (.int .i64 0) := ⟨X0.c0, X0.c1, X0.fr, X0.lo⟩
  clear g0 h0 B0
  generalize (W.alloc (.cells #[.int .i64 0, .int .i64 0] 37)).drew = W0 at *
  generalize W.heap.size = B at *
  gi_wp2
  gi_loopw [4, 5] (fun sr sh wr => ∃ k : Nat, k ≤ 25 ∧ sr = .int .i64 (n / 4 ^ k) ∧ sh = .int .i64 (2 ^ k) ∧ Box2 B wr B (.int .i64 (hPt k (n % 4 ^ k)).1) (.int .i64 (hPt k (n % 4 ^ k)).2) ∧ J k wr ∧ B ≤ wr.heap.size) (fun _ sh _ => (33554432 - intOf sh).toNat)
  case atStart => exact ⟨0, by omega, by simp, rfl, X0, hJ0, S0⟩
  case round =>
    obtain ⟨k, hk, rfl, rfl, X, hj, hs⟩ := hrel
    rename World => wr
    clear X0 hJ0 S0
    by_cases h0 : k < 25
    · have i := hPt_in k (n % 4 ^ k) (Int.emod_nonneg n (Int.ne_of_gt (cvFour k))) (Int.emod_lt_of_pos n (cvFour k))
      have hS : outStep n k (hPt (k + 1) (n % 4 ^ (k + 1))) (k + 1) := ⟨h0, rfl, rfl⟩
      have U := cvUp k n
      obtain ⟨P0, P1⟩ := pow25 h0
      have eR := cvRest n k
      have r0 : 0 ≤ n / 4 ^ k := Int.ediv_nonneg hn.1 (Int.le_of_lt (cvFour k))
      have r1 : n / 4 ^ k ≤ 1125899906842623 := Int.le_trans (Int.ediv_le_self _ hn.1) hn.2
      generalize n / 4 ^ k = r at *
      generalize hPt k (n % 4 ^ k) = c at *
      obtain ⟨u, v⟩ := c
      dsimp only at i
      have hq : r % 4 = 0 ∨ r % 4 = 1 ∨ r % 4 = 2 ∨ r % 4 = 3 := by omega
      have wq : wrap64 (r % 4) = r % 4 := by unfold wrap64; omega
      have wr4 : wrap64 (r / 4) = r / 4 := by unfold wrap64; omega
      have wh : wrap64 (2 ^ k * 2) = 2 ^ k * 2 := cvWrap2 P0 P1
      have lt2 : (2 : Int) ^ k < 33554432 := by omega
      obtain ⟨x0, x1, xf, _⟩ := id X
      gi_wp2_with fail
      refine ⟨trivial, ?_⟩
      refine (callsIn_wide.2 (put_any u v (2 ^ k) (r % 4) _ ⟨i.1, i.2.1⟩ ⟨i.2.2.1, i.2.2.2⟩ ⟨P0, P1⟩ hq)).mono ?_
      rintro e w1 ⟨rfl, hb⟩
      rw [← U]
      replace X := X.below hb
      replace hj := hJ _ _ _ hj (hb.mono hs)
      have hs1 : B ≤ w1.heap.size := Nat.le_trans hs hb.size
      clear hb x0 x1 xf U i hq wq
      obtain ⟨c, hc⟩ : ∃ c, hPt (k + 1) (n % 4 ^ (k + 1)) = c := ⟨_, rfl⟩
      rw [hc] at hS ⊢
      obtain ⟨a1, a2⟩ := c
      obtain ⟨x0, x1, xf, _⟩ := id X
      have X2 := X.put (.int .i64 a1) (.int .i64 a2)
      have hj2 := hJ _ _ _ hj (Box2.chain (Below.refl _ _) X (.int .i64 a1) (.int .i64 a2))
      have hs2 : B ≤ ((w1.setCell ⟨B, 0, none⟩ (.int .i64 a1)).setCell ⟨B, 1, none⟩ (.int .i64 a2)).heap.size := by simpa [World.setCell] using hs1
      obtain ⟨fn, tmps, assign, body, hy1, hR⟩ := hY _ _ _ _ hj2 hS hs2
      obtain ⟨y0, y1, _, _⟩ := id X2
      clear hS hj hj2 X
      gi_wp2_with fail
      refine hR.mono ?_
      rintro e w2 ⟨rfl, hj2, ha⟩
      have hs3 : B ≤ w2.heap.size := Nat.le_trans hs2 ha.size
      replace X2 := X2.above ha (Nat.le_refl _)
      clear ha hR hy1 x0 x1 xf y0 y1
      gi_wp2
      go_roundw
      case rel => exact ⟨k + 1, by omega, rfl, by rw [cvTwoS, Int.mul_comm], by rw [hc]; exact X2, hj2, hs3⟩
      case measure => exact cvLess2 P0 P1
    · obtain rfl : k = 25 := by omega
      rw [show (2 : Int) ^ 25 = 33554432 from rfl]
      gi_wp2
      go_end0
      exact ⟨⟨_, rfl⟩, _, rfl, hj⟩

theorem Box2.under {lo p B : Nat} {w w' : World} {x0 x1 : Value} (h : Box2 lo w p x0 x1) (hB : p < B) (hb : Below B w w') : Box2 lo w' p x0 x1 :=
  ⟨(hb.cell (p := ⟨p, 0, none⟩) hB).trans h.c0, (hb.cell (p := ⟨p, 1, none⟩) hB).trans h.c1, fun o => (hb.frozen (p := ⟨p, o, none⟩) hB).trans (h.fr o), h.lo⟩

set_option maxRecDepth 100000 in
set_option maxHeartbeats 2000000 in
theorem implCurvePt (n : Int) (w : World) :
    Calls Try.prog 8 #[.int .i64 n] w fun e w' => e = .returned (.tuple #[.agg #[.int .i64 (cvPt n).1.1, .int .i64 (cvPt n).1.2], .bool (cvPt n).2]) ∧ Below w.heap.size w w' := by
  have B0 := below1 w (.cells #[.int .i64 0, .int .i64 0] 25)
  have R0 := Box2.new w (lo := w.heap.size) (Nat.le_refl _) (.int .i64 0) (.int .i64 0) 25
  refine (callsIn_wide (n := 6)).1 ?_
  refine callsIn_of_wp_marks Try.func8 rfl trivial ?_ rfl
  simp only [Try.ntmps8, List.size_toArray, List.length_cons, List.length_nil, Nat.reduceAdd, Nat.reduceSub, Array.replicate_succ, Array.replicate_zero, List.push_toArray, List.append_toArray, List.nil_append, List.cons_append]
  by_cases hn : 0 ≤ n ∧ n ≤ 1125899906842623
  · have n0 : ¬ n < 0 := by omega
    have n1 : ¬ (1125899906842624 : Int) ≤ n := by omega
    gi_wp2_with fail
    refine ⟨trivial, ?_⟩
    have N1 := below1 (w.alloc (.cells #[.int .i64 0, .int .i64 0] 25)) (.cells #[.int .i64 0, .int .i64 0] 37)
    have L0 := Box2.new (w.alloc (.cells #[.int .i64 0, .int .i64 0] 25)) (lo := w.heap.size) B0.size (.int .i64 0) (.int .i64 0) 37
    replace R0 := R0.below N1
    replace B0 := B0.trans (N1.mono B0.size)
    clear N1
    have lr : (w.alloc (.cells #[.int .i64 0, .int .i64 0] 25)).heap.size = w.heap.size + 1 := by simp
    rw [lr] at L0
    generalize (w.alloc (.cells #[.int .i64 0, .int .i64 0] 25)).alloc (.cells #[.int .i64 0, .int .i64 0] 37) = W1 at *
    refine (callsIn_wide.2 (outward_any n _)).mono ?_
    rintro e w3 ⟨rfl, rfl⟩
    have N1 := below1 W1 (.cells #[.int .i64 n] 3)
    have Y0 := Box1.new W1 (lo := w.heap.size) B0.size (.int .i64 n) 3
    replace R0 := R0.below N1
    replace L0 := L0.below N1
    replace B0 := B0.trans (N1.mono B0.size)
    clear N1 lr
    generalize hq : W1.heap.size = q at *
    generalize W1.alloc (.cells #[.int .i64 n] 3) = W2 at *
    clear hq
    gi_wp2
    have pl := L0.lt
    have rl := R0.lt
    refine wpIn_rangeFunc_seq rfl (by omega) (gf := 24) (lb := #[.pointer (some ⟨q, 0, none⟩)]) rfl trivial (enters_of Try.func24 (by kernel_rfl) rfl) (outward_seq q n _ _ (by omega) hn Y0.c0) rfl
      (fun k W => Box2 w.heap.size W (w.heap.size + 1) (.int .i64 (hPt k (n % 4 ^ k)).1) (.int .i64 (hPt k (n % 4 ^ k)).2) ∧ Box2 w.heap.size W w.heap.size (.int .i64 0) (.int .i64 0) ∧ Hid (Below w.heap.size w W)) ?hI ⟨L0, R0, B0⟩ ?round ?done
    case hI =>
      rintro s A B' ⟨h1, h2, hb⟩ hbb
      exact ⟨h1.under pl hbb, h2.under rl hbb, hb.out.trans (hbb.mono B0.size)⟩
    case round =>
      rintro k c s' W K ⟨L, R, BB⟩ ⟨hk, hc0, rfl⟩ hsz hK
      have hc : Hid (c = hPt (k + 1) (n % 4 ^ (k + 1))) := hc0
      clear hc0
      have C1 := Box2.new W (lo := w.heap.size) BB.out.size (.int .i64 c.1) (.int .i64 c.2) 37
      have N1 := below1 W (.cells #[.int .i64 c.1, .int .i64 c.2] 37)
      replace L := L.below N1
      replace R := R.below N1
      have BB2 := BB.out.trans (N1.mono BB.out.size)
      have A1 := (Above.refl W2.heap.size W).alloc (.cells #[.int .i64 c.1, .int .i64 c.2] 37)
      clear N1 BB
      gi_wp2
      refine hK _ _ A1 ?_
      intro o
      have hW : W2.heap.size + 1 < W.heap.size := by omega
      have P1 := belowPut (W.alloc (.cells #[.int .i64 c.1, .int .i64 c.2] 37)) (B := W2.heap.size) (Nat.le_succ _) o
      replace L := L.under pl P1
      replace R := R.under rl P1
      replace BB2 := BB2.trans (P1.mono B0.size)
      replace C1 : Box2 w.heap.size ((W.alloc (.cells #[.int .i64 c.1, .int .i64 c.2] 37)).putObj (W2.heap.size + 1) o) W.heap.size (.int .i64 c.1) (.int .i64 c.2) :=
        have e := World.putObj_heap_other (w := W.alloc (.cells #[.int .i64 c.1, .int .i64 c.2] 37)) (o := o) (show W.heap.size ≠ W2.heap.size + 1 by omega)
        ⟨(World.cell?_of_block (a := ⟨W.heap.size, 0, none⟩) e).trans C1.c0, (World.cell?_of_block (a := ⟨W.heap.size, 1, none⟩) e).trans C1.c1, fun o => (World.frozen?_of_block (a := ⟨W.heap.size, o, none⟩) e).trans (C1.fr o), C1.lo⟩
      clear A1 P1 hK
      generalize (W.alloc (.cells #[.int .i64 c.1, .int .i64 c.2] 37)).putObj (W2.heap.size + 1) o = W3 at *
      obtain ⟨c0, c1, _, _⟩ := id C1
      obtain ⟨l0, l1, lf, _⟩ := id L
      gi_wp2
      refine ⟨((Above.refl _ _).setCell pl _).setCell pl _, ?_, R.old (by omega) _ _, Box2.chain BB2 L _ _⟩
      rw [← hc.out]
      exact L.put _ _
    case done =>
      rintro s W rfl ⟨L, R, BB⟩ hK
      rw [show n % 4 ^ 25 = n from Int.emod_eq_of_lt hn.1 (by omega)] at L
      have i := hPt_in 25 n hn.1 (by omega)
      have V : Hid (cvPt n = if ptOk ((hPt 25 n).1 - 10000000) ((hPt 25 n).2 - 10000000) then (((hPt 25 n).1 - 10000000, (hPt 25 n).2 - 10000000), true) else ((0, 0), false)) := by show _ = _; unfold cvPt; rw [if_pos hn]
      generalize hPt 25 n = c at *
      obtain ⟨u, v⟩ := c
      dsimp only at i V L
      have wx : wrap64 (u - 10000000) = u - 10000000 := by unfold wrap64; omega
      have wy : wrap64 (v - 10000000) = v - 10000000 := by unfold wrap64; omega
      have BB2 := BB.out
      clear BB L0 R0 Y0 pl
      have dl : W2.heap.size < W.heap.size := (Array.getElem?_eq_some_iff.1 hK).1
      have wW : w.heap.size ≤ W2.heap.size := B0.size
      obtain ⟨l0, l1, _, _⟩ := id L
      gi_wp2_with fail
      refine ⟨trivial, ?_⟩
      refine (callsIn_wide.2 (point_any u v _ wx wy)).mono ?_
      rintro e w3 ⟨rfl, hb⟩
      replace R := R.below hb
      replace BB2 := BB2.trans (hb.mono BB2.size)
      replace hK := (hb.block _ dl).trans hK
      replace dl := Nat.lt_of_lt_of_le dl hb.size
      clear hb l0 l1 L wx wy
      obtain ⟨X, hX⟩ : ∃ X, u - 10000000 = X := ⟨_, rfl⟩
      obtain ⟨Y, hY⟩ : ∃ Y, v - 10000000 = Y := ⟨_, rfl⟩
      rw [hX, hY] at V ⊢
      clear hX hY i
      have N1 := below1 w3 (.cells #[.int .i64 X, .int .i64 Y] 25)
      have Z0 := Box2.new w3 (lo := w.heap.size) BB2.size (.int .i64 X) (.int .i64 Y) 25
      replace R := R.below N1
      replace BB2 := BB2.trans (N1.mono BB2.size)
      replace hK := (N1.block _ dl).trans hK
      replace dl := Nat.lt_of_lt_of_le dl N1.size
      clear N1
      obtain ⟨z0, z1, _, _⟩ := id Z0
      gi_wp2_with fail
      refine ⟨trivial, ?_⟩
      generalize hp : w3.heap.size = p at *
      generalize w3.alloc (.cells #[.int .i64 X, .int .i64 Y] 25) = W4 at *
      clear hp
      refine (callsIn_wide.2 (implPtOk X Y _)).mono ?_
      rintro e w5 ⟨rfl, hb⟩
      replace R := R.below hb
      replace Z0 := Z0.below hb
      replace BB2 := BB2.trans (hb.mono BB2.size)
      replace hK := (hb.block _ dl).trans hK
      clear hb z0 z1 dl
      obtain ⟨z0, z1, _, _⟩ := id Z0
      obtain ⟨r0, r1, rf, _⟩ := id R
      have hK2 := fun a b : Value => ((Below.heap_setCell (w5.setCell ⟨w.heap.size, 0, none⟩ a) ⟨w.heap.size, 1, none⟩ b W2.heap.size (Nat.ne_of_gt rl)).trans (Below.heap_setCell w5 ⟨w.heap.size, 0, none⟩ a W2.heap.size (Nat.ne_of_gt rl))).trans hK
      cases ok : ptOk X Y
      · rw [ok] at V
        have Z := Box2.chain BB2 R (.int .i64 0) (.int .i64 0)
        have Q1 := R.put (.int .i64 0) (.int .i64 0)
        have hK3 := hK2 (.int .i64 0) (.int .i64 0)
        clear hK2
        gi_wp2
        refine ⟨by simp, .inl ⟨_, _, rfl, run_takeDeferred hK3, ?_⟩⟩
        have Q2 := Q1.under (B := W2.heap.size) rl (belowPut _ (Nat.le_refl _) (.deferred none))
        obtain ⟨y0, y1, _, _⟩ := Q2
        refine ⟨.tuple #[.agg #[.int .i64 0, .int .i64 0], .bool false], by simp [results, Try.results8, go_sem, y0, y1], ?_, Z.trans (belowPut _ wW _)⟩
        rw [V.out]
        rfl
      · rw [ok] at V
        have Z := Box2.chain BB2 R (.int .i64 X) (.int .i64 Y)
        have Q1 := R.put (.int .i64 X) (.int .i64 Y)
        have hK3 := hK2 (.int .i64 X) (.int .i64 Y)
        clear hK2
        gi_wp2
        refine ⟨by simp, .inl ⟨_, _, rfl, run_takeDeferred hK3, ?_⟩⟩
        have Q2 := Q1.under (B := W2.heap.size) rl (belowPut _ (Nat.le_refl _) (.deferred none))
        obtain ⟨y0, y1, _, _⟩ := Q2
        refine ⟨.tuple #[.agg #[.int .i64 X, .int .i64 Y], .bool true], by simp [results, Try.results8, go_sem, y0, y1], ?_, Z.trans (belowPut _ wW _)⟩
        rw [V.out]
        rfl
  · have V : Hid (cvPt n = ((0, 0), false)) := by show _ = _; unfold cvPt; rw [if_neg hn]
    by_cases n0 : n < 0
    · gi_wp2
      refine ⟨.tuple #[.agg #[.int .i64 0, .int .i64 0], .bool false], by simp [results, Try.results8, go_sem], ?_, B0⟩
      rw [V.out]
    · have n1 : (1125899906842624 : Int) ≤ n := by omega
      gi_wp2
      refine ⟨.tuple #[.agg #[.int .i64 0, .int .i64 0], .bool false], by simp [results, Try.results8, go_sem], ?_, B0⟩
      rw [V.out]
end Go.Proofs.Ytaabgmhjgofdmaa
