/- The law on the curve: FnCurve. -/
import Derived.Test.YtaabgmhjgofdmaaDrawV
import Derived.Test.YtaabgmhjgofdmaaBig
import Derived.Test.YtaabgmhjgofdmaaCurV
namespace Go.Proofs.Ytaabgmhjgofdmaa
open Go.RowKit

/-- A point comes back of its place. -/
theorem cvBack {x y : Int} (h : ptOk x y = true) : cvPt (cvOf x y) = ((x, y), true) := by
  have C := cvCrd h
  have hx : 0 ≤ x + 10000000 ∧ x + 10000000 < 33554432 := by omega
  have hy : 0 ≤ y + 10000000 ∧ y + 10000000 < 33554432 := by omega
  have r := hOf_room hx hy
  have b := hPt_hOf 25 (x + 10000000) (y + 10000000) hx.1 hx.2 hy.1 hy.2
  unfold cvOf
  rw [h, if_pos rfl]
  generalize hOf 25 (x + 10000000) (y + 10000000) = n at *
  unfold cvPt
  rw [if_pos (by omega), b]
  dsimp only
  rw [show x + 10000000 - 10000000 = x by omega, show y + 10000000 - 10000000 = y by omega, h, if_pos rfl]
theorem cvOf_room {x y : Int} (h : ptOk x y = true) : 0 ≤ cvOf x y ∧ cvOf x y < 1125899906842624 := by
  have C := cvCrd h
  unfold cvOf
  rw [h, if_pos rfl]
  exact hOf_room (by omega) (by omega)
/-- The cell one farther is a neighbour, and its place is one farther. -/
theorem cvNext {x y a b : Int} (h : ptOk x y = true) (hn : cvPt (cvOf x y + 1) = ((a, b), true)) :
    (a - x) * (a - x) + (b - y) * (b - y) = 1 ∧ cvOf a b = cvOf x y + 1 ∧ ptOk a b = true := by
  have C := cvCrd h
  have hx : 0 ≤ x + 10000000 ∧ x + 10000000 < 33554432 := by omega
  have hy : 0 ≤ y + 10000000 ∧ y + 10000000 < 33554432 := by omega
  have r := hOf_room hx hy
  have e : cvOf x y = hOf 25 (x + 10000000) (y + 10000000) := by unfold cvOf; rw [h, if_pos rfl]
  have bk := hPt_hOf 25 (x + 10000000) (y + 10000000) hx.1 hx.2 hy.1 hy.2
  rw [e] at hn ⊢
  clear e
  generalize hOf 25 (x + 10000000) (y + 10000000) = n at *
  unfold cvPt at hn
  by_cases c : 0 ≤ n + 1 ∧ n + 1 ≤ 1125899906842623
  · rw [if_pos c] at hn
    have s := hPt_next 25 n r.1 (by omega)
    have o := hOf_hPt 25 (n + 1) c.1 (by omega)
    rw [bk] at s
    unfold side at s
    generalize hPt 25 (n + 1) = z at *
    obtain ⟨u, v⟩ := z
    dsimp only at hn s o
    cases k : ptOk (u - 10000000) (v - 10000000)
    · rw [k] at hn
      simp at hn
    · rw [k, if_pos rfl] at hn
      simp only [Prod.mk.injEq, and_true] at hn
      obtain ⟨ha, hb⟩ := hn
      subst ha hb
      refine ⟨?_, ?_, k⟩
      · rw [show u - 10000000 - x = u - (x + 10000000) by omega, show v - 10000000 - y = v - (y + 10000000) by omega]
        exact s
      · unfold cvOf
        rw [k, if_pos rfl, show u - 10000000 + 10000000 = u by omega, show v - 10000000 + 10000000 = v by omega]
        exact o
  · rw [if_neg c] at hn
    simp at hn
/-- Squares that are small. -/
theorem cvSq {s t : Int} (h : s * s + t * t = 1) : wrap64 (s * s) = s * s ∧ wrap64 (t * t) = t * t := by
  have a : 0 ≤ s * s := by rcases Int.le_total 0 s with c | c; exact Int.mul_nonneg c c; exact Int.mul_nonneg_of_nonpos_of_nonpos c c
  have b : 0 ≤ t * t := by rcases Int.le_total 0 t with c | c; exact Int.mul_nonneg c c; exact Int.mul_nonneg_of_nonpos_of_nonpos c c
  generalize s * s = p at *
  generalize t * t = q at *
  unfold wrap64
  omega

set_option maxRecDepth 20000 in
set_option maxHeartbeats 4000000 in
theorem lawCurve (a : Option Addr) (n cap : Nat) (w : World) (hB : Byt w a n) :
    Calls Try.prog 3 #[.slice a n cap] w fun e w' => e = .returned (.bool true) ∧ Below w.heap.size w w' := by
  by_cases hs : n ≤ 1048576
  · have HM : Hid (n ≤ 1048576) := hs
    have hd : decide (1048576 < (n : Int)) = false := decide_eq_false (by omega)
    clear hs
    go_enter Try.func3, Try.ntmps3
    go_wp2_with fail
    refine (bigB_any a n cap _).mono ?_
    rintro e w0 ⟨rfl, rfl⟩
    rw [hd]
    clear hd
    go_wp2_with fail
    refine (drawCurveOf_any a n cap _ hB HM.out).mono ?_
    rintro e w1 ⟨x, y, rfl, B⟩
    clear hB HM
    have X := Box2.new w1 (lo := w0.heap.size) B.size (.int .i64 x) (.int .i64 y) 25
    have N1 := below1 w1 (.cells #[.int .i64 x, .int .i64 y] 25)
    replace B := B.trans (N1.mono B.size)
    clear N1
    obtain ⟨x0, x1, _, _⟩ := id X
    go_wp2_with fail
    generalize hp : w1.heap.size = p at *
    generalize w1.alloc (.cells #[.int .i64 x, .int .i64 y] 25) = W1 at *
    clear hp
    refine (implCurveOf x y _).mono ?_
    rintro e w2 ⟨rfl, hb⟩
    replace B := B.trans (hb.mono B.size)
    replace X := X.below hb
    clear hb x0 x1
    obtain ⟨x0, x1, _, _⟩ := id X
    cases ok : ptOk x y
    · have V : cvOf x y = -1 := by unfold cvOf; rw [ok]; rfl
      rw [V]
      clear V
      go_wp2_with fail
      refine (specPtOk x y _).mono ?_
      rintro e w3 ⟨rfl, hb⟩
      replace B := B.trans (hb.mono B.size)
      clear hb
      rw [ok]
      go_wp2
      go_ret
      exact ⟨rfl, B⟩
    · have K1 := cvBack ok
      have K2 := cvOf_room ok
      have K3 : Hid (∀ a b, cvPt (cvOf x y + 1) = ((a, b), true) → (a - x) * (a - x) + (b - y) * (b - y) = 1 ∧ cvOf a b = cvOf x y + 1 ∧ ptOk a b = true) := fun a b h => cvNext ok h
      have C := cvCrd ok
      generalize cvOf x y = k at *
      go_wp2_with fail
      refine (specPtOk x y _).mono ?_
      rintro e w3 ⟨rfl, hb⟩
      replace B := B.trans (hb.mono B.size)
      replace X := X.below hb
      clear hb x0 x1
      obtain ⟨x0, x1, _, _⟩ := id X
      rw [ok]
      go_wp2_with fail
      refine (implCurvePt k _).mono ?_
      rintro e w4 ⟨rfl, hb⟩
      rw [K1]
      clear K1
      replace B := B.trans (hb.mono B.size)
      replace X := X.below hb
      clear hb x0 x1
      have N1 := below1 w4 (.cells #[.int .i64 x, .int .i64 y] 25)
      have Y := Box2.new w4 (lo := w0.heap.size) B.size (.int .i64 x) (.int .i64 y) 25
      replace B := B.trans (N1.mono B.size)
      replace X := X.below N1
      clear N1
      obtain ⟨x0, x1, _, _⟩ := id X
      obtain ⟨y0, y1, _, _⟩ := id Y
      have k0 : ¬ k < 0 := by omega
      have wk : wrap64 (k + 1) = k + 1 := by unfold wrap64; omega
      go_wp2_with fail
      generalize hp : w4.heap.size = q at *
      generalize w4.alloc (.cells #[.int .i64 x, .int .i64 y] 25) = W5 at *
      clear hp y0 y1 Y
      refine (implCurvePt (k + 1) _).mono ?_
      rintro e w6 ⟨rfl, hb⟩
      replace B := B.trans (hb.mono B.size)
      replace X := X.below hb
      clear hb x0 x1
      obtain ⟨c, hc⟩ : ∃ c, cvPt (k + 1) = c := ⟨_, rfl⟩
      have K4 := K3.out
      clear K3
      rw [hc] at K4 ⊢
      clear hc
      obtain ⟨⟨u, v⟩, is⟩ := c
      dsimp only
      have N1 := below1 w6 (.cells #[.int .i64 u, .int .i64 v] 25)
      have Y := Box2.new w6 (lo := w0.heap.size) B.size (.int .i64 u) (.int .i64 v) 25
      replace B := B.trans (N1.mono B.size)
      replace X := X.below N1
      clear N1
      obtain ⟨x0, x1, _, _⟩ := id X
      obtain ⟨y0, y1, _, _⟩ := id Y
      cases is
      · clear K4
        go_wp2
        go_ret
        exact ⟨rfl, B⟩
      · obtain ⟨S1, S2, S3⟩ := K4 u v rfl
        clear K4
        have D := cvCrd S3
        have e1 : wrap64 (u - x) = u - x := by unfold wrap64; omega
        have e2 : wrap64 (v - y) = v - y := by unfold wrap64; omega
        obtain ⟨e3, e4⟩ := cvSq S1
        have e5 : wrap64 ((u - x) * (u - x) + (v - y) * (v - y)) = 1 := by rw [S1]; unfold wrap64; omega
        clear S1 S3 C D
        go_wp2_with fail
        refine (implCurveOf u v _).mono ?_
        rintro e w7 ⟨rfl, hb⟩
        rw [S2]
        replace B := B.trans (hb.mono B.size)
        clear hb
        go_wp2
        go_ret
        exact ⟨rfl, B⟩
  · have hd : decide (1048576 < (n : Int)) = true := decide_eq_true (by omega)
    go_enter Try.func3, Try.ntmps3
    go_wp2_with fail
    refine (bigB_any a n cap _).mono ?_
    rintro e w0 ⟨rfl, rfl⟩
    rw [hd]
    go_wp2
    go_ret
    exact ⟨rfl, Below.refl _ _⟩
end Go.Proofs.Ytaabgmhjgofdmaa
