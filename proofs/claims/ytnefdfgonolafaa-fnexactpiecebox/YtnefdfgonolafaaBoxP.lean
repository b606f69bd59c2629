import Derived.Test.YtnefdfgonolafaaBoxW
import Derived.BigRegion
/- Lists of points: in memory, their least box. -/
namespace Go.Proofs.Ytnefdfgonolafaa
open Go.RowKit

/-- Points that lie in memory, one behind the other. -/
structure SeesP (w : World) (a : Option Addr) (cap : Nat) (ps : List (Int × Int)) : Prop where
  fits : ps.length ≤ cap
  max : cap ≤ maxLen
  cells : ps ≠ [] → ∃ b off, a = some ⟨b, off, none⟩ ∧ ∀ i, i < ps.length → w.cell? ⟨b, off + i * 2, none⟩ = some (.int .i64 (ps[i]?.getD (0, 0)).1) ∧ w.cell? ⟨b, off + i * 2 + 1, none⟩ = some (.int .i64 (ps[i]?.getD (0, 0)).2)
theorem SeesP.below {w w' : World} {a : Option Addr} {cap : Nat} {ps : List (Int × Int)} (h : SeesP w a cap ps) (hb : Below w.heap.size w w') : SeesP w' a cap ps :=
  ⟨h.fits, h.max, fun hn => by
    obtain ⟨b, off, ha, hc⟩ := h.cells hn
    exact ⟨b, off, ha, fun i hi => ⟨bat hb (hc i hi).1, bat hb (hc i hi).2⟩⟩⟩

def okL (ps : List (Int × Int)) : Bool := ps.all fun p => ptOk p.1 p.2
def bxA (ps : List (Int × Int)) (a : Int) : Int := ps.foldl (fun a p => min a p.1) a
def bxB (ps : List (Int × Int)) (a : Int) : Int := ps.foldl (fun a p => min a p.2) a
def bxC (ps : List (Int × Int)) (a : Int) : Int := ps.foldl (fun a p => max a p.1) a
def bxD (ps : List (Int × Int)) (a : Int) : Int := ps.foldl (fun a p => max a p.2) a
/-- The first point. -/
def hd (ps : List (Int × Int)) : Int × Int := ps[0]?.getD (0, 0)
def bOk (ps : List (Int × Int)) : Bool := !ps.isEmpty && okL ps
def bA (ps : List (Int × Int)) : Int := if bOk ps then bxA ps (hd ps).1 else 0
def bB (ps : List (Int × Int)) : Int := if bOk ps then bxB ps (hd ps).2 else 0
def bC (ps : List (Int × Int)) : Int := if bOk ps then bxC ps (hd ps).1 else 0
def bD (ps : List (Int × Int)) : Int := if bOk ps then bxD ps (hd ps).2 else 0

theorem takeS {ps : List (Int × Int)} {j : Nat} (h : j < ps.length) : ps.take (j + 1) = ps.take j ++ [ps[j]?.getD (0, 0)] := by
  rw [List.take_succ_eq_append_getElem h, List.getElem?_eq_getElem h]
  rfl
theorem okL_step {ps : List (Int × Int)} {j : Nat} (h : j < ps.length) (k : okL (ps.take j) = true) : okL (ps.take (j + 1)) = ptOk (ps[j]?.getD (0, 0)).1 (ps[j]?.getD (0, 0)).2 := by
  rw [takeS h]
  unfold okL at *
  rw [List.all_append, k]
  simp
theorem okL_bad {ps : List (Int × Int)} {j : Nat} (h : j < ps.length) (k : ptOk (ps[j]?.getD (0, 0)).1 (ps[j]?.getD (0, 0)).2 = false) : okL ps = false := by
  unfold okL
  rw [List.all_eq_false]
  refine ⟨ps[j], List.getElem_mem h, ?_⟩
  rw [List.getElem?_eq_getElem h] at k
  simpa using k
theorem f_step {ps : List (Int × Int)} {j : Nat} (h : j < ps.length) (a : Int) :
    bxA (ps.take (j + 1)) a = min (bxA (ps.take j) a) (ps[j]?.getD (0, 0)).1 ∧ bxB (ps.take (j + 1)) a = min (bxB (ps.take j) a) (ps[j]?.getD (0, 0)).2 ∧ bxC (ps.take (j + 1)) a = max (bxC (ps.take j) a) (ps[j]?.getD (0, 0)).1 ∧ bxD (ps.take (j + 1)) a = max (bxD (ps.take j) a) (ps[j]?.getD (0, 0)).2 := by
  rw [takeS h]
  unfold bxA bxB bxC bxD
  simp [List.foldl_append]
theorem b_bad {ps : List (Int × Int)} (h : bOk ps = false) : bA ps = 0 ∧ bB ps = 0 ∧ bC ps = 0 ∧ bD ps = 0 := by
  unfold bA bB bC bD
  rw [h]
  exact ⟨rfl, rfl, rfl, rfl⟩
theorem b_good {ps : List (Int × Int)} (h : bOk ps = true) : bA ps = bxA ps (hd ps).1 ∧ bB ps = bxB ps (hd ps).2 ∧ bC ps = bxC ps (hd ps).1 ∧ bD ps = bxD ps (hd ps).2 := by
  unfold bA bB bC bD
  rw [h]
  exact ⟨rfl, rfl, rfl, rfl⟩
end Go.Proofs.Ytnefdfgonolafaa

/- Overlaps, points in boxes, boxes in boxes. -/
namespace Go.Proofs.Ytnefdfgonolafaa
open Go.RowKit

def ovl (a b c d m n r s : Int) : Bool := boxOk a b c d && (boxOk m n r s && (decide (a ≤ r) && (decide (m ≤ c) && (decide (b ≤ s) && decide (n ≤ d)))))
def inX (a b c d x y : Int) : Bool := boxOk a b c d && (ptOk x y && (inB x a c && inB y b d))
theorem boxOk_le {a b c d : Int} (h : boxOk a b c d = true) : a ≤ c ∧ b ≤ d := by unfold boxOk at h; simp at h; exact h.2.2
theorem boxOk_crd {a b c d : Int} (h : boxOk a b c d = true) : Crd a ∧ Crd b ∧ Crd c ∧ Crd d := by
  unfold boxOk ptOk at h
  simp only [Bool.and_eq_true, inB_true] at h
  unfold Crd
  omega
theorem ovl_rng (a b c d m n r s : Int) : ovl a b c d m n r s = (boxOk a b c d && (boxOk m n r s && (rng a c m r && rng b d n s))) := by
  unfold ovl
  cases h1 : boxOk a b c d
  · rfl
  · cases h2 : boxOk m n r s
    · rfl
    · have := boxOk_le h1
      have := boxOk_le h2
      rw [Bool.eq_iff_iff]
      simp [rng]
      omega
theorem boxOk_pt (x y : Int) : boxOk x y x y = ptOk x y := by unfold boxOk; cases ptOk x y <;> simp
theorem ovl_pt (a b c d x y : Int) : ovl a b c d x y x y = inX a b c d x y := by
  unfold ovl inX
  rw [boxOk_pt]
  cases h1 : boxOk a b c d
  · rfl
  · cases h2 : ptOk x y
    · rfl
    · rw [Bool.eq_iff_iff]
      simp [inB]
      omega

end Go.Proofs.Ytnefdfgonolafaa

/- A box that grows in place. -/
namespace Go.Proofs.Ytnefdfgonolafaa
open Go.RowKit

theorem grownBy_draw {w w' : World} {row : Option Nat} (h : w.grownBy w' row) : w.grownBy w'.drew row := grownBy_drewN h 1
theorem Box4.drew {lo p : Nat} {w : World} {x0 x1 x2 x3 : Value} (h : Box4 lo w p x0 x1 x2 x3) : Box4 lo w.drew p x0 x1 x2 x3 := ⟨h.c0, h.c1, h.c2, h.c3, h.fr, h.lo⟩
theorem Box4.as {lo p : Nat} {w : World} {a b c d a' b' c' d' : Int} (h : Box4 lo w p (.int .i64 a) (.int .i64 b) (.int .i64 c) (.int .i64 d)) (e1 : a = a') (e2 : b = b') (e3 : c = c') (e4 : d = d') :
    Box4 lo w p (.int .i64 a') (.int .i64 b') (.int .i64 c') (.int .i64 d') := by subst e1 e2 e3 e4; exact h

set_option maxHeartbeats 4000000 in
theorem reach_any (lo p : Nat) (a b c d x y : Int) (w : World) (P : Box4 lo w p (.int .i64 a) (.int .i64 b) (.int .i64 c) (.int .i64 d)) :
    Calls Try.prog 34 #[.pointer (some ⟨p, 0, none⟩), .agg #[.int .i64 x, .int .i64 y]] w fun e w' => e = .returned (.tuple #[]) ∧ Box4 lo w' p (.int .i64 (min a x)) (.int .i64 (min b y)) (.int .i64 (max c x)) (.int .i64 (max d y)) ∧ w.grownBy w' (some p) := by
  have k0 := ptbox1 w x y 31
  have B0 := ptbelow1 w x y 31
  have G : w.grownBy (w.alloc (.cells #[.int .i64 x, .int .i64 y] 31)) (some p) := World.grownBy_alloc _ _ _
  have hp := P.lt
  replace P := P.below B0
  have hp' : w.heap.size ≠ p := by omega
  go_enter Try.func34, Try.ntmps34
  go_wp2_with fail
  generalize (w.alloc (.cells #[.int .i64 x, .int .i64 y] 31)) = W0 at *
  have Q := P
  obtain ⟨c0, c1, c2, c3, cf, _⟩ := P
  obtain ⟨k1, k2⟩ := k0
  go_region
  clear c0 c1 c2 c3 cf
  have j1 := (put_old2 (o := 0) hp' (.int .i64 (if x < a then x else a)) (.int .i64 (if y < b then y else b))).trans k1
  have j2 := (put_old2 (o := 1) hp' (.int .i64 (if x < a then x else a)) (.int .i64 (if y < b then y else b))).trans k2
  clear k1 k2 B0
  replace Q := (Q.putLo (.int .i64 (if x < a then x else a)) (.int .i64 (if y < b then y else b)))
  replace G := (grownBy_setCell (grownBy_setCell G (p := ⟨p, 0, none⟩) rfl (.int .i64 (if x < a then x else a))) (p := ⟨p, 1, none⟩) rfl (.int .i64 (if y < b then y else b)))
  generalize (W0.setCell ⟨p, 0, none⟩ (.int .i64 (if x < a then x else a))).setCell ⟨p, 1, none⟩ (.int .i64 (if y < b then y else b)) = W1 at *
  have E1 : Hid ((if x < a then x else a) = min a x) := by show (if x < a then x else a) = min a x; split <;> omega
  have E2 : Hid ((if y < b then y else b) = min b y) := by show (if y < b then y else b) = min b y; split <;> omega
  have E3 : (if c < x then x else c) = max c x := by split <;> omega
  have E4 : (if d < y then y else d) = max d y := by split <;> omega
  rw [E1.out, E2.out] at Q ⊢
  have F3 : Hid ((if c < x then x else c) = max c x) := E3
  have F4 : Hid ((if d < y then y else d) = max d y) := E4
  clear E1 E2 E3 E4
  have i1 : W1.drew.cell? ⟨w.heap.size, 0, none⟩ = some (.int .i64 x) := j1
  have i2 : W1.drew.cell? ⟨w.heap.size, 1, none⟩ = some (.int .i64 y) := j2
  replace Q := Q.drew
  replace G := grownBy_draw G
  clear j1 j2
  generalize W1.drew = W2 at *
  have Q2 := Q
  obtain ⟨c0, c1, c2, c3, cf, _⟩ := Q
  go_wp2_with fail
  go_region
  rw [F3.out, F4.out]
  go_wp2_with fail
  exact bodyPost_end (results_none Try.results34 _ _ _) rfl ⟨rfl, (Q2.putHi (.int .i64 (max c x)) (.int .i64 (max d y))).drew, grownBy_draw (grownBy_setCell (grownBy_setCell G (p := ⟨p, 2, none⟩) rfl (.int .i64 (max c x))) (p := ⟨p, 3, none⟩) rfl (.int .i64 (max d y)))⟩

end Go.Proofs.Ytnefdfgonolafaa

/- A box that takes another one in; the program's Join. -/
namespace Go.Proofs.Ytnefdfgonolafaa
open Go.RowKit

def jA (a b c d m n r s : Int) : Int := if boxOk m n r s then (if boxOk a b c d then min a m else m) else a
def jB (a b c d m n r s : Int) : Int := if boxOk m n r s then (if boxOk a b c d then min b n else n) else b
def jC (a b c d m n r s : Int) : Int := if boxOk m n r s then (if boxOk a b c d then max c r else r) else c
def jD (a b c d m n r s : Int) : Int := if boxOk m n r s then (if boxOk a b c d then max d s else s) else d
def oA (a b c d m n r s : Int) : Int := if boxOk a b c d || boxOk m n r s then jA a b c d m n r s else 0
def oB (a b c d m n r s : Int) : Int := if boxOk a b c d || boxOk m n r s then jB a b c d m n r s else 0
def oC (a b c d m n r s : Int) : Int := if boxOk a b c d || boxOk m n r s then jC a b c d m n r s else 0
def oD (a b c d m n r s : Int) : Int := if boxOk a b c d || boxOk m n r s then jD a b c d m n r s else 0
theorem crd_boxOk {a b c d : Int} (h1 : Crd a) (h2 : Crd b) (h3 : Crd c) (h4 : Crd d) (h5 : a ≤ c) (h6 : b ≤ d) : boxOk a b c d = true := by
  unfold boxOk ptOk
  simp only [Bool.and_eq_true, inB_true, decide_eq_true_eq]
  exact ⟨⟨h1, h2⟩, ⟨h3, h4⟩, h5, h6⟩
theorem crd_min {a b : Int} (h : Crd a) (k : Crd b) : Crd (min a b) := by unfold Crd at *; omega
theorem crd_max {a b : Int} (h : Crd a) (k : Crd b) : Crd (max a b) := by unfold Crd at *; omega
theorem joined_ok (a b c d m n r s : Int) : boxOk (jA a b c d m n r s) (jB a b c d m n r s) (jC a b c d m n r s) (jD a b c d m n r s) = (boxOk a b c d || boxOk m n r s) := by
  unfold jA jB jC jD
  cases h1 : boxOk a b c d <;> cases h2 : boxOk m n r s
  · simpa using h1
  · simpa using h2
  · simpa using h1
  · obtain ⟨p1, p2, p3, p4⟩ := boxOk_crd h1
    obtain ⟨q1, q2, q3, q4⟩ := boxOk_crd h2
    have := boxOk_le h1
    have := boxOk_le h2
    simp only [if_true, Bool.true_or]
    exact crd_boxOk (crd_min p1 q1) (crd_min p2 q2) (crd_max p3 q3) (crd_max p4 q4) (by omega) (by omega)
theorem grow_b {w w' : World} {row : Option Nat} (h : Below w.heap.size w w') : w.grownBy w' row := ⟨h.os, h.tape, h.output, h.size, fun k hk _ => h.block k hk⟩
theorem Box4.grown {lo p q : Nat} {w w' : World} {x0 x1 x2 x3 : Value} (h : Box4 lo w q x0 x1 x2 x3) (g : w.grownBy w' (some p)) (ne : q ≠ p) : Box4 lo w' q x0 x1 x2 x3 := by
  obtain ⟨hc, hf⟩ := grown_at g h.lt (by simpa using ne)
  exact ⟨(hc 0).trans h.c0, (hc 1).trans h.c1, (hc 2).trans h.c2, (hc 3).trans h.c3, fun o => (hf o).trans (h.fr o), h.lo⟩

end Go.Proofs.Ytnefdfgonolafaa

/- The least box of a list of points: of the program. -/
namespace Go.Proofs.Ytnefdfgonolafaa
open Go.RowKit

theorem SeesP.grown {w w' : World} {b0 o0 p cap : Nat} {ps : List (Int × Int)} (h : SeesP w (some ⟨b0, o0, none⟩) cap ps) (hg : w.grownBy w' (some p)) (ne : b0 ≠ p) : SeesP w' (some ⟨b0, o0, none⟩) cap ps :=
  ⟨h.fits, h.max, fun hn => by
    obtain ⟨b, off, ha, hc⟩ := h.cells hn
    simp only [Option.some.injEq, Addr.mk.injEq] at ha
    obtain ⟨rfl, rfl, _⟩ := ha
    refine ⟨b0, o0, rfl, fun i hi => ?_⟩
    have hl : b0 < w.heap.size := World.block_lt_of_cell? _ _ (hc i hi).1
    obtain ⟨q, _⟩ := grown_at hg hl (by simpa using ne)
    exact ⟨(q _).trans (hc i hi).1, (q _).trans (hc i hi).2⟩⟩

set_option maxHeartbeats 4000000 in
theorem implBoxOf (a : Option Addr) (cap : Nat) (ps : List (Int × Int)) (w : World) (h : SeesP w a cap ps) :
    Calls Try.prog 18 #[.slice a ps.length cap] w fun e w' => e = .returned (.tuple #[.agg #[.int .i64 (bA ps), .int .i64 (bB ps), .int .i64 (bC ps), .int .i64 (bD ps)], .bool (bOk ps)]) ∧ Below w.heap.size w w' := by
  have hm := h.max
  have hf := h.fits
  unfold maxLen at hm
  by_cases hn : ps.length = 0
  · obtain rfl : ps = [] := List.eq_nil_of_length_eq_zero hn
    clear h hf hn
    go_enter Try.func18, Try.ntmps18
    go_wp2
    exact bodyPost_ret (v := .tuple #[.agg #[.int .i64 0, .int .i64 0, .int .i64 0, .int .i64 0], .bool false]) (by simp [results, Try.results18, go_sem]) rfl ⟨rfl, below1 _ _⟩
  · obtain ⟨b0, o0, rfl, hc⟩ := h.cells (by intro e; simp [e] at hn)
    obtain ⟨g1, g2⟩ := hc 0 (by omega)
    have hlt : b0 < w.heap.size := World.block_lt_of_cell? _ _ g1
    have hpos : 0 < ps.length := by omega
    obtain ⟨x0, hx⟩ : ∃ x, Hid ((hd ps).1 = x) := ⟨_, rfl⟩
    obtain ⟨y0, hy⟩ : ∃ y, Hid ((hd ps).2 = y) := ⟨_, rfl⟩
    have E1 : (ps[0]?.getD (0, 0)).1 = x0 := hx.out
    have E2 : (ps[0]?.getD (0, 0)).2 = y0 := hy.out
    rw [E1] at g1
    rw [E2] at g2
    simp only [Nat.zero_mul, Nat.add_zero] at g1 g2
    have B := below1 w (.cells #[.int .i64 0, .int .i64 0, .int .i64 0, .int .i64 0] 33)
    have P0 := Box4.new w (Nat.le_refl _) (.int .i64 0) (.int .i64 0) (.int .i64 0) (.int .i64 0) 33
    replace h := h.below B
    have hn0 : ((ps.length : Int) == 0) = false := by simpa using hn
    clear hc E1 E2 hn
    go_enter Try.func18, Try.ntmps18
    go_wp2_with fail
    refine (boxAt_any _ _ _).mono ?_
    rintro e w1 ⟨rfl, hb⟩
    replace B := B.trans (hb.mono B.size)
    replace h := h.below hb
    replace P0 := P0.below hb
    clear hb g1 g2
    have P1 := Box4.new w1 (lo := w.heap.size) B.size (.int .i64 x0) (.int .i64 y0) (.int .i64 x0) (.int .i64 y0) 33
    have bn := below1 w1 (.cells #[.int .i64 x0, .int .i64 y0, .int .i64 x0, .int .i64 y0] 33)
    have hq : w.heap.size < w1.heap.size := P0.lt
    replace h := h.below bn
    replace P0 := P0.below bn
    replace B := B.trans (bn.mono B.size)
    clear bn
    go_wp2_with fail
    generalize hQ : w1.heap.size = q at *
    generalize w1.alloc (.cells #[.int .i64 x0, .int .i64 y0, .int .i64 x0, .int .i64 y0] 33) = W1 at *
    clear hQ
    go_loopw [6, 17] (fun v i wr => ∃ j : Nat, j ≤ ps.length ∧ i = .int .i64 j ∧ Box4 w.heap.size wr q (.int .i64 (bxA (ps.take j) x0)) (.int .i64 (bxB (ps.take j) y0)) (.int .i64 (bxC (ps.take j) x0)) (.int .i64 (bxD (ps.take j) y0)) ∧ Box4 w.heap.size wr w.heap.size (.int .i64 0) (.int .i64 0) (.int .i64 0) (.int .i64 0) ∧ SeesP wr (some ⟨b0, o0, none⟩) cap ps ∧ Hid (okL (ps.take j) = true) ∧ Below w.heap.size w wr) (fun _ i _ => ps.length - (intOf i).toNat)
    case atStart => exact ⟨0, Nat.zero_le _, rfl, P1, P0, h, (rfl : okL (ps.take 0) = true), B⟩
    case round =>
      clear P1 P0 h B
      obtain ⟨j, hj, rfl, P1, P0, h, hk, B⟩ := hrel
      by_cases hlt' : j < ps.length
      · skip
        obtain ⟨b1, o1, e, hc⟩ := h.cells (by intro e; simp [e] at hpos)
        simp only [Option.some.injEq, Addr.mk.injEq] at e
        obtain ⟨rfl, rfl, _⟩ := e
        obtain ⟨g1, g2⟩ := hc j hlt'
        obtain ⟨x, ux⟩ : ∃ x, Hid ((ps[j]?.getD (0, 0)).1 = x) := ⟨_, rfl⟩
        obtain ⟨y, uy⟩ : ∃ y, Hid ((ps[j]?.getD (0, 0)).2 = y) := ⟨_, rfl⟩
        rw [ux.out] at g1
        rw [uy.out] at g2
        clear hc
        rename_i wr _ _
        have Q1 := P1
        have K := Box2.new wr (lo := w.heap.size) B.size (.int .i64 x) (.int .i64 y) 31
        have bn := below1 wr (.cells #[.int .i64 x, .int .i64 y] 31)
        replace h := h.below bn
        replace P0 := P0.below bn
        replace P1 := P1.below bn
        replace B := B.trans (bn.mono B.size)
        clear bn
        have hlt2 : wr.heap.size < (wr.alloc (.cells #[.int .i64 x, .int .i64 y] 31)).heap.size := by simp
        have hqr : wr.heap.size ≠ q := by
          have := Q1.lt
          omega
        go_wp2_with fail
        generalize wr.alloc (.cells #[.int .i64 x, .int .i64 y] 31) = W2 at *
        refine (implPtOk _ _ _).mono ?_
        rintro e w3 ⟨rfl, hb⟩
        replace h := h.below hb
        replace P0 := P0.below hb
        replace P1 := P1.below hb
        replace K := K.below hb
        replace B := B.trans (hb.mono B.size)
        clear hb g1 g2
        cases hk2 : ptOk x y
        · skip
          have hbad := okL_bad hlt' (by rw [ux.out, uy.out]; exact hk2)
          have hb0 : bOk ps = false := by unfold bOk; rw [hbad]; simp
          obtain ⟨e1, e2, e3, e4⟩ := b_bad hb0
          obtain ⟨d0, d1, d2, d3, df, _⟩ := id P0
          go_wp2
          rw [e1, e2, e3, e4, hb0]
          exact bodyPost_ret (v := .tuple #[.agg #[.int .i64 0, .int .i64 0, .int .i64 0, .int .i64 0], .bool false]) (by simp [results, Try.results18, go_sem, d0, d1, d2, d3]) rfl ⟨rfl, (((B.setCell (by simp) _).setCell (by simp) _).setCell (by simp) _).setCell (by simp) _⟩
        · obtain ⟨k1, k2, _, _⟩ := id K
          go_wp2_with fail
          refine (reach_any _ _ _ _ _ _ _ _ _ P1).mono ?_
          rintro e w4 ⟨rfl, P4, gg⟩
          replace B := B.grown gg B.size (fun k hk => by injection hk with hk; subst hk; omega)
          replace P0 := P0.grown gg (by omega)
          replace h := h.grown gg (by omega)
          clear gg P1 K k1 k2
          obtain ⟨f1, _, f3, _⟩ := f_step hlt' x0
          obtain ⟨_, f2, _, f4⟩ := f_step hlt' y0
          have F : Hid (bxA (ps.take (j + 1)) x0 = min (bxA (ps.take j) x0) x ∧ bxB (ps.take (j + 1)) y0 = min (bxB (ps.take j) y0) y ∧ bxC (ps.take (j + 1)) x0 = max (bxC (ps.take j) x0) x ∧ bxD (ps.take (j + 1)) y0 = max (bxD (ps.take j) y0) y) := by
            rw [ux.out] at f1 f3
            rw [uy.out] at f2 f4
            exact ⟨f1, f2, f3, f4⟩
          have OK : Hid (okL (ps.take (j + 1)) = true) := by
            show _ = true
            rw [okL_step hlt' hk.out, ux.out, uy.out, hk2]
          clear f1 f2 f3 f4
          go_wp2_with fail
          go_roundw
          case rel =>
            obtain ⟨f1, f2, f3, f4⟩ := F.out
            exact ⟨j + 1, by omega, by go_num, P4.as f1.symm f2.symm f3.symm f4.symm, P0, h, OK, B⟩
          case measure => simp [intOf]; omega
      · skip
        have hje : j = ps.length := by omega
        subst hje
        rw [List.take_length] at P1 hk
        have hgood : bOk ps = true := by unfold bOk; rw [hk.out]; cases ps with | nil => simp at hpos | cons => rfl
        obtain ⟨e1, e2, e3, e4⟩ := b_good hgood
        rw [hx.out] at e1 e3
        rw [hy.out] at e2 e4
        obtain ⟨d0, d1, d2, d3, df, _⟩ := id P0
        obtain ⟨c0, c1, c2, c3, cf, _⟩ := id P1
        go_wp2
        rw [e1, e2, e3, e4, hgood]
        exact bodyPost_ret (v := .tuple #[.agg #[.int .i64 (bxA ps x0), .int .i64 (bxB ps y0), .int .i64 (bxC ps x0), .int .i64 (bxD ps y0)], .bool true]) (by simp [results, Try.results18, go_sem, d0, d1, d2, d3]) rfl ⟨rfl, (((B.setCell (by simp) _).setCell (by simp) _).setCell (by simp) _).setCell (by simp) _⟩

end Go.Proofs.Ytnefdfgonolafaa
