import Derived.Test.YtmdbndooigcflaaEq
import Derived.Test.YtmdbndooigcflaaLow
import Derived.Test.YtmdbndooigcflaaPtG
import Derived.Test.YtmdbndooigcflaaPtW
/- The laws' marks on a fraction. -/
namespace Go.Proofs.Ytmdbndooigcflaa
open Go.RowKit

set_option maxHeartbeats 1000000 in
theorem markF (base : Nat) (g h : Bool) (a b : Option Addr) (c d : Nat) (xs ys : List Int) (k : Int) (w : World) (h1 : Own base w a c xs) (h2 : Own base w b d ys) (hap : ∀ q off, a = some ⟨q, off, none⟩ → xs ≠ [] → rowOf b ys ≠ some q) (hk : 0 ≤ k) (hs : k + xs.length + ys.length < 4294967296) :
    Calls Try.prog 9 #[.agg #[.bool g, .slice a xs.length c, .bool h, .slice b ys.length d], .int .i64 k] w fun e w' => e = .returned (.int .i64 (k + xs.length + ys.length)) ∧ ∃ wm, w.grownBy wm (rowOf a xs) ∧ wm.grownBy w' (rowOf b ys) ∧ Own base w' a c (marks k xs.length) ∧ Own base w' b d (marks (k + xs.length) ys.length) := by
  have hbs : ∀ q off, b = some ⟨q, off, none⟩ → ys ≠ [] → rowOf a xs ≠ some q := by
    intro q off e1 e2 e3
    unfold rowOf at e3
    split at e3
    · cases e3
    · next hn =>
      obtain ⟨q2, off2, ha, _⟩ := h1.cells hn
      rw [ha] at e3
      simp at e3
      subst e3
      refine hap q2 off2 ha hn ?_
      unfold rowOf
      rw [if_neg e2, e1]
      rfl
  have hb0 := below1 w (.cells #[.bool g, .slice a xs.length c, .bool h, .slice b ys.length d] 28)
  have HG0 : w.grownBy (w.alloc (.cells #[.bool g, .slice a xs.length c, .bool h, .slice b ys.length d] 28)) (rowOf a xs) := World.grownBy_alloc _ _ _
  have rz : some w.heap.size ≠ rowOf a xs := row_ne_high h1.toCame (Nat.le_refl _)
  have HA : Hid (∀ q off, a = some ⟨q, off, none⟩ → xs ≠ [] → rowOf b ys ≠ some q) := hap
  have HB : Hid (∀ q off, b = some ⟨q, off, none⟩ → ys ≠ [] → rowOf a xs ≠ some q) := hbs
  have h1' := h1.below hb0
  have h2' := h2.below hb0
  obtain ⟨v0, v1, v2, v3⟩ := fvar_new w g h a b xs.length ys.length c d 28
  clear h1 h2 hap hbs hb0
  go_enter Try.func9, Try.ntmps9
  go_wp2_with fail
  generalize w.alloc (.cells #[.bool g, .slice a xs.length c, .bool h, .slice b ys.length d] 28) = W at *
  refine (markN base g a c xs k _ h1' hk (by omega)).mono ?_
  rintro e w1 ⟨rfl, o1, g1⟩
  have u2 := g1.cell v2 rz
  have u3 := g1.cell v3 rz
  have o2 := h2'.kept g1 HB.out
  clear h1' h2' v0 v1 v2 v3
  go_wp2_with fail
  refine (markN base h b d ys (k + xs.length) _ o2 (by omega) (by omega)).mono ?_
  rintro e w2 ⟨rfl, o3, g2⟩
  have o1' := o1.kept g2 (fun q off e1 e2 => HA.out q off e1 (by intro e; rw [e] at e2; exact e2 rfl))
  clear u2 u3
  go_wp2
  go_ret
  exact ⟨rfl, w1, grownBy_trans HG0 g1, g2, o1', o3⟩
end Go.Proofs.Ytmdbndooigcflaa

/- A fraction that is held as limbs; what is written into its two rows; the bound of a quotient. -/
namespace Go.Proofs.Ytmdbndooigcflaa
open Go.RowKit

theorem below_two {base : Nat} {w wm w' : World} {a b : Option Addr} {c d : Nat} {xs ys : List Int} (h1 : Own base w a c xs) (h2 : Own base w b d ys) (g1 : w.grownBy wm (rowOf a xs)) (g2 : wm.grownBy w' (rowOf b ys)) (hb : base ≤ w.heap.size) : Below base w w' :=
  (below_of_grown h1 g1 hb).trans ⟨g2.os, g2.tape, g2.output, g2.size, fun i hi => g2.block i (Nat.lt_of_lt_of_le hi (Nat.le_trans hb g1.size)) (row_ne_low h2 hi)⟩
theorem IsFrac.as {b : Nat} {w : World} {v : Value} {n d : Int} (h : IsFrac b w v n d) {zs ts : List Int} (hh : Lim zs ∧ Nrm zs ∧ val zs = mg n ∧ Lim ts ∧ Nrm ts ∧ val ts = mg d) :
    ∃ a c a' c', v = .agg #[.bool (decide (n < 0)), .slice a zs.length c, .bool (decide (d < 0)), .slice a' ts.length c'] ∧ Own b w a c zs ∧ Own b w a' c' ts ∧ Apart a zs a' ts := by
  obtain ⟨a1, c1, qs, a2, c2, rs, e, o1, o2, n1, n2, v1, v2, ap⟩ := h
  obtain ⟨l1, m1, w1, l2, m2, w2⟩ := hh
  obtain rfl : zs = qs := val_inj l1 o1.lim m1 n1 (w1.trans v1.symm)
  obtain rfl : ts = rs := val_inj l2 o2.lim m2 n2 (w2.trans v2.symm)
  exact ⟨a1, c1, a2, c2, e, o1, o2, ap⟩
theorem quot_le {n m : Int} (hm : 0 < m) : mg (n / m) ≤ mg n := by
  have e := Int.mul_ediv_add_emod n m
  have r0 := Int.emod_nonneg n (show m ≠ 0 by omega)
  have r1 := Int.emod_lt_of_pos n hm
  by_cases hn : 0 ≤ n
  · have q0 := Int.ediv_nonneg hn (show 0 ≤ m by omega)
    have q1 := Int.ediv_le_self m hn
    unfold mg
    rw [if_neg (by omega), if_neg (by omega)]
    exact q1
  · have hq : n / m < 0 := Int.ediv_neg_of_neg_of_pos (by omega) hm
    have h11 : n < m * (n / m + 1) := by rw [Int.mul_add, Int.mul_one]; omega
    have h12 : m * (n / m + 1) ≤ 1 * (n / m + 1) := Int.mul_le_mul_of_nonpos_right (by omega) (by omega)
    unfold mg
    rw [if_pos hq, if_pos (by omega)]
    omega
end Go.Proofs.Ytmdbndooigcflaa

/- Bounds of a gap's parts. -/
namespace Go.Proofs.Ytmdbndooigcflaa
open Go.RowKit

theorem mg_of {n : Int} (h : 0 ≤ n) : mg n = n := by unfold mg; rw [if_neg (by omega)]
theorem gq_le {n d m : Int} (h : 0 ≤ n) (hm : n ≤ m) : mg (n / (Int.gcd n d : Int)) ≤ m := by
  by_cases g0 : (Int.gcd n d : Int) = 0
  · rw [g0, Int.ediv_zero]; show (0 : Int) ≤ m; omega
  · have := quot_le (n := n) (m := (Int.gcd n d : Int)) (by omega)
    rw [mg_of h] at this
    omega
theorem g_bounds {ux uy vx vy : Int} (h1 : Dif ux) (h2 : Dif uy) (h3 : Dif vx) (h4 : Dif vy) (h5 : Dif (vx - ux)) (h6 : Dif (vy - uy)) : mg (gN ux uy vx vy) ≤ 640000000000000000000000000000 ∧ mg (gD ux uy vx vy) ≤ 640000000000000000000000000000 := by
  have nn : ∀ z : Int, 0 ≤ z * z := fun z => by
    rcases Int.le_total 0 z with h | h
    · exact Int.mul_nonneg h h
    · have := Int.mul_nonneg (a := -z) (b := -z) (by omega) (by omega); rwa [Int.neg_mul_neg] at this
  have sb : ∀ x y : Int, Dif x → Dif y → 0 ≤ sqq x y ∧ sqq x y ≤ 800000000000000 := by
    intro x y hx hy
    have q1 := hx.mul hx
    have q2 := hy.mul hy
    have q3 := nn x
    have q4 := nn y
    unfold sqq
    omega
  have b1 := sb vx vy h3 h4
  have b2 := sb (vx - ux) (vy - uy) h5 h6
  have b3 := sb ux uy h1 h2
  have m1 := h1.mul h4
  have m2 := h2.mul h3
  have c0 := nn (ux * vy - uy * vx)
  have c2 : -800000000000000 ≤ ux * vy - uy * vx ∧ ux * vy - uy * vx ≤ 800000000000000 := by omega
  have c1 : (ux * vy - uy * vx) * (ux * vy - uy * vx) ≤ 640000000000000000000000000000 := by
    clear m1 m2
    generalize ux * vy - uy * vx = cr at *
    have q1 := Int.mul_nonneg (show 0 ≤ 800000000000000 - cr by omega) (show 0 ≤ 800000000000000 + cr by omega)
    have q2 : (800000000000000 - cr) * (800000000000000 + cr) = 640000000000000000000000000000 - cr * cr := by grind
    omega
  unfold gN gD
  refine ⟨?_, ?_⟩
  · split
    · rw [mg_of b1.1]; omega
    · split
      · rw [mg_of b2.1]; omega
      · exact gq_le c0 c1
  · split
    · decide
    · split
      · decide
      · unfold gqD
        have := gq_le (n := sqq ux uy) (d := (ux * vy - uy * vx) * (ux * vy - uy * vx)) (m := 640000000000000000000000000000) b3.1 (by omega)
        rw [Int.gcd_comm] at this
        exact this
end Go.Proofs.Ytmdbndooigcflaa
