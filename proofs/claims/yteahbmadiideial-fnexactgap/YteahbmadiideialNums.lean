/- The laws' helpers on numbers: their copies, their sizes, whether two are equal, their marks. -/
import Derived.Test.YteahbmadiideialEq
namespace Go.Proofs.Yteahbmadiideial
open Go.RowKit

theorem infoU : (Try.prog.info? 67).map (fun i => (i.zero, i.size, i.bytes)) = some (some (.int .u32 0), 1, 4) := by kernel_rfl

theorem eqN (g : Bool) (a b : Option Addr) (c d : Nat) (xs : List Int) (w : World) (h : Sees w a c xs) (k : Sees w b d xs) :
    Calls Try.prog 38 #[.agg #[.bool g, .slice a xs.length c], .agg #[.bool g, .slice b xs.length d]] w fun e w' => e = .returned (.bool true) ∧ Below w.heap.size w w' := by
  go_enter Try.func38, Try.ntmps38
  go_wp2_with (go_at_call 60; refine (eqU a b c d xs _ (h.below ?h1) (k.below ?h2)).mono ?_)
  case h1 => exact ((Below.refl _ _).alloc (Nat.le_refl _) _).alloc (by simp) _
  case h2 => exact ((Below.refl _ _).alloc (Nat.le_refl _) _).alloc (by simp) _
  rintro e w' ⟨rfl, n, rfl⟩
  go_wp2
  go_ret
  exact ⟨rfl, below_drewN (((Below.refl _ _).alloc (Nat.le_refl _) _).alloc (by simp) _) n⟩
theorem markN (base : Nat) (g : Bool) (a : Option Addr) (c : Nat) (xs : List Int) (k : Int) (w : World) (h : Own base w a c xs) (hk : 0 ≤ k) (hs : k + xs.length < 4294967296) :
    Calls Try.prog 39 #[.agg #[.bool g, .slice a xs.length c], .int .i64 k] w fun e w' => e = .returned (.int .i64 (k + xs.length)) ∧ Own base w' a c (marks k xs.length) ∧ w.grownBy w' (rowOf a xs) := by
  go_enter Try.func39, Try.ntmps39
  go_wp2_with (go_at_call 61; refine (markU base a c xs k _ (h.below ?h1) hk hs).mono ?_)
  case h1 => exact (Below.refl _ _).alloc (Nat.le_refl _) _
  rintro e w' ⟨rfl, ho, hg⟩
  go_wp2
  go_ret
  exact ⟨rfl, ho, grownBy_trans (World.grownBy_alloc _ _ _) hg⟩

theorem heldN (g : Bool) (a : Option Addr) (c : Nat) (n : Nat) (k : Int) (w : World) (h : Sees w a c (marks k n)) (hk : 0 ≤ k) (hs : k + n < 4294967296) :
    Calls Try.prog 40 #[.agg #[.bool g, .slice a n c], .int .i64 k] w fun e w' => e = .returned (.int .i64 (k + n)) ∧ Below w.heap.size w w' := by
  have h0 : 0 ≤ k + n := by omega
  go_enter Try.func40, Try.ntmps40
  go_wp2_with (go_at_call 62; refine (heldU a c n k _ (h.below ?h1) hk hs).mono ?_)
  case h1 => exact (Below.refl _ _).alloc (Nat.le_refl _) _
  rintro e w' ⟨rfl, m, rfl⟩
  go_wp2
  go_ret
  exact ⟨rfl, below_drewN ((Below.refl _ _).alloc (Nat.le_refl _) _) m⟩
end Go.Proofs.Yteahbmadiideial
