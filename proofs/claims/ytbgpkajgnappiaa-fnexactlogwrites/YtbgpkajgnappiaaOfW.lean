/- Numbers of an int: impl.Of, spec.Of. -/
import Derived.Test.YtbgpkajgnappiaaEq
import Derived.Test.YtbgpkajgnappiaaSNum
namespace Go.Proofs.Ytbgpkajgnappiaa
open Go.RowKit

theorem val2 (x y : Int) : val [x, y] = x + 4294967296 * y := by simp [val]

theorem signed2 (base : Nat) (neg : Bool) (a : Option Addr) (x y : Int) (w : World) (h : Own base w a 2 [x, y]) :
    Calls Try.prog 40 #[.bool neg, .slice a 2 2] w fun e w' => ∃ v, e = .returned v ∧ IsNum base w' v (sg neg (x + 4294967296 * y)) ∧ Below w.heap.size w w' := by
  have := signedC base neg a 2 [x, y] w h
  rw [val2] at this
  exact this
theorem wrap_neg {n : Int} (h1 : -9223372036854775808 ≤ n) (h0 : n < 0) : IntKind.u64.wrap (-IntKind.u64.wrap n) = -n := by
  simp only [IntKind.wrap, IntKind.bits, IntKind.signed]
  simp
  omega

theorem sg_two {n : Int} (_h : ¬ n < 0) : sg false (n % 4294967296 + 4294967296 * (n / 4294967296)) = n := by simp only [sg]; simp; omega
theorem sg_two' {n : Int} (_h : n < 0) : sg true (-n % 4294967296 + 4294967296 * (-n / 4294967296)) = n := by simp only [sg]; simp; omega

set_option maxHeartbeats 1000000 in
theorem implOf (n : Int) (w : World) (h1 : -9223372036854775808 ≤ n) (h2 : n ≤ 9223372036854775807) :
    Calls Try.prog 33 #[.int .i64 n] w fun e w' => ∃ v, e = .returned v ∧ IsNum w.heap.size w' v n ∧ Below w.heap.size w w' := by
  by_cases h0 : n < 0
  · have hw := wrap_neg h1 h0
    have E : Hid (_ = n) := sg_two' h0
    have ho := fun o => Own.lit2 (w.alloc o) 54 (-n % 4294967296) (-n / 4294967296) (by omega) (by omega)
    simp only [World.size_alloc] at ho
    have HO : Hid (∀ o, Own (w.heap.size + 1) ((w.alloc o).alloc (.cells #[.int .u32 (-n % 4294967296), .int .u32 (-n / 4294967296)] 54)) (some ⟨w.heap.size + 1, 0, none⟩) 2 [-n % 4294967296, -n / 4294967296]) := ho
    clear ho
    go_enter Try.func33, Try.ntmps33
    go_wp2_with fail
    refine (signed2 (w.heap.size + 1) true _ _ _ _ (HO.out _)).mono ?_
    rintro e w' ⟨v, rfl, hI, hb⟩
    replace hI := hI.eq E.out
    obtain ⟨g, a', l, c', rfl⟩ := hI.shape
    obtain ⟨q1, q2⟩ := at_block hb (b := w.heap.size) (by simp; omega)
    have hz : w.heap.size < w'.heap.size := by have := hb.size; simp at this; omega
    have hB := (below2 _ _ _).trans (hb.mono (by simp; omega))
    clear hb HO
    go_wp2
    exact bodyPost_ret (v := .agg #[.bool g, .slice a' l c']) (by simp [results, Try.results33, go_sem, q1]) rfl ⟨_, rfl, hI.put (Nat.lt_succ_self _), below_put hB _ _⟩
  · have E : Hid (_ = n) := sg_two h0
    have ho := fun o => Own.lit2 (w.alloc o) 54 (n % 4294967296) (n / 4294967296) (by omega) (by omega)
    simp only [World.size_alloc] at ho
    have HO : Hid (∀ o, Own (w.heap.size + 1) ((w.alloc o).alloc (.cells #[.int .u32 (n % 4294967296), .int .u32 (n / 4294967296)] 54)) (some ⟨w.heap.size + 1, 0, none⟩) 2 [n % 4294967296, n / 4294967296]) := ho
    clear ho
    go_enter Try.func33, Try.ntmps33
    go_wp2_with fail
    refine (signed2 (w.heap.size + 1) false _ _ _ _ (HO.out _)).mono ?_
    rintro e w' ⟨v, rfl, hI, hb⟩
    replace hI := hI.eq E.out
    obtain ⟨g, a', l, c', rfl⟩ := hI.shape
    obtain ⟨q1, q2⟩ := at_block hb (b := w.heap.size) (by simp; omega)
    have hz : w.heap.size < w'.heap.size := by have := hb.size; simp at this; omega
    have hB := (below2 _ _ _).trans (hb.mono (by simp; omega))
    clear hb HO
    go_wp2
    exact bodyPost_ret (v := .agg #[.bool g, .slice a' l c']) (by simp [results, Try.results33, go_sem, q1]) rfl ⟨_, rfl, hI.put (Nat.lt_succ_self _), below_put hB _ _⟩

end Go.Proofs.Ytbgpkajgnappiaa
