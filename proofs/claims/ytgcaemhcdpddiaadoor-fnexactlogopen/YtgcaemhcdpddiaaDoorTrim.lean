import Derived.Test.YtgcaemhcdpddiaaDoorBoxP
import Derived.WalkSpells
/- Noughts on top are cut off: impl.trimmed, impl.signed. -/
namespace Go.Proofs.YtgcaemhcdpddiaaDoor
open Go.RowKit

end Go.Proofs.YtgcaemhcdpddiaaDoor

/- Numbers of an int: impl.Of, spec.Of. -/
namespace Go.Proofs.YtgcaemhcdpddiaaDoor
open Go.RowKit

theorem val2 (x y : Int) : val [x, y] = x + 4294967296 * y := by simp [val]

theorem wrap_neg {n : Int} (h1 : -9223372036854775808 ≤ n) (h0 : n < 0) : IntKind.u64.wrap (-IntKind.u64.wrap n) = -n := by
  simp only [IntKind.wrap, IntKind.bits, IntKind.signed]
  simp
  omega

theorem sg_two {n : Int} (_h : ¬ n < 0) : sg false (n % 4294967296 + 4294967296 * (n / 4294967296)) = n := by simp only [sg]; simp; omega
theorem sg_two' {n : Int} (_h : n < 0) : sg true (-n % 4294967296 + 4294967296 * (-n / 4294967296)) = n := by simp only [sg]; simp; omega

end Go.Proofs.YtgcaemhcdpddiaaDoor

/- The program's sums of limbs: impl.addInto, impl.addMag. -/
namespace Go.Proofs.YtgcaemhcdpddiaaDoor
open Go.RowKit

theorem sizeU : (Tryd.prog.info? 102).map (·.size) = some 1 := by kernel_rfl

/-- What is behind the making and the copy: xs, and a nought on top. -/
theorem laid_copy {w : World} {g : Nat} {e : TypeId} {base : Nat} {xs : List Int} (h : w.heap[g]? = some (.cells (splice (List.replicate (xs.length + 1) (Value.int .u32 0)) 0 (xs.map (Value.int .u32))).toArray e (0, 0)))
    (hl : Lim xs) (hm : xs.length + 1 ≤ maxLen) (hb : base ≤ g) : Own base w (some ⟨g, 0, none⟩) (xs.length + 1) (xs ++ [0]) := by
  rw [splice_front xs _ (by omega), show xs.length + 1 - xs.length = 1 by omega] at h
  have := Own.of_heap (base := base) h (hl.append (Lim.zeros 1)) (by simpa using hm) hb
  simpa using this

theorem made_list (n : Nat) : (madeCells (Value.cells (.int .u32 0)) (n * 1)).toList = List.replicate n (Value.int .u32 0) := by
  rw [Nat.mul_one]; exact toList_madeCells_one _ _
theorem Came.all {w : World} {a : Option Addr} {c : Nat} {xs : List Int} (h : Came w a c xs) (hp : 0 < (xs.map (Value.int .u32)).length) :
    ∃ ad, a = some ad ∧ ∀ j v, (xs.map (Value.int .u32))[j]? = some v → w.cell? (ad.add j) = some v := by
  have hne : xs ≠ [] := by intro e; simp [e] at hp
  obtain ⟨b, off, rfl, hc⟩ := h.cells hne
  refine ⟨_, rfl, ?_⟩
  have := h.news (j := xs.length) (Nat.le_refl _)
  rwa [List.take_length] at this

/-- One limb more holds the sum: nothing is carried out of it. -/
theorem sum_exact {xs ys zs : List Int} {cr r : Int} (hx : Lim xs) (hy : Lim ys) (hv : val zs + 4294967296 ^ (xs.length + 1) * cr = val (xs ++ [0]) + val ys) (hz : Lim zs)
    (h0 : 0 ≤ cr) (hxy : ys.length ≤ xs.length) (hr : val xs + val ys = r) : val zs = r := by
  rw [val_snoc, Int.mul_zero, Int.add_zero] at hv
  have h1 := val_lt hx
  have h2 := val_lt hy
  have h3 := p_mono ys.length (xs.length - ys.length)
  rw [show ys.length + (xs.length - ys.length) = xs.length by omega] at h3
  have h4 := val_nonneg hz
  have h5 := p_pos xs.length
  rw [Int.pow_succ] at hv
  by_cases hc : cr = 0
  · subst hc; simp at hv; omega
  · have : 4294967296 ^ xs.length * 4294967296 * 1 ≤ 4294967296 ^ xs.length * 4294967296 * cr := Int.mul_le_mul_of_nonneg_left (by omega) (by omega)
    omega

end Go.Proofs.YtgcaemhcdpddiaaDoor

/- The program's differences of limbs: slices.Clone, impl.takeTimes, impl.subMag. -/
namespace Go.Proofs.YtgcaemhcdpddiaaDoor
open Go.RowKit

end Go.Proofs.YtgcaemhcdpddiaaDoor
