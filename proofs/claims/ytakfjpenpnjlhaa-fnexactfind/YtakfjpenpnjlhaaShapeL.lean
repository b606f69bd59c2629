/- Shapes in memory; the laws' helpers on them: their sizes, their copies, whether two are equal. -/
import Derived.Test.YtakfjpenpnjlhaaPtsL
namespace Go.Proofs.Ytakfjpenpnjlhaa
open Go.RowKit

/-- A row of a shape. -/
def rowA (rs : List (List (Int × Int))) (i : Nat) : List (Int × Int) := rs[i]?.getD []
/-- Rows of points that lie in memory. -/
structure SeesS (w : World) (a : Option Addr) (cap : Nat) (rs : List (List (Int × Int))) : Prop where
  fits : rs.length ≤ cap
  max : cap ≤ maxLen
  cells : rs ≠ [] → ∃ b off, a = some ⟨b, off, none⟩ ∧ ∀ i, i < rs.length → ∃ a' c', w.cell? ⟨b, off + i, none⟩ = some (.slice a' (rowA rs i).length c') ∧ SeesP w a' c' (rowA rs i)
theorem SeesS.below {w w' : World} {a : Option Addr} {cap : Nat} {rs : List (List (Int × Int))} (h : SeesS w a cap rs) (hb : Below w.heap.size w w') : SeesS w' a cap rs :=
  ⟨h.fits, h.max, fun hn => by
    obtain ⟨b, off, ha, hc⟩ := h.cells hn
    exact ⟨b, off, ha, fun i hi => by obtain ⟨a', c', h1, h2⟩ := hc i hi; exact ⟨a', c', bat hb h1, h2.below hb⟩⟩⟩
/-- How many rows and points there are, up to a row. -/
def upto (rs : List (List (Int × Int))) : Nat → Nat
  | 0 => rs.length
  | j + 1 => upto rs j + (rowA rs j).length
theorem upto_le (rs : List (List (Int × Int))) (j d : Nat) : upto rs j ≤ upto rs (j + d) := by
  induction d with
  | zero => exact Nat.le_refl _
  | succ d ih => rw [← Nat.add_assoc]; simp only [upto]; omega
theorem row_le (rs : List (List (Int × Int))) {i n : Nat} (h : i < n) : (rowA rs i).length + rs.length ≤ upto rs n := by
  have h1 := upto_le rs (i + 1) (n - (i + 1))
  rw [show i + 1 + (n - (i + 1)) = n by omega] at h1
  have h2 := upto_le rs 0 i
  simp only [upto, Nat.zero_add] at h1 h2
  omega

set_option maxHeartbeats 1000000 in
theorem szRows (a : Option Addr) (c : Nat) (rs : List (List (Int × Int))) (left : Int) (w : World) (h : SeesS w a c rs) (hl : 0 ≤ left ∧ left ≤ 1048576) :
    Calls Try.prog 38 #[.slice a rs.length c, .int .i64 left] w fun e w' => ∃ z : Int, e = .returned (.int .i64 z) ∧ (z = -1 ∨ (0 ≤ z ∧ z + (upto rs rs.length : Nat) = left)) ∧ w' = w := by
  obtain ⟨h1, h2⟩ := hl
  have hm := h.max
  have hf := h.fits
  unfold maxLen at hm
  by_cases hc : left - rs.length < 0
  · go_enter Try.func38, Try.ntmps38
    go_wp2
    go_ret
    exact ⟨-1, rfl, .inl rfl, rfl⟩
  · have hc' : 0 ≤ left - rs.length := by omega
    go_enter Try.func38, Try.ntmps38
    go_wp2
    go_loop [1, 5] (fun s1 s5 => ∃ (j : Nat) (z : Int), j ≤ rs.length ∧ s5 = .int .i64 j ∧ s1 = .int .i64 z ∧ 0 ≤ z ∧ z ≤ 1048576 ∧ Hid (z + (upto rs j : Nat) = left)) (fun _ s5 => rs.length - (intOf s5).toNat)
    case atStart => exact ⟨0, _, Nat.zero_le _, rfl, rfl, hc', by omega, by show _ = _; simp only [upto]; omega⟩
    case round =>
      obtain ⟨j, z, hj, rfl, rfl, z0, z1, he⟩ := hrel
      by_cases hlt : j < rs.length
      · obtain ⟨b, off, rfl, hc⟩ := h.cells (by intro e; simp [e] at hlt)
        obtain ⟨a', c', g1, sp⟩ := hc j hlt
        have spm := sp.max
        have spf := sp.fits
        unfold maxLen at spm
        have HE : Hid (upto rs (j + 1) = upto rs j + (rowA rs j).length) := rfl
        clear hc sp
        generalize (rowA rs j).length = m at *
        by_cases hz : z - m < 0
        · go_wp2_with (go_at_call 49; refine (szPts _ _ _ _ _ ⟨z0, z1⟩ (by omega)).mono ?_; rintro e w' ⟨rfl, rfl⟩; rw [if_pos hz])
          go_ret
          exact ⟨-1, rfl, .inl rfl, rfl⟩
        · have hz' : 0 ≤ z - m := by omega
          go_wp2_with (go_at_call 49; refine (szPts _ _ _ _ _ ⟨z0, z1⟩ (by omega)).mono ?_; rintro e w' ⟨rfl, rfl⟩; rw [if_neg hz])
          go_round
          case rel => exact ⟨j + 1, z - m, by omega, by go_num, rfl, hz', by omega, by have := he.out; have := HE.out; show _ = _; omega⟩
          case measure => simp [intOf]; omega
      · obtain rfl : j = rs.length := by omega
        have HE := he
        clear he
        go_wp2
        go_ret
        exact ⟨z, rfl, .inr ⟨z0, HE.out⟩, rfl⟩

set_option maxHeartbeats 1000000 in
theorem szShape_any (k : Int) (a : Option Addr) (c : Nat) (rs : List (List (Int × Int))) (left : Int) (w : World) (h : SeesS w a c rs) (hl : 0 ≤ left ∧ left ≤ 1048576) :
    Calls Try.prog 22 #[.agg #[.int .i64 k, .slice a rs.length c], .int .i64 left] w fun e w' => ∃ z : Int, e = .returned (.int .i64 z) ∧ (z = -1 ∨ (0 ≤ z ∧ z + (upto rs rs.length : Nat) = left)) ∧ Below w.heap.size w w' := by
  have bn := below1 w (.cells #[.int .i64 k, .slice a rs.length c] 24)
  go_enter Try.func22, Try.ntmps22
  go_wp2_with fail
  refine (szRows a c rs left _ (h.below bn) hl).mono ?_
  rintro e w1 ⟨z, rfl, hz, rfl⟩
  have HZ : Hid (z = -1 ∨ (0 ≤ z ∧ z + (upto rs rs.length : Nat) = left)) := hz
  by_cases h0 : z < 0
  · clear hz
    go_wp2
    go_ret
    exact ⟨-1, rfl, .inl rfl, bn⟩
  · have h0' : 0 ≤ z := by omega
    clear hz
    go_wp2
    go_ret
    exact ⟨z, rfl, HZ.out, bn⟩
end Go.Proofs.Ytakfjpenpnjlhaa
