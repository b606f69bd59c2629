/- strings.CutPrefix at the sign. -/
import Derived.Test.YtfddiojcahbkfajParse
import Derived.Test.YtfddiojcahbkfajProg
import Derived.WalkLawsBesides
namespace Go.Proofs.Ytfddiojcahbkfaj
open Go.RowKit

theorem head_minus {s : ByteArray} (h : 1 ≤ s.size) : ((s.extract 0 1).toList == [45]) = mnB s := by
  have hl : 0 < s.data.toList.length := by simp; omega
  have e1 : (s.extract 0 1).toList = [s.data.toList[0]] := by
    rw [ByteArray.toList_eq, ByteArray.data_extract, Array.toList_extract]
    simp only [List.extract, List.drop_zero]
    rw [List.take_succ_eq_append_getElem hl]
    simp
  have e2 : (bl s)[0]?.getD 0 = (s.data.toList[0].toNat : Int) := by
    unfold bl
    rw [List.getElem?_map, List.getElem?_eq_getElem hl]
    rfl
  rw [e1]
  unfold mnB
  rw [e2, decide_eq_true (show 0 < s.size by omega), Bool.eq_iff_iff]
  simp
  constructor
  · intro e; rw [e]; rfl
  · intro e
    apply UInt8.toNat.inj
    show s.data[0].toNat = 45
    omega

set_option maxHeartbeats 400000 in
theorem hasMinus (s : ByteArray) (w : World) (hs : s.size ≤ 1048576) :
    Calls Try.prog 66 #[.string s, .string { data := #[45] }] w fun e w' => e = .returned (.bool (mnB s)) ∧ w' = w := by
  by_cases h0 : 1 ≤ s.size
  · have E : Hid (((s.extract 0 1).toList == [45]) = mnB s) := head_minus h0
    go_enter Try.func66, Try.ntmps66
    go_wp2
    go_ret
    exact ⟨by rw [← E.out]; rfl, rfl⟩
  · have E : Hid (mnB s = false) := by show _ = _; unfold mnB; rw [decide_eq_false (by omega)]; rfl
    go_enter Try.func66, Try.ntmps66
    go_wp2
    go_ret
    exact ⟨by rw [E.out]; rfl, rfl⟩

/-- The text behind the sign. -/
def tl (s : ByteArray) : ByteArray := if mnB s = true then s.extract 1 s.size else s
theorem bl_tl (s : ByteArray) : bl (tl s) = pd s := by
  unfold tl pd
  split
  · exact bl_tail s
  · rfl

set_option maxHeartbeats 400000 in
theorem cutMinus' (s : ByteArray) (w : World) (hs : s.size ≤ 1048576) :
    Calls Try.prog 52 #[.string s, .string { data := #[45] }] w fun e w' => e = .returned (.tuple #[.string (tl s), .bool (mnB s)]) ∧ w' = w := by
  cases h : mnB s
  · have E : Hid (tl s = s) := by show _ = _; unfold tl; rw [h]; rfl
    have HH : Hid (mnB s = false) := h
    go_enter Try.func52, Try.ntmps52
    go_wp2_with fail
    refine (hasMinus s _ hs).mono ?_
    rintro e w1 ⟨rfl, rfl⟩
    rw [HH.out]
    go_wp2
    go_ret2
    exact ⟨by rw [E.out]; rfl, rfl⟩
  · have E : Hid (tl s = s.extract 1 s.size) := by show _ = _; unfold tl; rw [h]; rfl
    have HH : Hid (mnB s = true) := h
    have h1 : 1 ≤ s.size := by
      unfold mnB at h
      simp at h
      omega
    go_enter Try.func52, Try.ntmps52
    go_wp2_with fail
    refine (hasMinus s _ hs).mono ?_
    rintro e w1 ⟨rfl, rfl⟩
    rw [HH.out]
    go_wp2
    go_ret2
    exact ⟨by rw [E.out]; rfl, rfl⟩

set_option maxHeartbeats 400000 in
theorem cutMinus (s : ByteArray) (w : World) (hs : s.size ≤ 1048576) :
    Calls Try.prog 30 #[.string s, .string { data := #[45] }] w fun e w' => e = .returned (.tuple #[.string (tl s), .bool (mnB s)]) ∧ w' = w := by
  go_enter Try.func30, Try.ntmps30
  go_wp2_with fail
  refine (cutMinus' s _ hs).mono ?_
  rintro e w1 ⟨rfl, rfl⟩
  go_wp2
  go_ret2
  exact ⟨rfl, rfl⟩
end Go.Proofs.Ytfddiojcahbkfaj
