/- The bytes of a shape, of the specification: l8Row, l8Put, PutShape. -/
import Derived.Test.YtlkhbbllkkdhaaaGreatDoorPutS
import Derived.Test.YtlkhbbllkkdhaaaGreatDoorSegS
namespace Go.Proofs.YtlkhbbllkkdhaaaGreatDoor
open Go.RowKit

def clR (cl : Bool) (ps : List (Int × Int)) : List (Int × Int) := if cl then ps ++ ps.take 1 else ps
theorem clR_len {cl : Bool} {ps : List (Int × Int)} (h : 0 < ps.length) : (clR cl ps).length = ps.length + (if cl then 1 else 0) := by
  unfold clR
  cases cl
  · simp
  · simp; omega
theorem clR_at {cl : Bool} {ps : List (Int × Int)} {j : Nat} (h : 0 < ps.length) (hj : j < (clR cl ps).length) : ptA (clR cl ps) j = ptA ps (j % ps.length) := by
  rw [clR_len h] at hj
  unfold clR ptA
  cases cl
  · simp only [Bool.false_eq_true, if_false] at hj ⊢
    rw [Nat.mod_eq_of_lt (by omega)]
  · simp only [if_true] at hj ⊢
    by_cases c : j < ps.length
    · rw [Nat.mod_eq_of_lt c, List.getElem?_append_left c]
    · obtain rfl : j = ps.length := by omega
      rw [Nat.mod_self, List.getElem?_append_right (Nat.le_refl _), Nat.sub_self]
      cases ps with
      | nil => simp at h
      | cons p r => rfl

set_option maxRecDepth 20000 in
set_option maxHeartbeats 2000000 in
theorem l8Row_any (cl : Bool) (a : Option Addr) (c : Nat) (ps : List (Int × Int)) (w : World) (h : SeesP w a c ps) (h0 : 0 < ps.length) (h1 : ps.length ≤ 60) :
    Calls Tryz.prog 27 #[.slice a ps.length c, .bool cl] w fun e w' => ∃ v', e = .returned v' ∧ RowB w.heap.size w' v' (lnB (clR cl ps)) ∧ Below w.heap.size w w' := by
  obtain ⟨i8, hi8, hy0, hy1, hy2⟩ := info_parts infoB
  have hm := h.max
  have hf := h.fits
  unfold maxLen at hm
  have CL := clR_len (cl := cl) h0
  have CA : Hid (∀ j, j < (clR cl ps).length → ptA (clR cl ps) j = ptA ps (j % ps.length)) := fun j hj => clR_at h0 hj
  unfold lnB
  obtain ⟨qs, HQ⟩ : ∃ q, Hid (clR cl ps = q) := ⟨_, rfl⟩
  rw [HQ.out] at CL CA ⊢
  have L61 : qs.length ≤ 61 := by rw [CL]; cases cl <;> simp <;> omega
  have WQ : Hid (IntKind.u64.wrap (qs.length : Int) = qs.length) := by show _ = _; rw [IntKind.wrap_u64]; omega
  have CLH : Hid _ := CL
  clear CL
  have hn0 : (0 : Int) < ps.length := by omega
  go_enter Tryz.func27, Tryz.ntmps27
  cases cl
  · have QI : Hid (((ps.length : Int)) = (qs.length : Int)) := by show _ = _; rw [CLH.out]; push_cast; simp
    go_wp2_with fail
    rw [QI.out]
    refine (l8Bytes_any (qs.length : Int) 4 _ (by omega)).mono ?_
    rintro e w1 ⟨v1, rfl, R1, B1⟩
    rw [WQ.out] at R1
    clear QI CLH HQ WQ
    go_wp2
    go_loopw [6, 7] (fun s6 s7 wr => ∃ j : Nat, j ≤ qs.length ∧ s7 = .int .i64 j ∧ RowB w.heap.size wr s6 (leB 4 qs.length ++ ptsB (qs.take j)) ∧ Below w.heap.size w wr) (fun _ s7 _ => qs.length - (intOf s7).toNat)
    case atStart => exact ⟨0, Nat.zero_le _, rfl, by simpa [ptsB] using R1, B1⟩
    case round =>
      clear R1 B1
      obtain ⟨j, hj, rfl, RR, B⟩ := hrel
      rename World => wr
      by_cases hlt : j < qs.length
      · have CJ := CA.out j hlt
        have PS := ptsB_step hlt
        rw [CJ] at PS
        have hml : j % ps.length < ps.length := Nat.mod_lt _ h0
        have hne : ((j : Nat) : Int) % (ps.length : Int) = ((j % ps.length : Nat) : Int) := by push_cast; rfl
        have LL : (leB 4 qs.length ++ ptsB (qs.take j)).length ≤ 2000 := by rw [List.length_append, leB_len, ptsB_len, List.length_take]; omega
        obtain ⟨b, off, rfl, hc⟩ := (h.below B).cells (by intro e; simp [e] at h0)
        obtain ⟨g1, g2⟩ := hc (j % ps.length) hml
        clear hc CJ
        unfold ptA at PS
        generalize j % ps.length = m at *
        generalize (ps[m]?.getD (0, 0)).1 = x at *
        generalize (ps[m]?.getD (0, 0)).2 = y at *
        generalize HLL : leB 4 qs.length ++ ptsB (qs.take j) = L at *
        go_wp2_with fail
        refine (l8Pt_any x y _).mono ?_
        rintro e w2 ⟨v2, rfl, R2, b2⟩
        have PL := ptB_len x y
        obtain ⟨b4, c4, rfl, _, _⟩ := R2.shape (by intro e; rw [e] at PL; cases PL)
        have RR2 := RR.below b2
        have B2 := B.trans (b2.mono B.size)
        have hb2 := B2.size
        clear RR B b2 g1 g2
        have ML : (ptB x y).length ≤ 16 := by omega
        clear PL
        generalize ptB x y = M at *
        go_wp2_with (at_builtin; (refine wpList_append_own_at _ rfl (.tmp 20) (.tmp 28) 24 rfl w.heap.size 5 i8 (.int .u8 0) 1 1 Tryz.underlying24 hi8 hy0 hy1 hy2 rfl (by decide) u6 (L : List Int).length ((L : List Int).map (Value.int .u8)) rfl RR2 ⟨b4, 0, none⟩ M.length _ ((M : List Int).map (Value.int .u8)) rfl (by simp) R2.news (ones8 _) (by unfold maxLen; omega) (by omega) hb2 ?_; intro v7 w7 R7 G7 _ _; have X7 : Below w.heap.size w w7 := B2.grown G7 hb2 (fun k hk => (World.ownsRow.lt RR2 k hk).1); replace R7 : RowB w.heap.size w7 v7 (L ++ M) := RowB.app R7; clear G7))
        go_roundw
        case rel => exact ⟨j + 1, by omega, by go_num, (by rw [PS, ← List.append_assoc, HLL]; exact R7), X7⟩
        case measure => simp [intOf]; omega
      · obtain rfl : j = qs.length := by omega
        rw [List.take_length] at RR
        go_wp2
        go_ret
        exact ⟨_, rfl, RR, B⟩

  · have QI : Hid (((ps.length : Int) + 1) = (qs.length : Int)) := by show _ = _; rw [CLH.out]; push_cast; simp
    go_wp2_with fail
    rw [QI.out]
    refine (l8Bytes_any (qs.length : Int) 4 _ (by omega)).mono ?_
    rintro e w1 ⟨v1, rfl, R1, B1⟩
    rw [WQ.out] at R1
    clear QI CLH HQ WQ
    go_wp2
    go_loopw [6, 7] (fun s6 s7 wr => ∃ j : Nat, j ≤ qs.length ∧ s7 = .int .i64 j ∧ RowB w.heap.size wr s6 (leB 4 qs.length ++ ptsB (qs.take j)) ∧ Below w.heap.size w wr) (fun _ s7 _ => qs.length - (intOf s7).toNat)
    case atStart => exact ⟨0, Nat.zero_le _, rfl, by simpa [ptsB] using R1, B1⟩
    case round =>
      clear R1 B1
      obtain ⟨j, hj, rfl, RR, B⟩ := hrel
      rename World => wr
      by_cases hlt : j < qs.length
      · have CJ := CA.out j hlt
        have PS := ptsB_step hlt
        rw [CJ] at PS
        have hml : j % ps.length < ps.length := Nat.mod_lt _ h0
        have hne : ((j : Nat) : Int) % (ps.length : Int) = ((j % ps.length : Nat) : Int) := by push_cast; rfl
        have LL : (leB 4 qs.length ++ ptsB (qs.take j)).length ≤ 2000 := by rw [List.length_append, leB_len, ptsB_len, List.length_take]; omega
        obtain ⟨b, off, rfl, hc⟩ := (h.below B).cells (by intro e; simp [e] at h0)
        obtain ⟨g1, g2⟩ := hc (j % ps.length) hml
        clear hc CJ
        unfold ptA at PS
        generalize j % ps.length = m at *
        generalize (ps[m]?.getD (0, 0)).1 = x at *
        generalize (ps[m]?.getD (0, 0)).2 = y at *
        generalize HLL : leB 4 qs.length ++ ptsB (qs.take j) = L at *
        go_wp2_with fail
        refine (l8Pt_any x y _).mono ?_
        rintro e w2 ⟨v2, rfl, R2, b2⟩
        have PL := ptB_len x y
        obtain ⟨b4, c4, rfl, _, _⟩ := R2.shape (by intro e; rw [e] at PL; cases PL)
        have RR2 := RR.below b2
        have B2 := B.trans (b2.mono B.size)
        have hb2 := B2.size
        clear RR B b2 g1 g2
        have ML : (ptB x y).length ≤ 16 := by omega
        clear PL
        generalize ptB x y = M at *
        go_wp2_with (at_builtin; (refine wpList_append_own_at _ rfl (.tmp 20) (.tmp 28) 24 rfl w.heap.size 5 i8 (.int .u8 0) 1 1 Tryz.underlying24 hi8 hy0 hy1 hy2 rfl (by decide) u6 (L : List Int).length ((L : List Int).map (Value.int .u8)) rfl RR2 ⟨b4, 0, none⟩ M.length _ ((M : List Int).map (Value.int .u8)) rfl (by simp) R2.news (ones8 _) (by unfold maxLen; omega) (by omega) hb2 ?_; intro v7 w7 R7 G7 _ _; have X7 : Below w.heap.size w w7 := B2.grown G7 hb2 (fun k hk => (World.ownsRow.lt RR2 k hk).1); replace R7 : RowB w.heap.size w7 v7 (L ++ M) := RowB.app R7; clear G7))
        go_roundw
        case rel => exact ⟨j + 1, by omega, by go_num, (by rw [PS, ← List.append_assoc, HLL]; exact R7), X7⟩
        case measure => simp [intOf]; omega
      · obtain rfl : j = qs.length := by omega
        rw [List.take_length] at RR
        go_wp2
        go_ret
        exact ⟨_, rfl, RR, B⟩

end Go.Proofs.YtlkhbbllkkdhaaaGreatDoor
