/- The segments of a shape: of the program (segmentsOf, allSegments, Segments). -/
import Derived.Test.YthafhfdhahbdoaaSegS
import Derived.Test.YthafhfdhahbdoaaGoodI
namespace Go.Proofs.Ythafhfdhahbdoaa
open Go.RowKit

theorem SeesQ.cut {w : World} {a : Option Addr} {c : Nat} {es : List Sg} (h : SeesQ w a c es) (m : Nat) : SeesQ w a c (es.take m) :=
  ⟨by rw [List.length_take]; have := h.fits; omega, h.max, fun hn => by
    obtain ⟨b, off, ha, hc⟩ := h.cells (by intro e; rw [e] at hn; simp at hn)
    refine ⟨b, off, ha, fun i hi => ?_⟩
    rw [List.length_take] at hi
    have e : sgA (es.take m) i = sgA es i := by unfold sgA; rw [List.getElem?_take_of_lt (by omega)]
    rw [e]
    exact hc i (by omega)⟩

set_option maxRecDepth 20000 in
set_option maxHeartbeats 2000000 in
theorem segmentsOf1 (vv : Value) (a : Option Addr) (c : Nat) (ps : List (Int × Int)) (w : World) (h : SeesP w a c ps) (n2 : ps.length ≤ 60) :
    Calls Try.prog 74 #[.iface 102 (.agg #[vv]), .slice a ps.length c] w fun e w' => ∃ v, e = .returned v ∧ RowQ w.heap.size w' v (sgR 1 ps) ∧ Below w.heap.size w w' := by
  obtain ⟨i0, hi, hz0, hz1, hz2⟩ := info_parts infoE
  have q3 := as13 vv
  have q4 := as14 vv
  have q5 := as15 vv
  have hm := h.max
  have hf := h.fits
  unfold maxLen at hm
  have LE := sgR_le 1 ps
  go_enter Try.func74, Try.ntmps74
  go_wp2
  go_loopw [5, 29] (fun s5 s29 wr => ∃ i : Nat, i ≤ ps.length ∧ s29 = .int .i64 i ∧ RowQ w.heap.size wr s5 ((sgR 1 ps).take i) ∧ Below w.heap.size w wr) (fun _ s29 _ => ps.length - (intOf s29).toNat)
  case atStart => exact ⟨0, Nat.zero_le _, rfl, RowQ.nil _ _, Below.refl _ _⟩
  case round =>
    obtain ⟨i, hi', rfl, RQ, B⟩ := hrel
    rename World => wi
    by_cases hli : i < ps.length
    · obtain ⟨b5, o5, rfl, pc⟩ := (h.below B).cells (by intro e; simp [e] at hli)
      obtain ⟨t0, t1⟩ := pc i hli
      rw [show (ps[i]?.getD (0, 0)) = ptA ps i from rfl] at t0 t1
      have HX : Hid ((sgR 1 ps).take (i + 1) = (sgR 1 ps).take i ++ [(ptA ps i, ptA ps i)]) := sgR_point (by omega) hli
      have hLL : ((sgR 1 ps).take i).length ≤ 60 := by rw [List.length_take]; omega
      generalize (sgR 1 ps).take i = L at *
      clear pc
      obtain ⟨x, hx⟩ : ∃ z, Hid ((ptA ps i).1 = z) := ⟨_, rfl⟩
      obtain ⟨y, hy⟩ : ∃ z, Hid ((ptA ps i).2 = z) := ⟨_, rfl⟩
      have HZ : Hid ((sgR 1 ps).take (i + 1) = L ++ [((x, y), (x, y))]) := by
        show _ = _
        rw [HX.out, ← hx.out, ← hy.out]
      rw [hx.out] at t0
      rw [hy.out] at t1
      clear HX hx hy
      have bn := below1 wi (.cells #[.int .i64 x, .int .i64 y] 35)
      have VP := Box2.new wi (lo := w.heap.size) B.size (.int .i64 x) (.int .i64 y) 35
      replace RQ := RQ.below bn
      replace B := B.trans (bn.mono B.size)
      clear bn
      go_upto_region 10 with fail
      clear t0 t1
      generalize wi.alloc (.cells #[.int .i64 x, .int .i64 y] 35) = W1 at *
      generalize wi.heap.size = q1 at *
      obtain ⟨k0, k1, _, _⟩ := id VP
      have bn := below1 W1 (.cells #[.int .i64 x, .int .i64 y, .int .i64 x, .int .i64 y] 56)
      have RW := RQ.below bn
      replace B := B.trans (bn.mono B.size)
      have NW := sg_new W1 56 x y x y
      have nz := B.size
      clear bn VP RQ
      go_wp2_with (at_builtin; refine wpList_append_own _ rfl (.tmp 33) (.tmp 37) 53 rfl w.heap.size 56 i0 (.agg #[.int .i64 0, .int .i64 0, .int .i64 0, .int .i64 0]) 4 32 Try.underlying53 hi hz0 hz1 hz2 rfl (by decide) u5 L.length (sgC L) rfl RW ⟨W1.heap.size, 0, none⟩ 1 _ (sgC [((x, y), (x, y))]) rfl rfl NW (sgC_ones _) (by unfold maxLen; omega) (by omega) nz ?_)
      intro v7 w7 R7 G7 _
      have N7 := B.grown G7 nz (fun k hk => (World.ownsRow.lt RW k hk).1)
      replace R7 : RowQ w.heap.size w7 v7 (L ++ [((x, y), (x, y))]) := by unfold RowQ; rw [sgC_append, List.length_append]; exact R7
      clear k0 k1 NW RW
      go_wp2
      go_roundw
      case rel => exact ⟨i + 1, by omega, by go_num, (by rw [HZ.out]; exact R7), N7⟩
      case measure => simp [intOf]; omega
    · obtain rfl : i = ps.length := by omega
      rw [List.take_of_length_le LE] at RQ
      go_wp2
      go_ret
      exact ⟨_, rfl, RQ, B⟩

set_option maxRecDepth 20000 in
set_option maxHeartbeats 2000000 in
theorem segmentsOf2 (vv : Value) (a : Option Addr) (c : Nat) (ps : List (Int × Int)) (w : World) (h : SeesP w a c ps) (n2 : ps.length ≤ 60) :
    Calls Try.prog 74 #[.iface 103 (.agg #[vv]), .slice a ps.length c] w fun e w' => ∃ v, e = .returned v ∧ RowQ w.heap.size w' v (sgR 2 ps) ∧ Below w.heap.size w w' := by
  obtain ⟨i0, hi, hz0, hz1, hz2⟩ := info_parts infoE
  have q3 := as23 vv
  have q4 := as24 vv
  have q5 := as25 vv
  have hm := h.max
  have hf := h.fits
  unfold maxLen at hm
  have LE := sgR_le 2 ps
  go_enter Try.func74, Try.ntmps74
  go_wp2
  go_loopw [5, 29] (fun s5 s29 wr => ∃ i : Nat, i ≤ ps.length ∧ s29 = .int .i64 i ∧ RowQ w.heap.size wr s5 ((sgR 2 ps).take i) ∧ Below w.heap.size w wr) (fun _ s29 _ => ps.length - (intOf s29).toNat)
  case atStart => exact ⟨0, Nat.zero_le _, rfl, RowQ.nil _ _, Below.refl _ _⟩
  case round =>
    obtain ⟨i, hi', rfl, RQ, B⟩ := hrel
    rename World => wi
    by_cases hli : i < ps.length
    · obtain ⟨b5, o5, rfl, pc⟩ := (h.below B).cells (by intro e; simp [e] at hli)
      obtain ⟨t0, t1⟩ := pc i hli
      rw [show (ps[i]?.getD (0, 0)) = ptA ps i from rfl] at t0 t1
      have HX : Hid ((sgR 2 ps).take (i + 1) = (sgR 2 ps).take i ++ [(ptA ps i, ptA ps i)]) := sgR_point (by omega) hli
      have hLL : ((sgR 2 ps).take i).length ≤ 60 := by rw [List.length_take]; omega
      generalize (sgR 2 ps).take i = L at *
      clear pc
      obtain ⟨x, hx⟩ : ∃ z, Hid ((ptA ps i).1 = z) := ⟨_, rfl⟩
      obtain ⟨y, hy⟩ : ∃ z, Hid ((ptA ps i).2 = z) := ⟨_, rfl⟩
      have HZ : Hid ((sgR 2 ps).take (i + 1) = L ++ [((x, y), (x, y))]) := by
        show _ = _
        rw [HX.out, ← hx.out, ← hy.out]
      rw [hx.out] at t0
      rw [hy.out] at t1
      clear HX hx hy
      have bn := below1 wi (.cells #[.int .i64 x, .int .i64 y] 35)
      have VP := Box2.new wi (lo := w.heap.size) B.size (.int .i64 x) (.int .i64 y) 35
      replace RQ := RQ.below bn
      replace B := B.trans (bn.mono B.size)
      clear bn
      go_upto_region 10 with fail
      clear t0 t1
      generalize wi.alloc (.cells #[.int .i64 x, .int .i64 y] 35) = W1 at *
      generalize wi.heap.size = q1 at *
      obtain ⟨k0, k1, _, _⟩ := id VP
      have bn := below1 W1 (.cells #[.int .i64 x, .int .i64 y, .int .i64 x, .int .i64 y] 56)
      have RW := RQ.below bn
      replace B := B.trans (bn.mono B.size)
      have NW := sg_new W1 56 x y x y
      have nz := B.size
      clear bn VP RQ
      go_wp2_with (at_builtin; refine wpList_append_own _ rfl (.tmp 33) (.tmp 37) 53 rfl w.heap.size 56 i0 (.agg #[.int .i64 0, .int .i64 0, .int .i64 0, .int .i64 0]) 4 32 Try.underlying53 hi hz0 hz1 hz2 rfl (by decide) u5 L.length (sgC L) rfl RW ⟨W1.heap.size, 0, none⟩ 1 _ (sgC [((x, y), (x, y))]) rfl rfl NW (sgC_ones _) (by unfold maxLen; omega) (by omega) nz ?_)
      intro v7 w7 R7 G7 _
      have N7 := B.grown G7 nz (fun k hk => (World.ownsRow.lt RW k hk).1)
      replace R7 : RowQ w.heap.size w7 v7 (L ++ [((x, y), (x, y))]) := by unfold RowQ; rw [sgC_append, List.length_append]; exact R7
      clear k0 k1 NW RW
      go_wp2
      go_roundw
      case rel => exact ⟨i + 1, by omega, by go_num, (by rw [HZ.out]; exact R7), N7⟩
      case measure => simp [intOf]; omega
    · obtain rfl : i = ps.length := by omega
      rw [List.take_of_length_le LE] at RQ
      go_wp2
      go_ret
      exact ⟨_, rfl, RQ, B⟩

set_option maxRecDepth 20000 in
theorem segmentsOf3 (vv : Value) (a : Option Addr) (c : Nat) (ps : List (Int × Int)) (w : World) (h : SeesP w a c ps) (n1 : 1 < ps.length) (n2 : ps.length ≤ 60) :
    Calls Try.prog 74 #[.iface 104 (.agg #[vv]), .slice a ps.length c] w fun e w' => ∃ b c', e = .returned (.slice (some ⟨b, 0, none⟩) (sgR 3 ps).length c') ∧ SeesQ w' (some ⟨b, 0, none⟩) c' (sgR 3 ps) ∧ Below w.heap.size w w' := by
  have q3 := as33 vv
  have q4 := as34 vv
  have q5 := as35 vv
  have E : sgR 3 ps = (edL ps).take (ps.length - 1) := by unfold sgR; rw [if_neg (by omega), if_neg (by omega)]
  have EL : Hid ((sgR 3 ps).length = ps.length - 1) := by show _ = _; rw [E, List.length_take, edL_len]; omega
  go_enter Try.func74, Try.ntmps74
  go_wp2_with fail
  refine (edgesOf_any a c ps _ h n2).mono ?_
  rintro e w1 ⟨rfl, SE, hb⟩
  have Q := (SE.q n2).cut (ps.length - 1)
  rw [← E] at Q
  obtain ⟨m, hm⟩ : ∃ m, ps.length = m + 1 := ⟨ps.length - 1, by omega⟩
  have HM : Hid (ps.length = m + 1) := hm
  have EM : Hid ((sgR 3 ps).length = m) := by show _ = _; rw [EL.out, hm]; rfl
  clear SE E EL hm
  have hlm : (ps.length : Int) - 1 = (m : Int) := by have := HM.out; omega
  have hwm : IntKind.i64.wrap (m : Int) = m := by rw [IntKind.wrap_i64]; omega
  have hm1 : (m : Int) ≤ (ps.length : Int) := by omega
  have hm2 : m ≤ ps.length := by have := HM.out; omega
  go_wp2
  go_ret
  exact ⟨_, _, by rw [EM.out]; rfl, Q, hb⟩

set_option maxRecDepth 20000 in
theorem segmentsOf4 (vv : Value) (a : Option Addr) (c : Nat) (ps : List (Int × Int)) (w : World) (h : SeesP w a c ps) (n1 : 1 < ps.length) (n2 : ps.length ≤ 60) :
    Calls Try.prog 74 #[.iface 105 (.agg #[vv]), .slice a ps.length c] w fun e w' => ∃ b c', e = .returned (.slice (some ⟨b, 0, none⟩) (sgR 4 ps).length c') ∧ SeesQ w' (some ⟨b, 0, none⟩) c' (sgR 4 ps) ∧ Below w.heap.size w w' := by
  have q3 := as43 vv
  have q4 := as44 vv
  have q5 := as45 vv
  have E : sgR 4 ps = (edL ps).take (ps.length - 1) := by unfold sgR; rw [if_neg (by omega), if_neg (by omega)]
  have EL : Hid ((sgR 4 ps).length = ps.length - 1) := by show _ = _; rw [E, List.length_take, edL_len]; omega
  go_enter Try.func74, Try.ntmps74
  go_wp2_with fail
  refine (edgesOf_any a c ps _ h n2).mono ?_
  rintro e w1 ⟨rfl, SE, hb⟩
  have Q := (SE.q n2).cut (ps.length - 1)
  rw [← E] at Q
  obtain ⟨m, hm⟩ : ∃ m, ps.length = m + 1 := ⟨ps.length - 1, by omega⟩
  have HM : Hid (ps.length = m + 1) := hm
  have EM : Hid ((sgR 4 ps).length = m) := by show _ = _; rw [EL.out, hm]; rfl
  clear SE E EL hm
  have hlm : (ps.length : Int) - 1 = (m : Int) := by have := HM.out; omega
  have hwm : IntKind.i64.wrap (m : Int) = m := by rw [IntKind.wrap_i64]; omega
  have hm1 : (m : Int) ≤ (ps.length : Int) := by omega
  have hm2 : m ≤ ps.length := by have := HM.out; omega
  go_wp2
  go_ret
  exact ⟨_, _, by rw [EM.out]; rfl, Q, hb⟩

set_option maxRecDepth 20000 in
theorem segmentsOf5 (vv : Value) (a : Option Addr) (c : Nat) (ps : List (Int × Int)) (w : World) (h : SeesP w a c ps) (n2 : ps.length ≤ 60) :
    Calls Try.prog 74 #[.iface 96 (.agg #[vv]), .slice a ps.length c] w fun e w' => ∃ b c', e = .returned (.slice (some ⟨b, 0, none⟩) (sgR 5 ps).length c') ∧ SeesQ w' (some ⟨b, 0, none⟩) c' (sgR 5 ps) ∧ Below w.heap.size w w' := by
  have q5 := as55 vv
  have E : sgR 5 ps = edL ps := by unfold sgR; rw [if_neg (by omega), if_pos rfl]
  go_enter Try.func74, Try.ntmps74
  go_wp2_with fail
  refine (edgesOf_any a c ps _ h n2).mono ?_
  rintro e w1 ⟨rfl, SE, hb⟩
  have Q := SE.q n2
  rw [← E] at Q
  have EL : Hid ((sgR 5 ps).length = ps.length) := by show _ = _; rw [E, edL_len]
  clear SE E
  go_wp2
  go_ret
  exact ⟨_, _, by rw [EL.out]; rfl, Q, hb⟩
/-- Each row's segments lie in a row. -/
theorem segmentsOf_any (k : Int) (hk : 1 ≤ k ∧ k ≤ 5) (vv : Value) (a : Option Addr) (c : Nat) (ps : List (Int × Int)) (w : World) (h : SeesP w a c ps) (n1 : leastN k ≤ ps.length) (n2 : ps.length ≤ 60) :
    Calls Try.prog 74 #[.iface (figT k) (.agg #[vv]), .slice a ps.length c] w fun e w' => ∃ b c', e = .returned (.slice (some ⟨b, 0, none⟩) (sgR k ps).length c') ∧ SeesQ w' (some ⟨b, 0, none⟩) c' (sgR k ps) ∧ Below w.heap.size w w' := by
  have own : ∀ (k : Int) (w' : World) (v : Value), (sgR k ps) ≠ [] → RowQ w.heap.size w' v (sgR k ps) → ∃ b c', v = .slice (some ⟨b, 0, none⟩) (sgR k ps).length c' ∧ SeesQ w' (some ⟨b, 0, none⟩) c' (sgR k ps) := by
    intro k w' v hne R
    rcases R.2 with ⟨hv, h0⟩ | ⟨q, cap, cur, hv, r⟩
    · exact absurd (List.eq_nil_of_length_eq_zero h0) hne
    · refine ⟨q, cap, hv, ?_⟩
      rw [hv] at R
      exact R.sees
  rcases kinds hk with rfl | rfl | rfl | rfl | rfl
  · refine (segmentsOf1 vv a c ps w h n2).mono ?_
    rintro e w' ⟨v, rfl, R, hb⟩
    obtain ⟨b, c', rfl, Q⟩ := own 1 w' v (by intro e; rw [show sgR 1 ps = ps.map (fun p => (p, p)) from if_pos (by omega), List.map_eq_nil_iff] at e; rw [e, show leastN 1 = 1 from rfl] at n1; simp at n1) R
    exact ⟨b, c', rfl, Q, hb⟩
  · refine (segmentsOf2 vv a c ps w h n2).mono ?_
    rintro e w' ⟨v, rfl, R, hb⟩
    obtain ⟨b, c', rfl, Q⟩ := own 2 w' v (by intro e; rw [show sgR 2 ps = ps.map (fun p => (p, p)) from if_pos (by omega), List.map_eq_nil_iff] at e; rw [e, show leastN 2 = 1 from rfl] at n1; simp at n1) R
    exact ⟨b, c', rfl, Q, hb⟩
  · exact segmentsOf3 vv a c ps w h (by rw [show leastN 3 = 2 from rfl] at n1; omega) n2
  · exact segmentsOf4 vv a c ps w h (by rw [show leastN 4 = 2 from rfl] at n1; omega) n2
  · exact segmentsOf5 vv a c ps w h n2

set_option maxRecDepth 20000 in
set_option maxHeartbeats 2000000 in
theorem allSegments1 (a : Option Addr) (c : Nat) (rs : List (List (Int × Int))) (w : World) (h : SeesS w a c rs) (hn : rs.length ≤ 12) (hl : ∀ i, i < rs.length → leastN 1 ≤ (rowA rs i).length ∧ 0 < (rowA rs i).length ∧ (rowA rs i).length ≤ 60) :
    Calls Try.prog 60 #[.iface 102 (.agg #[.slice a rs.length c])] w fun e w' => ∃ v, e = .returned v ∧ RowQ w.heap.size w' v (segL 1 rs) ∧ Below w.heap.size w w' := by
  obtain ⟨i0, hi, hz0, hz1, hz2⟩ := info_parts infoE
  have hm := h.max
  have hf := h.fits
  unfold maxLen at hm
  have HL : Hid (∀ i, i < rs.length → leastN 1 ≤ (rowA rs i).length ∧ 0 < (rowA rs i).length ∧ (rowA rs i).length ≤ 60) := hl
  have HB : Hid (∀ j, j ≤ rs.length → (segL 1 (rs.take j)).length ≤ 60 * j) := segL_le (fun i q => (hl i q).2.2)
  clear hl
  go_enter Try.func60, Try.ntmps60
  go_wp2_with fail
  refine (points_any _ _).mono ?_
  rintro e w0 ⟨rfl, rfl⟩
  go_wp2
  go_loopw [3, 9] (fun s3 s9 wr => ∃ j : Nat, j ≤ rs.length ∧ s9 = .int .i64 j ∧ RowQ w0.heap.size wr s3 (segL 1 (rs.take j)) ∧ Below w0.heap.size w0 wr) (fun _ s9 _ => rs.length - (intOf s9).toNat)
  case atStart => exact ⟨0, Nat.zero_le _, rfl, RowQ.nil _ _, Below.refl _ _⟩
  case round =>
    obtain ⟨j, hj, rfl, RR, B⟩ := hrel
    rename World => wr
    by_cases hlj : j < rs.length
    · obtain ⟨b, off, rfl, hc⟩ := (h.below B).cells (by intro e; simp [e] at hlj)
      obtain ⟨a', c', g, SP⟩ := hc j hlj
      obtain ⟨n0, n1, n2⟩ := HL.out j hlj
      have b3 := HB.out j (by omega)
      have HST : Hid (segL 1 (rs.take (j + 1)) = segL 1 (rs.take j) ++ sgR 1 (rowA rs j)) := segL_step hlj
      have HLE := sgR_le 1 (rowA rs j)
      clear hc
      generalize rowA rs j = ps at *
      obtain ⟨L0, hL0⟩ : ∃ z, Hid (segL 1 (rs.take j) = z) := ⟨_, rfl⟩
      rw [hL0.out] at RR b3 HST
      clear hL0
      go_wp2_with fail
      refine (segmentsOf_any 1 (by omega) _ a' c' ps _ SP n0 n2).mono ?_
      rintro e w3 ⟨b4, c4, rfl, SQ, hb⟩
      replace RR := RR.below hb
      replace B := B.trans (hb.mono B.size)
      clear hb g
      have NW := SQ.news
      have nz := B.size
      generalize sgR 1 ps = es at *
      go_wp2_with (at_builtin; refine wpList_append_own _ rfl (.tmp 13) (.tmp 16) 53 rfl w0.heap.size 56 i0 (.agg #[.int .i64 0, .int .i64 0, .int .i64 0, .int .i64 0]) 4 32 Try.underlying53 hi hz0 hz1 hz2 rfl (by decide) u3 L0.length (sgC L0) rfl RR ⟨b4, 0, none⟩ es.length _ (sgC es) rfl (sgC_len _) NW (sgC_ones _) (by unfold maxLen; omega) (by omega) nz ?_)
      intro v7 w7 R7 G7 _
      have N7 := B.grown G7 nz (fun k hk => (World.ownsRow.lt RR k hk).1)
      replace R7 : RowQ w0.heap.size w7 v7 (L0 ++ es) := by unfold RowQ; rw [sgC_append, List.length_append]; exact R7
      go_wp2
      go_roundw
      case rel => exact ⟨j + 1, by omega, by go_num, (by rw [HST.out]; exact R7), N7⟩
      case measure => simp [intOf]; omega
    · obtain rfl : j = rs.length := by omega
      rw [List.take_length] at RR
      go_wp2
      go_ret
      exact ⟨_, rfl, RR, B⟩
set_option maxRecDepth 20000 in
set_option maxHeartbeats 2000000 in
theorem allSegments2 (a : Option Addr) (c : Nat) (rs : List (List (Int × Int))) (w : World) (h : SeesS w a c rs) (hn : rs.length ≤ 12) (hl : ∀ i, i < rs.length → leastN 2 ≤ (rowA rs i).length ∧ 0 < (rowA rs i).length ∧ (rowA rs i).length ≤ 60) :
    Calls Try.prog 60 #[.iface 103 (.agg #[.slice a rs.length c])] w fun e w' => ∃ v, e = .returned v ∧ RowQ w.heap.size w' v (segL 2 rs) ∧ Below w.heap.size w w' := by
  obtain ⟨i0, hi, hz0, hz1, hz2⟩ := info_parts infoE
  have hm := h.max
  have hf := h.fits
  unfold maxLen at hm
  have HL : Hid (∀ i, i < rs.length → leastN 2 ≤ (rowA rs i).length ∧ 0 < (rowA rs i).length ∧ (rowA rs i).length ≤ 60) := hl
  have HB : Hid (∀ j, j ≤ rs.length → (segL 2 (rs.take j)).length ≤ 60 * j) := segL_le (fun i q => (hl i q).2.2)
  clear hl
  go_enter Try.func60, Try.ntmps60
  go_wp2_with fail
  refine (points_any _ _).mono ?_
  rintro e w0 ⟨rfl, rfl⟩
  go_wp2
  go_loopw [3, 9] (fun s3 s9 wr => ∃ j : Nat, j ≤ rs.length ∧ s9 = .int .i64 j ∧ RowQ w0.heap.size wr s3 (segL 2 (rs.take j)) ∧ Below w0.heap.size w0 wr) (fun _ s9 _ => rs.length - (intOf s9).toNat)
  case atStart => exact ⟨0, Nat.zero_le _, rfl, RowQ.nil _ _, Below.refl _ _⟩
  case round =>
    obtain ⟨j, hj, rfl, RR, B⟩ := hrel
    rename World => wr
    by_cases hlj : j < rs.length
    · obtain ⟨b, off, rfl, hc⟩ := (h.below B).cells (by intro e; simp [e] at hlj)
      obtain ⟨a', c', g, SP⟩ := hc j hlj
      obtain ⟨n0, n1, n2⟩ := HL.out j hlj
      have b3 := HB.out j (by omega)
      have HST : Hid (segL 2 (rs.take (j + 1)) = segL 2 (rs.take j) ++ sgR 2 (rowA rs j)) := segL_step hlj
      have HLE := sgR_le 2 (rowA rs j)
      clear hc
      generalize rowA rs j = ps at *
      obtain ⟨L0, hL0⟩ : ∃ z, Hid (segL 2 (rs.take j) = z) := ⟨_, rfl⟩
      rw [hL0.out] at RR b3 HST
      clear hL0
      go_wp2_with fail
      refine (segmentsOf_any 2 (by omega) _ a' c' ps _ SP n0 n2).mono ?_
      rintro e w3 ⟨b4, c4, rfl, SQ, hb⟩
      replace RR := RR.below hb
      replace B := B.trans (hb.mono B.size)
      clear hb g
      have NW := SQ.news
      have nz := B.size
      generalize sgR 2 ps = es at *
      go_wp2_with (at_builtin; refine wpList_append_own _ rfl (.tmp 13) (.tmp 16) 53 rfl w0.heap.size 56 i0 (.agg #[.int .i64 0, .int .i64 0, .int .i64 0, .int .i64 0]) 4 32 Try.underlying53 hi hz0 hz1 hz2 rfl (by decide) u3 L0.length (sgC L0) rfl RR ⟨b4, 0, none⟩ es.length _ (sgC es) rfl (sgC_len _) NW (sgC_ones _) (by unfold maxLen; omega) (by omega) nz ?_)
      intro v7 w7 R7 G7 _
      have N7 := B.grown G7 nz (fun k hk => (World.ownsRow.lt RR k hk).1)
      replace R7 : RowQ w0.heap.size w7 v7 (L0 ++ es) := by unfold RowQ; rw [sgC_append, List.length_append]; exact R7
      go_wp2
      go_roundw
      case rel => exact ⟨j + 1, by omega, by go_num, (by rw [HST.out]; exact R7), N7⟩
      case measure => simp [intOf]; omega
    · obtain rfl : j = rs.length := by omega
      rw [List.take_length] at RR
      go_wp2
      go_ret
      exact ⟨_, rfl, RR, B⟩
set_option maxRecDepth 20000 in
set_option maxHeartbeats 2000000 in
theorem allSegments3 (a : Option Addr) (c : Nat) (rs : List (List (Int × Int))) (w : World) (h : SeesS w a c rs) (hn : rs.length ≤ 12) (hl : ∀ i, i < rs.length → leastN 3 ≤ (rowA rs i).length ∧ 0 < (rowA rs i).length ∧ (rowA rs i).length ≤ 60) :
    Calls Try.prog 60 #[.iface 104 (.agg #[.slice a rs.length c])] w fun e w' => ∃ v, e = .returned v ∧ RowQ w.heap.size w' v (segL 3 rs) ∧ Below w.heap.size w w' := by
  obtain ⟨i0, hi, hz0, hz1, hz2⟩ := info_parts infoE
  have hm := h.max
  have hf := h.fits
  unfold maxLen at hm
  have HL : Hid (∀ i, i < rs.length → leastN 3 ≤ (rowA rs i).length ∧ 0 < (rowA rs i).length ∧ (rowA rs i).length ≤ 60) := hl
  have HB : Hid (∀ j, j ≤ rs.length → (segL 3 (rs.take j)).length ≤ 60 * j) := segL_le (fun i q => (hl i q).2.2)
  clear hl
  go_enter Try.func60, Try.ntmps60
  go_wp2_with fail
  refine (points_any _ _).mono ?_
  rintro e w0 ⟨rfl, rfl⟩
  go_wp2
  go_loopw [3, 9] (fun s3 s9 wr => ∃ j : Nat, j ≤ rs.length ∧ s9 = .int .i64 j ∧ RowQ w0.heap.size wr s3 (segL 3 (rs.take j)) ∧ Below w0.heap.size w0 wr) (fun _ s9 _ => rs.length - (intOf s9).toNat)
  case atStart => exact ⟨0, Nat.zero_le _, rfl, RowQ.nil _ _, Below.refl _ _⟩
  case round =>
    obtain ⟨j, hj, rfl, RR, B⟩ := hrel
    rename World => wr
    by_cases hlj : j < rs.length
    · obtain ⟨b, off, rfl, hc⟩ := (h.below B).cells (by intro e; simp [e] at hlj)
      obtain ⟨a', c', g, SP⟩ := hc j hlj
      obtain ⟨n0, n1, n2⟩ := HL.out j hlj
      have b3 := HB.out j (by omega)
      have HST : Hid (segL 3 (rs.take (j + 1)) = segL 3 (rs.take j) ++ sgR 3 (rowA rs j)) := segL_step hlj
      have HLE := sgR_le 3 (rowA rs j)
      clear hc
      generalize rowA rs j = ps at *
      obtain ⟨L0, hL0⟩ : ∃ z, Hid (segL 3 (rs.take j) = z) := ⟨_, rfl⟩
      rw [hL0.out] at RR b3 HST
      clear hL0
      go_wp2_with fail
      refine (segmentsOf_any 3 (by omega) _ a' c' ps _ SP n0 n2).mono ?_
      rintro e w3 ⟨b4, c4, rfl, SQ, hb⟩
      replace RR := RR.below hb
      replace B := B.trans (hb.mono B.size)
      clear hb g
      have NW := SQ.news
      have nz := B.size
      generalize sgR 3 ps = es at *
      go_wp2_with (at_builtin; refine wpList_append_own _ rfl (.tmp 13) (.tmp 16) 53 rfl w0.heap.size 56 i0 (.agg #[.int .i64 0, .int .i64 0, .int .i64 0, .int .i64 0]) 4 32 Try.underlying53 hi hz0 hz1 hz2 rfl (by decide) u3 L0.length (sgC L0) rfl RR ⟨b4, 0, none⟩ es.length _ (sgC es) rfl (sgC_len _) NW (sgC_ones _) (by unfold maxLen; omega) (by omega) nz ?_)
      intro v7 w7 R7 G7 _
      have N7 := B.grown G7 nz (fun k hk => (World.ownsRow.lt RR k hk).1)
      replace R7 : RowQ w0.heap.size w7 v7 (L0 ++ es) := by unfold RowQ; rw [sgC_append, List.length_append]; exact R7
      go_wp2
      go_roundw
      case rel => exact ⟨j + 1, by omega, by go_num, (by rw [HST.out]; exact R7), N7⟩
      case measure => simp [intOf]; omega
    · obtain rfl : j = rs.length := by omega
      rw [List.take_length] at RR
      go_wp2
      go_ret
      exact ⟨_, rfl, RR, B⟩
set_option maxRecDepth 20000 in
set_option maxHeartbeats 2000000 in
theorem allSegments4 (a : Option Addr) (c : Nat) (rs : List (List (Int × Int))) (w : World) (h : SeesS w a c rs) (hn : rs.length ≤ 12) (hl : ∀ i, i < rs.length → leastN 4 ≤ (rowA rs i).length ∧ 0 < (rowA rs i).length ∧ (rowA rs i).length ≤ 60) :
    Calls Try.prog 60 #[.iface 105 (.agg #[.slice a rs.length c])] w fun e w' => ∃ v, e = .returned v ∧ RowQ w.heap.size w' v (segL 4 rs) ∧ Below w.heap.size w w' := by
  obtain ⟨i0, hi, hz0, hz1, hz2⟩ := info_parts infoE
  have hm := h.max
  have hf := h.fits
  unfold maxLen at hm
  have HL : Hid (∀ i, i < rs.length → leastN 4 ≤ (rowA rs i).length ∧ 0 < (rowA rs i).length ∧ (rowA rs i).length ≤ 60) := hl
  have HB : Hid (∀ j, j ≤ rs.length → (segL 4 (rs.take j)).length ≤ 60 * j) := segL_le (fun i q => (hl i q).2.2)
  clear hl
  go_enter Try.func60, Try.ntmps60
  go_wp2_with fail
  refine (points_any _ _).mono ?_
  rintro e w0 ⟨rfl, rfl⟩
  go_wp2
  go_loopw [3, 9] (fun s3 s9 wr => ∃ j : Nat, j ≤ rs.length ∧ s9 = .int .i64 j ∧ RowQ w0.heap.size wr s3 (segL 4 (rs.take j)) ∧ Below w0.heap.size w0 wr) (fun _ s9 _ => rs.length - (intOf s9).toNat)
  case atStart => exact ⟨0, Nat.zero_le _, rfl, RowQ.nil _ _, Below.refl _ _⟩
  case round =>
    obtain ⟨j, hj, rfl, RR, B⟩ := hrel
    rename World => wr
    by_cases hlj : j < rs.length
    · obtain ⟨b, off, rfl, hc⟩ := (h.below B).cells (by intro e; simp [e] at hlj)
      obtain ⟨a', c', g, SP⟩ := hc j hlj
      obtain ⟨n0, n1, n2⟩ := HL.out j hlj
      have b3 := HB.out j (by omega)
      have HST : Hid (segL 4 (rs.take (j + 1)) = segL 4 (rs.take j) ++ sgR 4 (rowA rs j)) := segL_step hlj
      have HLE := sgR_le 4 (rowA rs j)
      clear hc
      generalize rowA rs j = ps at *
      obtain ⟨L0, hL0⟩ : ∃ z, Hid (segL 4 (rs.take j) = z) := ⟨_, rfl⟩
      rw [hL0.out] at RR b3 HST
      clear hL0
      go_wp2_with fail
      refine (segmentsOf_any 4 (by omega) _ a' c' ps _ SP n0 n2).mono ?_
      rintro e w3 ⟨b4, c4, rfl, SQ, hb⟩
      replace RR := RR.below hb
      replace B := B.trans (hb.mono B.size)
      clear hb g
      have NW := SQ.news
      have nz := B.size
      generalize sgR 4 ps = es at *
      go_wp2_with (at_builtin; refine wpList_append_own _ rfl (.tmp 13) (.tmp 16) 53 rfl w0.heap.size 56 i0 (.agg #[.int .i64 0, .int .i64 0, .int .i64 0, .int .i64 0]) 4 32 Try.underlying53 hi hz0 hz1 hz2 rfl (by decide) u3 L0.length (sgC L0) rfl RR ⟨b4, 0, none⟩ es.length _ (sgC es) rfl (sgC_len _) NW (sgC_ones _) (by unfold maxLen; omega) (by omega) nz ?_)
      intro v7 w7 R7 G7 _
      have N7 := B.grown G7 nz (fun k hk => (World.ownsRow.lt RR k hk).1)
      replace R7 : RowQ w0.heap.size w7 v7 (L0 ++ es) := by unfold RowQ; rw [sgC_append, List.length_append]; exact R7
      go_wp2
      go_roundw
      case rel => exact ⟨j + 1, by omega, by go_num, (by rw [HST.out]; exact R7), N7⟩
      case measure => simp [intOf]; omega
    · obtain rfl : j = rs.length := by omega
      rw [List.take_length] at RR
      go_wp2
      go_ret
      exact ⟨_, rfl, RR, B⟩
set_option maxRecDepth 20000 in
set_option maxHeartbeats 2000000 in
theorem allSegments5 (a : Option Addr) (c : Nat) (rs : List (List (Int × Int))) (w : World) (h : SeesS w a c rs) (hn : rs.length ≤ 12) (hl : ∀ i, i < rs.length → leastN 5 ≤ (rowA rs i).length ∧ 0 < (rowA rs i).length ∧ (rowA rs i).length ≤ 60) :
    Calls Try.prog 60 #[.iface 96 (.agg #[.slice a rs.length c])] w fun e w' => ∃ v, e = .returned v ∧ RowQ w.heap.size w' v (segL 5 rs) ∧ Below w.heap.size w w' := by
  obtain ⟨i0, hi, hz0, hz1, hz2⟩ := info_parts infoE
  have hm := h.max
  have hf := h.fits
  unfold maxLen at hm
  have HL : Hid (∀ i, i < rs.length → leastN 5 ≤ (rowA rs i).length ∧ 0 < (rowA rs i).length ∧ (rowA rs i).length ≤ 60) := hl
  have HB : Hid (∀ j, j ≤ rs.length → (segL 5 (rs.take j)).length ≤ 60 * j) := segL_le (fun i q => (hl i q).2.2)
  clear hl
  go_enter Try.func60, Try.ntmps60
  go_wp2_with fail
  refine (points_any _ _).mono ?_
  rintro e w0 ⟨rfl, rfl⟩
  go_wp2
  go_loopw [3, 9] (fun s3 s9 wr => ∃ j : Nat, j ≤ rs.length ∧ s9 = .int .i64 j ∧ RowQ w0.heap.size wr s3 (segL 5 (rs.take j)) ∧ Below w0.heap.size w0 wr) (fun _ s9 _ => rs.length - (intOf s9).toNat)
  case atStart => exact ⟨0, Nat.zero_le _, rfl, RowQ.nil _ _, Below.refl _ _⟩
  case round =>
    obtain ⟨j, hj, rfl, RR, B⟩ := hrel
    rename World => wr
    by_cases hlj : j < rs.length
    · obtain ⟨b, off, rfl, hc⟩ := (h.below B).cells (by intro e; simp [e] at hlj)
      obtain ⟨a', c', g, SP⟩ := hc j hlj
      obtain ⟨n0, n1, n2⟩ := HL.out j hlj
      have b3 := HB.out j (by omega)
      have HST : Hid (segL 5 (rs.take (j + 1)) = segL 5 (rs.take j) ++ sgR 5 (rowA rs j)) := segL_step hlj
      have HLE := sgR_le 5 (rowA rs j)
      clear hc
      generalize rowA rs j = ps at *
      obtain ⟨L0, hL0⟩ : ∃ z, Hid (segL 5 (rs.take j) = z) := ⟨_, rfl⟩
      rw [hL0.out] at RR b3 HST
      clear hL0
      go_wp2_with fail
      refine (segmentsOf_any 5 (by omega) _ a' c' ps _ SP n0 n2).mono ?_
      rintro e w3 ⟨b4, c4, rfl, SQ, hb⟩
      replace RR := RR.below hb
      replace B := B.trans (hb.mono B.size)
      clear hb g
      have NW := SQ.news
      have nz := B.size
      generalize sgR 5 ps = es at *
      go_wp2_with (at_builtin; refine wpList_append_own _ rfl (.tmp 13) (.tmp 16) 53 rfl w0.heap.size 56 i0 (.agg #[.int .i64 0, .int .i64 0, .int .i64 0, .int .i64 0]) 4 32 Try.underlying53 hi hz0 hz1 hz2 rfl (by decide) u3 L0.length (sgC L0) rfl RR ⟨b4, 0, none⟩ es.length _ (sgC es) rfl (sgC_len _) NW (sgC_ones _) (by unfold maxLen; omega) (by omega) nz ?_)
      intro v7 w7 R7 G7 _
      have N7 := B.grown G7 nz (fun k hk => (World.ownsRow.lt RR k hk).1)
      replace R7 : RowQ w0.heap.size w7 v7 (L0 ++ es) := by unfold RowQ; rw [sgC_append, List.length_append]; exact R7
      go_wp2
      go_roundw
      case rel => exact ⟨j + 1, by omega, by go_num, (by rw [HST.out]; exact R7), N7⟩
      case measure => simp [intOf]; omega
    · obtain rfl : j = rs.length := by omega
      rw [List.take_length] at RR
      go_wp2
      go_ret
      exact ⟨_, rfl, RR, B⟩

theorem allSegments_any (k : Int) (hk : 1 ≤ k ∧ k ≤ 5) (a : Option Addr) (c : Nat) (rs : List (List (Int × Int))) (w : World) (h : SeesS w a c rs) (hn : rs.length ≤ 12) (hl : ∀ i, i < rs.length → leastN k ≤ (rowA rs i).length ∧ 0 < (rowA rs i).length ∧ (rowA rs i).length ≤ 60) :
    Calls Try.prog 60 #[.iface (figT k) (.agg #[.slice a rs.length c])] w fun e w' => ∃ v, e = .returned v ∧ RowQ w.heap.size w' v (segL k rs) ∧ Below w.heap.size w w' := by
  rcases kinds hk with rfl | rfl | rfl | rfl | rfl
  · exact allSegments1 a c rs w h hn hl
  · exact allSegments2 a c rs w h hn hl
  · exact allSegments3 a c rs w h hn hl
  · exact allSegments4 a c rs w h hn hl
  · exact allSegments5 a c rs w h hn hl

end Go.Proofs.Ythafhfdhahbdoaa
