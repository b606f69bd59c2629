/- The bytes of changes; which lists of changes are put: of both sides. -/
import Derived.Test.YtlkhbbllkkdhaaaGreatDoorChS
import Derived.Test.YtlkhbbllkkdhaaaGreatDoorPutK
import Derived.Test.YtlkhbbllkkdhaaaGreatDoorPutU
namespace Go.Proofs.YtlkhbbllkkdhaaaGreatDoor
open Go.RowKit

theorem ne_of_len {α : Type} {xs : List α} {n : Nat} (h : xs.length = n) (hn : 0 < n) : xs ≠ [] := fun e => by rw [e] at h; simp at h; omega
theorem owns_keptC {lo e size n : Nat} {w w' : World} {u : Value} {xs : List Value} {row : Option Nat} (h : w.ownsRow lo e size u n xs) (g : w.grownBy w' row) (ne : ∀ k, u.ownBlock = some k → row ≠ some k) : w'.ownsRow lo e size u n xs :=
  World.ownsRow.kept h g (by
    cases e : u.ownBlock with
    | none => exact .inl rfl
    | some k => exact .inr (fun q => ne k e q.symm))
/-- The bytes of a change. -/
def cbB (kd ix k : Int) (rs : List (List (Int × Int))) : List Int := [kd] ++ leB 4 ix ++ (if kd = 1 then leB 2 ((shBy k rs).length : Int) ++ shBy k rs else [])
/-- The bytes of the first j changes, and how many there are in all. -/
def csB (es : List Cn) : Nat → List Int
  | 0 => [(es.length : Int)]
  | j + 1 => csB es j ++ cbB (cnA es j).1 (cnA es j).2.1 (cnA es j).2.2.1 (cnA es j).2.2.2
def ckB (es : List Cn) (i : Nat) : Bool := chB (cnA es i).1 (cnA es i).2.1 (cnA es i).2.2.1 (cnA es i).2.2.2
def crTo (es : List Cn) (j : Nat) : Bool := (List.range j).all (ckB es)
/-- They are put. -/
def crB (es : List Cn) : Bool := decide (es.length ≤ 40) && crTo es es.length
def pcV (es : List Cn) : List Int := if crB es then csB es es.length else []
theorem crTo_succ (es : List Cn) (j : Nat) : crTo es (j + 1) = (crTo es j && ckB es j) := by unfold crTo; rw [List.range_succ, List.all_append]; simp
theorem crTo_no {es : List Cn} {j n : Nat} (hj : j < n) (h : ckB es j = false) : crTo es n = false := by
  unfold crTo
  rw [Bool.eq_false_iff]
  intro q
  rw [List.all_eq_true] at q
  have := q j (List.mem_range.2 hj)
  rw [h] at this
  cases this
theorem crTo_at {es : List Cn} {j n : Nat} (h : crTo es n = true) (hj : j < n) : ckB es j = true := by
  unfold crTo at h
  rw [List.all_eq_true] at h
  exact h j (List.mem_range.2 hj)
theorem chB_parts {kd ix k : Int} {rs : List (List (Int × Int))} (h : chB kd ix k rs = true) : 1 ≤ ix ∧ ix ≤ 1000000 ∧ ((kd = 1 ∧ goodB k rs = true) ∨ kd = 2) := by
  unfold chB inB at h
  simp only [Bool.and_eq_true, Bool.or_eq_true, decide_eq_true_eq, beq_iff_eq] at h
  refine ⟨h.1.1, h.1.2, ?_⟩
  rcases h.2 with q | q
  · exact .inl q
  · exact .inr q.1
theorem shBy_le {k : Int} {rs : List (List (Int × Int))} (g : goodB k rs = true) : (shBy k rs).length ≤ 20000 := by
  obtain ⟨_, h1, h2'⟩ := goodS_rows g
  have h2 : ∀ i, i < rs.length → (rowA rs i).length ≤ 60 := fun i hi => (h2' i hi).2.2
  have h0 := good_some g
  have l0 := h2 0 h0
  have fp := flat_le ptP 21 (ps := rowA rs 0) (fun i hi => by rw [ptP_len]; omega) _ (Nat.le_refl _)
  have fl := flat_le lnP 1000 (ps := rs) (fun i hi => by have := h2 i hi; rw [rowA_at hi]; unfold lnP; rw [List.length_append, hdB_len, lnB_len]; omega) _ (Nat.le_refl _)
  have fr := flat_le rgB 1000 (ps := rs) (fun i hi => by have := h2 i hi; rw [rowA_at hi]; unfold rgB; rw [lnB_len, List.length_append, List.length_take]; omega) _ (Nat.le_refl _)
  rw [List.take_length] at fp fl fr
  unfold shBy
  rw [List.length_append, hdB_len]
  split
  · rw [ptB_len]; omega
  · split
    · rw [List.length_append, leB_len]; omega
    · split
      · rw [lnB_len]; omega
      · rw [List.length_append, leB_len]
        split <;> omega
theorem cbB_le {kd ix k : Int} {rs : List (List (Int × Int))} (h : chB kd ix k rs = true) : (cbB kd ix k rs).length ≤ 20010 := by
  unfold cbB
  rcases (chB_parts h).2.2 with ⟨e, g⟩ | e
  · have := shBy_le g
    rw [if_pos e, List.length_append, List.length_append, List.length_append, leB_len, leB_len]
    simp
    omega
  · rw [if_neg (by omega), List.length_append, List.length_append, leB_len]
    simp
theorem csB_le {es : List Cn} {n : Nat} (h : crTo es n = true) : ∀ j, j ≤ n → (csB es j).length ≤ 1 + j * 20010
  | 0, _ => by simp [csB]
  | j + 1, hj => by
    have ih := csB_le h j (by omega)
    have := cbB_le (crTo_at h (show j < n by omega))
    simp only [csB, List.length_append]
    omega
theorem pcV_le (es : List Cn) : (pcV es).length ≤ 1000000 := by
  unfold pcV
  cases h : crB es
  · simp
  · unfold crB at h
    rw [Bool.and_eq_true, decide_eq_true_eq] at h
    have := csB_le h.2 es.length (Nat.le_refl _)
    simp only [if_true]
    omega

set_option maxRecDepth 20000 in
theorem size16 (w : World) : Calls Tryz.prog 53 #[] w fun e w' => e = .returned (.int .i64 2) ∧ w' = w := by
  have E : IntKind.u64.wrap (bits BinOp.xor IntKind.u16 IntKind.u16.max 0) = 65535 := by decide
  have L : Lib.bitLen (65535 : Int).toNat = 16 := by decide +kernel
  go_enter Tryz.func53, Tryz.ntmps53
  go_wp2_with fail
  refine (len64C 65535 _ (by decide) (by decide)).mono ?_
  rintro e w' ⟨rfl, rfl⟩
  rw [L]
  go_wp2
  go_ret
  exact ⟨rfl, rfl⟩

set_option maxRecDepth 20000 in
set_option maxHeartbeats 2000000 in
theorem putNumber16 (base : Nat) (v : Value) (bs : List Int) (n : Int) (w : World) (h : RowB base w v bs) (hb : base ≤ w.heap.size) (hl : bs.length ≤ 1000000) (n0 : 0 ≤ n) (n1 : n ≤ 65535) :
    Calls Tryz.prog 33 #[v, .int .u16 n] w fun e w' => ∃ v', e = .returned v' ∧ RowB base w' v' (bs ++ leB 2 n) ∧ Ext w v w' v' := by
  obtain ⟨i8, hi8, hy0, hy1, hy2⟩ := info_parts infoB
  have HN : Hid (0 ≤ n ∧ n ≤ 65535) := ⟨n0, n1⟩
  clear n0 n1
  go_enter Tryz.func33, Tryz.ntmps33
  go_wp2_with fail
  refine (size16 _).mono ?_
  rintro e w' ⟨rfl, rfl⟩
  go_wp2
  go_loopw [0, 1, 6] (fun s0 s1 s6 wr => ∃ j : Nat, j ≤ 2 ∧ s6 = .int .i64 j ∧ s1 = .int .u16 (n / 256 ^ j) ∧ RowB base wr s0 (bs ++ leB j n) ∧ Ext w' v wr s0) (fun _ _ s6 _ => 2 - (intOf s6).toNat)
  case atStart => exact ⟨0, by omega, rfl, by simp, by simpa [leB] using h, Ext.refl _ _⟩
  case round =>
    obtain ⟨j, hj, rfl, rfl, R, X⟩ := hrel
    rename World => wr
    by_cases hlt : j < 2
    · obtain ⟨d0, d1⟩ := div_bd (k := j) HN.out.1 HN.out.2
      have DS := div_step j n
      have LS := leB_step j n
      have LL : (bs ++ leB j n).length ≤ 1000010 := by rw [List.length_append, leB_len]; omega
      generalize n / 256 ^ j = q at *
      have bn := below1 wr (.cells #[.int .u8 (q % 256)] 5)
      have NW := one_new8 wr 5 (q % 256)
      have R2 := R.below bn
      have hb2 : base ≤ (wr.alloc (.cells #[.int .u8 (q % 256)] 5)).heap.size := by have := X.size; have := bn.size; omega
      have X2 := X.trans (Ext.of_below u0 bn)
      generalize HLL : bs ++ leB j n = L at *
      go_wp2_with (at_builtin; refine wpList_append_own_at _ rfl (.tmp 8) (.tmp 11) 24 rfl base 5 i8 (.int .u8 0) 1 1 Tryz.underlying24 hi8 hy0 hy1 hy2 rfl (by decide) u0 L.length (L.map (Value.int .u8)) rfl R2 ⟨wr.heap.size, 0, none⟩ 1 _ ([q % 256].map (Value.int .u8)) rfl rfl NW (ones8 _) (by unfold maxLen; omega) (by omega) hb2 ?_; intro v7 w7 R7 G7 _ A7; have X7 := X2.trans (Ext.of_at G7 A7); replace R7 : RowB base w7 v7 (L ++ [q % 256]) := RowB.app R7; clear G7 A7)
      go_roundw
      case rel => exact ⟨j + 1, by omega, by go_num, by rw [← DS], by rw [LS, ← List.append_assoc, HLL]; exact R7, X7⟩
      case measure => simp [intOf]; omega
    · obtain rfl : j = 2 := by omega
      go_wp2
      go_ret
      exact ⟨_, rfl, R, X⟩

set_option maxRecDepth 20000 in
set_option maxHeartbeats 2000000 in
theorem l13Right_any (a : Option Addr) (c : Nat) (es : List Cn) (w : World) (h : SeesCn w a c es) :
    Calls Tryz.prog 14 #[.slice a es.length c] w fun e w' => e = .returned (.bool (crB es)) ∧ Below w.heap.size w w' := by
  have hm := h.max
  have hf := h.fits
  unfold maxLen at hm
  obtain ⟨z, HZ⟩ : ∃ z, Hid (crB es = z) := ⟨_, rfl⟩
  rw [HZ.out]
  by_cases hl : es.length ≤ 40
  · have hn5 : ¬ (40 : Int) < es.length := by omega
    have ZN : Hid (∀ j, j < es.length → ckB es j = false → z = false) := fun j hj q => by
      rw [← HZ.out]; unfold crB; rw [crTo_no hj q, Bool.and_false]
    have ZY : Hid (crTo es es.length = true → z = true) := fun q => by
      rw [← HZ.out]; unfold crB; rw [q, decide_eq_true hl]; rfl
    clear HZ
    go_enter Tryz.func14, Tryz.ntmps14
    go_wp2
    go_loopw [3] (fun s3 wr => ∃ (j : Nat), j ≤ es.length ∧ s3 = .int .i64 j ∧ Hid (crTo es j = true) ∧ Below w.heap.size w wr) (fun s3 _ => es.length - (intOf s3).toNat)
    case atStart => exact ⟨0, Nat.zero_le _, rfl, rfl, Below.refl _ _⟩
    case round =>
      obtain ⟨j, hj, rfl, hto, B⟩ := hrel
      rename World => wr
      by_cases hlt : j < es.length
      · obtain ⟨b, off, rfl, hc⟩ := (h.below B).cells (by intro e; simp [e] at hlt)
        obtain ⟨g0, g1, g9, a', c', g2, sp⟩ := hc j hlt
        have EA : Hid (ckB es j = chB (cnA es j).1 (cnA es j).2.1 (cnA es j).2.2.1 (cnA es j).2.2.2) := rfl
        clear hc
        generalize cnA es j = en at *
        obtain ⟨kd, ix, k, rs⟩ := en
        dsimp only at g0 g1 g9 g2 sp EA
        cases hi : chB kd ix k rs
        · have Z : Hid (z = false) := ZN.out j hlt (by rw [EA.out, hi])
          clear EA hto
          go_wp2_with (go_at_call 24; refine (specChangeOk kd ix k a' c' rs _ sp).mono ?_; rintro e w1 ⟨rfl, hb⟩; rw [hi]; replace B := B.trans (hb.mono B.size))
          go_ret
          exact ⟨by rw [Z.out]; rfl, B⟩
        · have HT : Hid (crTo es (j + 1) = true) := by show _ = _; rw [crTo_succ, hto.out, EA.out, hi]; rfl
          clear EA hto
          go_wp2_with (go_at_call 24; refine (specChangeOk kd ix k a' c' rs _ sp).mono ?_; rintro e w1 ⟨rfl, hb⟩; rw [hi]; replace B := B.trans (hb.mono B.size); clear hb)
          go_roundw
          case rel => exact ⟨j + 1, by omega, by go_num, HT, B⟩
          case measure => simp [intOf]; omega
      · obtain rfl : j = es.length := by omega
        have Z : Hid (z = true) := ZY.out hto.out
        clear hto
        go_wp2
        go_ret
        exact ⟨by rw [Z.out]; rfl, B⟩
  · have hn5 : (40 : Int) < es.length := by omega
    have Z : Hid (z = false) := by show _ = _; rw [← HZ.out]; unfold crB; rw [decide_eq_false hl]; rfl
    clear HZ hl
    go_enter Tryz.func14, Tryz.ntmps14
    go_wp2
    go_ret
    exact ⟨by rw [Z.out]; rfl, Below.refl _ _⟩

set_option maxHeartbeats 1000000 in
theorem changeWrong_any (kd ix k : Int) (a : Option Addr) (c : Nat) (rs : List (List (Int × Int))) (w : World) (h : SeesS w a c rs) :
    Calls Tryz.prog 19 #[.agg #[.int .i64 kd, .int .i64 ix, .int .i64 k, .slice a rs.length c]] w fun e w' => e = .returned (.bool (!chB kd ix k rs)) ∧ Below w.heap.size w w' := by
  have B := below1 w (.cells #[.int .i64 kd, .int .i64 ix, .int .i64 k, .slice a rs.length c] 44)
  obtain ⟨z, HZ⟩ : ∃ z, Hid (chB kd ix k rs = z) := ⟨_, rfl⟩
  rw [HZ.out]
  go_enter Tryz.func19, Tryz.ntmps19
  go_wp2_with fail
  refine (implChangeOk kd ix k a c rs _ (h.below B)).mono ?_
  rintro e w1 ⟨rfl, hb⟩
  rw [HZ.out]
  replace B := B.trans (hb.mono B.size)
  go_wp2
  go_ret
  exact ⟨rfl, B⟩

set_option maxRecDepth 20000 in
set_option maxHeartbeats 1000000 in
theorem indexCh (a : Option Addr) (c : Nat) (es : List Cn) (w : World) (h : SeesCn w a c es) :
    Calls Tryz.prog 29 #[.slice a es.length c, .func (.func 19) #[] #[]] w fun e w' => ∃ k : Int, e = .returned (.int .i64 k) ∧ decide (0 ≤ k) = !crTo es es.length ∧ Below w.heap.size w w' := by
  have hm := h.max
  have hf := h.fits
  unfold maxLen at hm
  go_enter Tryz.func29, Tryz.ntmps29
  go_wp2
  go_loopw [8] (fun s8 wr => ∃ j : Nat, j ≤ es.length ∧ s8 = .int .i64 j ∧ Hid (crTo es j = true) ∧ Below w.heap.size w wr) (fun s8 _ => es.length - (intOf s8).toNat)
  case atStart => exact ⟨0, Nat.zero_le _, rfl, rfl, Below.refl _ _⟩
  case round =>
    obtain ⟨j, hj, rfl, hk, B⟩ := hrel
    rename World => wr
    by_cases hlt : j < es.length
    · obtain ⟨b1, o1, rfl, hc⟩ := (h.below B).cells (by intro e; simp [e] at hlt)
      obtain ⟨g0, g1, g9, a', c', g2, sp⟩ := hc j hlt
      have EA : Hid (ckB es j = chB (cnA es j).1 (cnA es j).2.1 (cnA es j).2.2.1 (cnA es j).2.2.2) := rfl
      clear hc
      generalize cnA es j = en at *
      obtain ⟨kd, ix, k, rs⟩ := en
      dsimp only at g0 g1 g9 g2 sp EA
      cases ok : chB kd ix k rs
      · have E : Hid (crTo es es.length = false) := crTo_no hlt (by rw [EA.out, ok])
        clear EA hk
        go_wp2_with (go_at_call 19; refine (changeWrong_any kd ix k a' c' rs _ sp).mono ?_; rintro e w2 ⟨rfl, hb⟩; rw [ok]; replace B := B.trans (hb.mono B.size); clear hb)
        go_ret
        exact ⟨j, rfl, by rw [E.out]; simp, B⟩
      · have ST2 : Hid (crTo es (j + 1) = true) := by show _ = _; rw [crTo_succ, hk.out, EA.out, ok]; rfl
        clear EA hk
        go_wp2_with (go_at_call 19; refine (changeWrong_any kd ix k a' c' rs _ sp).mono ?_; rintro e w2 ⟨rfl, hb⟩; rw [ok]; replace B := B.trans (hb.mono B.size); clear hb)
        go_roundw
        case rel => exact ⟨j + 1, by omega, by go_num, ST2, B⟩
        case measure => simp [intOf]; omega
    · obtain rfl : j = es.length := by omega
      have OK : Hid (crTo es es.length = true) := hk.out
      clear hk
      go_wp2
      go_ret
      exact ⟨-1, rfl, by rw [OK.out]; rfl, B⟩

set_option maxHeartbeats 1000000 in
theorem containsCh (a : Option Addr) (c : Nat) (es : List Cn) (w : World) (h : SeesCn w a c es) :
    Calls Tryz.prog 18 #[.slice a es.length c, .func (.func 19) #[] #[]] w fun e w' => e = .returned (.bool (!crTo es es.length)) ∧ Below w.heap.size w w' := by
  go_enter Tryz.func18, Tryz.ntmps18
  go_wp2_with fail
  refine (indexCh a c es _ h).mono ?_
  rintro e w1 ⟨k, rfl, hk, hb⟩
  have HK : Hid (decide (0 ≤ k) = !crTo es es.length) := hk
  clear hk
  go_wp2
  go_ret
  exact ⟨by rw [← HK.out]; rfl, hb⟩
end Go.Proofs.YtlkhbbllkkdhaaaGreatDoor
