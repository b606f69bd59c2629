/- A shape of a call's own is marked, and the marks are read again. -/
import Derived.Test.YtakfjpenpnjlhaaShR
namespace Go.Proofs.Ytakfjpenpnjlhaa
open Go.RowKit

def mkRow (k : Int) (m : Nat) : List (Int × Int) := (List.range m).map fun (i : Nat) => (k + 2 * (i : Int), k + 2 * (i : Int) + 1)
theorem mkRow_len (k : Int) (m : Nat) : (mkRow k m).length = m := by simp [mkRow]
theorem mkRow_at (k : Int) {m i : Nat} (h : i < m) : (mkRow k m)[i]?.getD (0, 0) = (k + 2 * (i : Int), k + 2 * (i : Int) + 1) := by simp [mkRow, h]
/-- The first j points are marked. -/
def mkTo (k : Int) (ps : List (Int × Int)) (j : Nat) : List (Int × Int) := mkRow k j ++ ps.drop j
theorem mkTo_len (k : Int) {ps : List (Int × Int)} {j : Nat} (h : j ≤ ps.length) : (mkTo k ps j).length = ps.length := by simp [mkTo, mkRow_len]; omega
theorem mkTo_zero (k : Int) (ps : List (Int × Int)) : mkTo k ps 0 = ps := by simp [mkTo, mkRow]
theorem mkTo_all (k : Int) (ps : List (Int × Int)) : mkTo k ps ps.length = mkRow k ps.length := by simp [mkTo]
theorem mkTo_step (k : Int) {ps : List (Int × Int)} {j : Nat} (h : j < ps.length) : (mkTo k ps j).set j (k + 2 * (j : Int), k + 2 * (j : Int) + 1) = mkTo k ps (j + 1) := by
  unfold mkTo
  have e : mkRow k (j + 1) = mkRow k j ++ [(k + 2 * (j : Int), k + 2 * (j : Int) + 1)] := by simp [mkRow, List.range_succ]
  rw [List.set_append_right _ _ (by rw [mkRow_len]; exact Nat.le_refl _), mkRow_len, Nat.sub_self, e, List.drop_eq_getElem_cons h, List.set_cons_zero, List.append_assoc]
  rfl

set_option maxRecDepth 20000 in
set_option maxHeartbeats 1000000 in
theorem markPtsR (lo g cap : Nat) (k : Int) (ps : List (Int × Int)) (w : World) (h : RowPt lo w (.slice (some ⟨g, 0, none⟩) ps.length cap) ps) (hm : ps.length ≤ 1048576) (k0 : 0 ≤ k) (k1 : k ≤ 1000000000000) :
    Calls Try.prog 47 #[.slice (some ⟨g, 0, none⟩) ps.length cap, .int .i64 k] w fun e w' => e = .returned (.int .i64 (k + 2 * (ps.length : Int))) ∧ RowPt lo w' (.slice (some ⟨g, 0, none⟩) ps.length cap) (mkRow k ps.length) ∧ w.grownBy w' (some g) := by
  obtain ⟨_, _, e, f1, f2⟩ := h.shape
  injection e with e1 e2 e3
  subst e3
  unfold maxLen at f2
  have R0 : Hid (RowPt lo w (.slice (some ⟨g, 0, none⟩) ps.length cap) (mkTo k ps 0)) := by show RowPt _ _ _ _; rw [mkTo_zero]; exact h
  clear e1 e2 h
  go_enter Try.func47, Try.ntmps47
  go_wp2
  go_loopw [1, 5] (fun s1 i wr => ∃ j : Nat, j ≤ ps.length ∧ i = .int .i64 j ∧ s1 = .int .i64 (k + 2 * (j : Int)) ∧ Hid (RowPt lo wr (.slice (some ⟨g, 0, none⟩) ps.length cap) (mkTo k ps j)) ∧ Hid (w.grownBy wr (some g))) (fun _ i _ => ps.length - (intOf i).toNat)
  case atStart => exact ⟨0, Nat.zero_le _, rfl, by simp, R0, grownBy_refl _ _⟩
  case round =>
    clear R0
    obtain ⟨j, hj, rfl, rfl, R, G⟩ := hrel
    rename World => wr
    by_cases hlt : j < ps.length
    · have RR := R.out
      have tl := mkTo_len k hj
      unfold RowPt at RR
      rw [tl] at RR
      obtain ⟨p0, p1⟩ := ptC_at (mkTo k ps j) j (by rw [tl]; exact hlt)
      have c0 := (RR.cellAt (j * 2) (by omega)).trans p0
      have f0 := RR.frozenAt
      have f0' : ∀ i, (wr.setCell ⟨g, j * 2, none⟩ (.int .i64 (k + 2 * (j : Int)))).frozen? ⟨g, i, none⟩ = false := fun i => (World.frozen?_setCell ..).trans (f0 i)
      have c1 : (wr.setCell ⟨g, j * 2, none⟩ (.int .i64 (k + 2 * (j : Int)))).cell? ⟨g, j * 2 + 1, none⟩ = _ := (cell_other (.inr (by omega)) _).trans ((RR.cellAt (j * 2 + 1) (by omega)).trans p1)
      obtain ⟨S1, S2⟩ := RowPt.setAt R.out j (k + 2 * (j : Int)) (k + 2 * (j : Int) + 1)
      rw [mkTo_step k hlt] at S1
      have T1 : Hid (RowPt lo ((wr.setCell ⟨g, j * 2, none⟩ (.int .i64 (k + 2 * (j : Int)))).setCell ⟨g, j * 2 + 1, none⟩ (.int .i64 (k + 2 * (j : Int) + 1))) (.slice (some ⟨g, 0, none⟩) ps.length cap) (mkTo k ps (j + 1))) := S1
      have T2 : Hid (w.grownBy ((wr.setCell ⟨g, j * 2, none⟩ (.int .i64 (k + 2 * (j : Int)))).setCell ⟨g, j * 2 + 1, none⟩ (.int .i64 (k + 2 * (j : Int) + 1))) (some g)) := grownBy_trans G.out S2
      clear S1 S2 RR R G p0 p1 tl
      generalize ((mkTo k ps j)[j]?.getD (0, 0)).1 = z0 at *
      generalize ((mkTo k ps j)[j]?.getD (0, 0)).2 = z1 at *
      go_wp2
      go_roundw
      case rel => exact ⟨j + 1, by omega, by go_num, (by congr 1; push_cast; omega), T1, T2⟩
      case measure => simp [intOf]; omega
    · obtain rfl : j = ps.length := by omega
      have RR := R.out
      rw [mkTo_all] at RR
      have R2 : Hid (RowPt lo wr (.slice (some ⟨g, 0, none⟩) ps.length cap) (mkRow k ps.length)) := RR
      clear RR R
      go_wp2
      go_ret
      exact ⟨rfl, R2.out, G.out⟩

set_option maxRecDepth 20000 in
set_option maxHeartbeats 1000000 in
theorem heldPtsR (a : Option Addr) (cap m : Nat) (k : Int) (w : World) (h : SeesP w a cap (mkRow k m)) (hm : m ≤ 1048576) (k0 : 0 ≤ k) (k1 : k ≤ 1000000000000) :
    Calls Try.prog 48 #[.slice a m cap, .int .i64 k] w fun e w' => e = .returned (.int .i64 (k + 2 * (m : Int))) ∧ w' = w := by
  have hx := h.max
  have hf := h.fits
  rw [mkRow_len] at hf
  unfold maxLen at hx
  go_enter Try.func48, Try.ntmps48
  go_wp2
  go_loopw [1, 5] (fun s1 i wr => ∃ j : Nat, j ≤ m ∧ i = .int .i64 j ∧ s1 = .int .i64 (k + 2 * (j : Int)) ∧ Hid (wr = w)) (fun _ i _ => m - (intOf i).toNat)
  case atStart => exact ⟨0, Nat.zero_le _, rfl, by simp, rfl⟩
  case round =>
    obtain ⟨j, hj, rfl, rfl, hw⟩ := hrel
    rename World => wr
    by_cases hlt : j < m
    · obtain ⟨b, off, rfl, hc⟩ := h.cells (by intro e; have := mkRow_len k m; rw [e] at this; simp at this; omega)
      obtain ⟨c0, c1⟩ := hc j (by rw [mkRow_len]; exact hlt)
      rw [mkRow_at k hlt, ← hw.out] at c0 c1
      have hn0 : ((k + 2 * (j : Int)) != (k + 2 * (j : Int))) = false := by simp
      have hn1 : ((k + 2 * (j : Int) + 1) != (k + 2 * (j : Int) + 1)) = false := by simp
      clear hc
      go_wp2
      go_roundw
      case rel => exact ⟨j + 1, by omega, by go_num, (by congr 1; push_cast; omega), hw⟩
      case measure => simp [intOf]; omega
    · obtain rfl : j = m := by omega
      go_wp2
      go_ret
      exact ⟨rfl, hw.out⟩

/-- The mark of the row j's first number. -/
def kOf (rs : List (List (Int × Int))) (j : Nat) : Int := 1 + 2 * ((upto rs j : Int) - (rs.length : Int))
theorem kOf_zero (rs : List (List (Int × Int))) : kOf rs 0 = 1 := by simp [kOf, upto]
theorem kOf_succ (rs : List (List (Int × Int))) (j : Nat) : kOf rs (j + 1) = kOf rs j + 2 * ((rowA rs j).length : Int) := by simp only [kOf, upto]; push_cast; omega
theorem kOf_bd {rs : List (List (Int × Int))} (hs : upto rs rs.length ≤ 1048576) {j : Nat} (hj : j ≤ rs.length) : 0 ≤ kOf rs j ∧ kOf rs j ≤ 1000000000000 := by
  have h1 := upto_le rs j (rs.length - j)
  rw [show j + (rs.length - j) = rs.length by omega] at h1
  have h2 := upto_le rs 0 j
  simp only [upto, Nat.zero_add] at h2
  unfold kOf
  omega
/-- The first j rows are marked. -/
def mkRs (rs : List (List (Int × Int))) : Nat → List (List (Int × Int))
  | 0 => rs
  | j + 1 => (mkRs rs j).set j (mkRow (kOf rs j) (rowA rs j).length)
theorem mkRs_len (rs : List (List (Int × Int))) (j : Nat) : (mkRs rs j).length = rs.length := by
  induction j with
  | zero => rfl
  | succ j ih => simp only [mkRs, List.length_set, ih]
theorem mkRs_old (rs : List (List (Int × Int))) {j i : Nat} (h : j ≤ i) : rowA (mkRs rs j) i = rowA rs i := by
  induction j with
  | zero => rfl
  | succ j ih => simp only [mkRs]; rw [rowA_set_other (by omega)]; exact ih (by omega)
theorem mkRs_new (rs : List (List (Int × Int))) {j i : Nat} (h : i < j) (hj : j ≤ rs.length) : rowA (mkRs rs j) i = mkRow (kOf rs i) (rowA rs i).length := by
  induction j with
  | zero => omega
  | succ j ih =>
    simp only [mkRs]
    by_cases e : j = i
    · subst e
      rw [rowA_set_same (by rw [mkRs_len]; omega)]
    · rw [rowA_set_other e]
      exact ih (by omega) (by omega)

/-- Nothing of another block was written. -/
def KeptBut (vs : List Value) (w w' : World) : Prop := w.heap.size ≤ w'.heap.size ∧ ∀ b, b < w.heap.size → (∀ u ∈ vs, u.ownBlock ≠ some b) → w'.heap[b]? = w.heap[b]?
theorem Box2.but {lo p : Nat} {w w' : World} {x0 x1 : Value} {vs : List Value} (h : Box2 lo w p x0 x1) (k : KeptBut vs w w') (ne : ∀ u ∈ vs, u.ownBlock ≠ some p) : Box2 lo w' p x0 x1 := by
  have hb := k.2 p h.lt ne
  exact ⟨(World.cell?_of_block (a := ⟨p, 0, none⟩) hb).trans h.c0, (World.cell?_of_block (a := ⟨p, 1, none⟩) hb).trans h.c1, fun o => (World.frozen?_of_block (a := ⟨p, o, none⟩) hb).trans (h.fr o), h.lo⟩
theorem ShR.under {lo b : Nat} {w w' : World} {v : Value} {vs : List Value} {rs : List (List (Int × Int))} (h : ShR lo w v vs rs) (hb : Below b w w') (nv : ∀ k, v.ownBlock = some k → k < b) (nr : ∀ u ∈ vs, ∀ k, u.ownBlock = some k → k < b) : ShR lo w' v vs rs := by
  have keep : ∀ {e size n : Nat} {u : Value} {xs : List Value}, w.ownsRow lo e size u n xs → (∀ k, u.ownBlock = some k → k < b) → w'.ownsRow lo e size u n xs := by
    intro e size n u xs q nu
    refine ⟨q.1, ?_⟩
    rcases q.2 with q2 | ⟨g, cap, cur, hv, q3, q4, q5⟩
    · exact .inl q2
    · exact .inr ⟨g, cap, cur, hv, q3, (hb.block g (nu g (by rw [hv]; rfl))).trans q4, q5⟩
  exact ⟨keep h.own nv, h.len, fun i u hu => keep (h.rows i u hu) (nr u (List.mem_of_getElem? hu)), h.ne, h.apart⟩

set_option maxRecDepth 20000 in
set_option maxHeartbeats 1000000 in
theorem markRowsR (lo : Nat) (a : Option Addr) (c : Nat) (vs : List Value) (rs : List (List (Int × Int))) (w : World) (h : ShR lo w (.slice a rs.length c) vs rs) (hs : upto rs rs.length ≤ 1048576) :
    Calls Try.prog 36 #[.slice a rs.length c, .int .i64 1] w fun e w' => e = .returned (.int .i64 (kOf rs rs.length)) ∧ ShR lo w' (.slice a rs.length c) vs (mkRs rs rs.length) ∧ Below lo w w' ∧ KeptBut vs w w' := by
  have sf := h.sees.fits
  have sm := h.sees.max
  unfold maxLen at sm
  have HS : Hid (upto rs rs.length ≤ 1048576) := hs
  have K0 : Hid (kOf rs 0 = 1) := kOf_zero rs
  have HH : Hid (ShR lo w (.slice a rs.length c) vs rs) := h
  have hlo : Hid (rs ≠ [] → lo ≤ w.heap.size) := fun hn => by
    obtain ⟨g, c0, _, _, e, _⟩ := h.at' (List.length_pos_iff.2 hn)
    have := h.lts.1 g (by rw [e]; rfl)
    omega
  clear hs h
  go_enter Try.func36, Try.ntmps36
  go_wp2
  go_loopw [1, 5] (fun s1 i wr => ∃ (j : Nat) (k : Int), j ≤ rs.length ∧ i = .int .i64 j ∧ s1 = .int .i64 k ∧ Hid (k = kOf rs j) ∧ Hid (ShR lo wr (.slice a rs.length c) vs (mkRs rs j)) ∧ Hid (Below lo w wr) ∧ Hid (KeptBut vs w wr)) (fun _ i _ => rs.length - (intOf i).toNat)
  case atStart => exact ⟨0, 1, Nat.zero_le _, rfl, rfl, K0.out.symm, HH, Below.refl _ _, ⟨Nat.le_refl _, fun _ _ _ => rfl⟩⟩
  case round =>
    clear HH
    obtain ⟨j, k, hj, rfl, rfl, hk, S, B, KB⟩ := hrel
    rename World => wr
    obtain ⟨kb0, kb1⟩ := kOf_bd HS.out hj
    rw [← hk.out] at kb0 kb1
    by_cases hlt : j < rs.length
    · obtain ⟨g, c0, a', c', e, hv, hc, R⟩ := S.out.at' (i := j) (by rw [mkRs_len]; exact hlt)
      rw [mkRs_old rs (Nat.le_refl j)] at hv hc R
      injection e with e1 e2 e3
      subst e1
      have hle := upto_le rs (j + 1) (rs.length - (j + 1))
      rw [show j + 1 + (rs.length - (j + 1)) = rs.length by omega] at hle
      have hsz := HS.out
      have hrl : (rowA rs j).length ≤ 1048576 := by simp only [upto] at hle; omega
      have KN : Hid (k + 2 * ((rowA rs j).length : Int) = kOf rs (j + 1)) := by show _ = _; rw [kOf_succ, hk.out]
      have hw0 := hlo.out (by intro e; simp [e] at hlt)
      clear hle hsz e2 e3
      rcases Nat.eq_zero_or_pos (rowA rs j).length with z | z
      · have SN : Hid (ShR lo wr (.slice (some ⟨g, 0, none⟩) rs.length c) vs (mkRs rs (j + 1))) := by
          refine ShR.set S.out (by rw [mkRs_len]; exact hlt) hv (?_) (grownBy_refl _ _)
          rw [z]
          have q : rowA rs j = [] := List.eq_nil_of_length_eq_zero z
          rw [q] at R
          exact R
        rw [z] at hc KN
        clear S hv R z hrl
        go_wp2_with fail
        refine (markNone a' c' k _).mono ?_
        rintro e w3 ⟨rfl, rfl⟩
        go_wp2
        go_roundw
        case rel => exact ⟨j + 1, k, by omega, by go_num, rfl, (by have := KN.out; show _ = _; omega), SN, B, KB⟩
        case measure => simp [intOf]; omega
      · obtain ⟨g', e'⟩ : ∃ g', a' = some ⟨g', 0, none⟩ := by
          rcases R.2 with ⟨_, h0⟩ | ⟨q, cap, cur, hv, _⟩
          · omega
          · injection hv with hv
            exact ⟨q, hv⟩
        subst e'
        have nl := (World.ownsRow.lt R g' rfl).1
        have R' : Hid (RowPt lo wr (.slice (some ⟨g', 0, none⟩) (rowA rs j).length c') (rowA rs j)) := R
        have HR : Hid ((rowA rs j).length ≤ 1048576) := hrl
        have HV : Hid (vs[j]? = some (.slice (some ⟨g', 0, none⟩) (rowA rs j).length c')) := hv
        have HK : Hid (∀ W, RowPt lo W (.slice (some ⟨g', 0, none⟩) (rowA rs j).length c') (mkRow k (rowA rs j).length) → wr.grownBy W (some g') → ShR lo W (.slice (some ⟨g, 0, none⟩) rs.length c) vs (mkRs rs (j + 1))) := fun W RW GW => by
          rw [hk.out] at RW
          exact ShR.set S.out (by rw [mkRs_len]; exact hlt) hv RW GW
        clear hv R hrl S
        generalize rowA rs j = ps at *
        go_wp2_with fail
        refine (markPtsR lo g' c' k ps _ R'.out HR.out kb0 kb1).mono ?_
        rintro e w3 ⟨rfl, R3, G3⟩
        have SN : Hid (ShR lo w3 (.slice (some ⟨g, 0, none⟩) rs.length c) vs (mkRs rs (j + 1))) := HK.out w3 R3 G3
        have BN : Hid (Below lo w w3) := B.out.grown G3 (Nat.le_trans hw0 (by have := B.out.size; omega)) (fun k hk => by injection hk with hk; omega)
        have KN2 : Hid (KeptBut vs w w3) := ⟨Nat.le_trans KB.out.1 G3.size, fun b hb hu => (G3.block b (Nat.lt_of_lt_of_le hb KB.out.1) (fun e => hu _ (List.mem_of_getElem? HV.out) e.symm)).trans (KB.out.2 b hb hu)⟩
        clear R3 G3 HK R' HV B KB
        go_wp2
        go_roundw
        case rel => exact ⟨j + 1, _, by omega, by go_num, rfl, KN, SN, BN, KN2⟩
        case measure => simp [intOf]; omega
    · obtain rfl : j = rs.length := by omega
      go_wp2
      go_ret
      exact ⟨congrArg (fun z => Ending.returned (Value.int .i64 z)) hk.out, S.out, B.out, KB.out⟩

set_option maxRecDepth 20000 in
set_option maxHeartbeats 1000000 in
theorem heldRowsR (a : Option Addr) (c : Nat) (rs : List (List (Int × Int))) (w : World) (h : SeesS w a c (mkRs rs rs.length)) (hs : upto rs rs.length ≤ 1048576) :
    Calls Try.prog 37 #[.slice a rs.length c, .int .i64 1] w fun e w' => e = .returned (.int .i64 (kOf rs rs.length)) ∧ w' = w := by
  have sf := h.fits
  have sm := h.max
  rw [mkRs_len] at sf
  unfold maxLen at sm
  have HS : Hid (upto rs rs.length ≤ 1048576) := hs
  have K0 : Hid (kOf rs 0 = 1) := kOf_zero rs
  clear hs
  go_enter Try.func37, Try.ntmps37
  go_wp2
  go_loopw [1, 5] (fun s1 i wr => ∃ (j : Nat) (k : Int), j ≤ rs.length ∧ i = .int .i64 j ∧ s1 = .int .i64 k ∧ Hid (k = kOf rs j) ∧ Hid (wr = w)) (fun _ i _ => rs.length - (intOf i).toNat)
  case atStart => exact ⟨0, 1, Nat.zero_le _, rfl, rfl, K0.out.symm, rfl⟩
  case round =>
    obtain ⟨j, k, hj, rfl, rfl, hk, hw⟩ := hrel
    rename World => wr
    obtain ⟨kb0, kb1⟩ := kOf_bd HS.out hj
    rw [← hk.out] at kb0 kb1
    by_cases hlt : j < rs.length
    · obtain ⟨b, off, rfl, hc⟩ := h.cells (by intro e; have := mkRs_len rs rs.length; rw [e] at this; simp at this; omega)
      obtain ⟨a', c', g0, P⟩ := hc j (by rw [mkRs_len]; exact hlt)
      rw [mkRs_new rs hlt (Nat.le_refl _), ← hk.out, ← hw.out] at P
      rw [mkRs_new rs hlt (Nat.le_refl _), mkRow_len, ← hw.out] at g0
      have hle := upto_le rs (j + 1) (rs.length - (j + 1))
      rw [show j + 1 + (rs.length - (j + 1)) = rs.length by omega] at hle
      have hsz := HS.out
      have hrl : (rowA rs j).length ≤ 1048576 := by simp only [upto] at hle; omega
      have HR : Hid ((rowA rs j).length ≤ 1048576) := hrl
      have KN : Hid (k + 2 * ((rowA rs j).length : Int) = kOf rs (j + 1)) := by show _ = _; rw [kOf_succ, hk.out]
      have HP : Hid (SeesP wr a' c' (mkRow k (rowA rs j).length)) := P
      have pos : 0 ≤ k + 2 * ((rowA rs j).length : Int) := by omega
      clear hle hsz hc P hrl
      generalize (rowA rs j).length = m at *
      go_wp2_with fail
      refine (heldPtsR a' c' m k _ HP.out HR.out kb0 kb1).mono ?_
      rintro e w3 ⟨rfl, rfl⟩
      go_wp2
      go_roundw
      case rel => exact ⟨j + 1, _, by omega, by go_num, rfl, KN, hw⟩
      case measure => simp [intOf]; omega
    · obtain rfl : j = rs.length := by omega
      go_wp2
      go_ret
      exact ⟨congrArg (fun z => Ending.returned (Value.int .i64 z)) hk.out, hw.out⟩

theorem markShR (n : Int) (lo : Nat) (a : Option Addr) (c : Nat) (vs : List Value) (rs : List (List (Int × Int))) (w : World) (h : ShR lo w (.slice a rs.length c) vs rs) (hs : upto rs rs.length ≤ 1048576) :
    Calls Try.prog 20 #[.agg #[.int .i64 n, .slice a rs.length c], .int .i64 1] w fun e w' => e = .returned (.int .i64 (kOf rs rs.length)) ∧ ShR lo w' (.slice a rs.length c) vs (mkRs rs rs.length) ∧ Below lo (w.alloc (.cells #[.int .i64 n, .slice a rs.length c] 31)) w' ∧ KeptBut vs (w.alloc (.cells #[.int .i64 n, .slice a rs.length c] 31)) w' := by
  have bn := below1 w (.cells #[.int .i64 n, .slice a rs.length c] 31)
  have S := h.below bn
  have HS : Hid (upto rs rs.length ≤ 1048576) := hs
  obtain ⟨k, HK⟩ : ∃ k, Hid (kOf rs rs.length = k) := ⟨_, rfl⟩
  clear hs h
  go_enter Try.func20, Try.ntmps20
  go_wp2_with fail
  refine (markRowsR lo a c vs rs _ S HS.out).mono ?_
  rintro e w3 ⟨rfl, S3, B3, K3⟩
  have T3 : Hid (ShR lo w3 (.slice a rs.length c) vs (mkRs rs rs.length)) := S3
  rw [HK.out]
  clear S3 S
  go_wp2
  go_ret
  exact ⟨by rw [HK.out]; rfl, T3.out, B3, K3⟩
theorem heldShR (n : Int) (a : Option Addr) (c : Nat) (rs : List (List (Int × Int))) (w : World) (h : SeesS w a c (mkRs rs rs.length)) (hs : upto rs rs.length ≤ 1048576) :
    Calls Try.prog 21 #[.agg #[.int .i64 n, .slice a rs.length c], .int .i64 1] w fun e w' => e = .returned (.int .i64 (kOf rs rs.length)) ∧ Below w.heap.size w w' := by
  have bn := below1 w (.cells #[.int .i64 n, .slice a rs.length c] 31)
  have S := h.below bn
  have HS : Hid (upto rs rs.length ≤ 1048576) := hs
  obtain ⟨k, HK⟩ : ∃ k, Hid (kOf rs rs.length = k) := ⟨_, rfl⟩
  have q0 : 0 ≤ k := by rw [← HK.out]; exact (kOf_bd hs (Nat.le_refl _)).1
  clear hs h
  go_enter Try.func21, Try.ntmps21
  go_wp2_with fail
  refine (heldRowsR a c rs _ S HS.out).mono ?_
  rintro e w3 ⟨rfl, rfl⟩
  rw [HK.out]
  clear S
  go_wp2
  go_ret
  exact ⟨by rw [HK.out]; rfl, bn⟩
end Go.Proofs.Ytakfjpenpnjlhaa
