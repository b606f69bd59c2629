/- The laws' helpers on disks: whether two are equal, their marks. -/
import Derived.Test.YtbgpkajgnappiaaQuR
import Derived.Test.YtbgpkajgnappiaaBase
import Derived.Deep.RegionHeld3
namespace Go.Proofs.Ytbgpkajgnappiaa
open Go.RowKit

set_option maxHeartbeats 1000000 in
theorem eqWrite_any {lo lo' : Nat} (x : Int) (a b : Option Addr) (c d : Nat) (ds : List Int) (w : World) (h : RowB lo w (.slice a ds.length c) ds) (k : RowB lo' w (.slice b ds.length d) ds) :
    Calls Try.prog 22 #[.agg #[.int .i64 x, .slice a ds.length c], .agg #[.int .i64 x, .slice b ds.length d]] w fun e w' => e = .returned (.bool true) ∧ Below w.heap.size w w' := by
  have hne : (x != x) = false := by simp
  have B := below2 w (.cells #[.int .i64 x, .slice a ds.length c] 40) (.cells #[.int .i64 x, .slice b ds.length d] 40)
  go_enter Try.func22, Try.ntmps22
  go_wp2_with fail
  refine (eqBy a b c d ds _ (h.below B) (k.below B)).mono ?_
  rintro e w1 ⟨rfl, hb⟩
  replace B := B.trans (hb.mono B.size)
  go_wp2
  go_ret
  exact ⟨rfl, B⟩

set_option maxRecDepth 20000 in
set_option maxHeartbeats 2000000 in
theorem eqWrites {lo lo' : Nat} (a b : Option Addr) (c d : Nat) (vs us : List Value) (qs : List Wr) (w : World) (h : QuR lo w (.slice a qs.length c) vs qs) (k : QuR lo' w (.slice b qs.length d) us qs) :
    Calls Try.prog 8 #[.slice a qs.length c, .slice b qs.length d] w fun e w' => e = .returned (.bool true) ∧ Below w.heap.size w w' := by
  obtain ⟨_, hf, hm⟩ := h.caps
  obtain ⟨_, kf, km⟩ := k.caps
  unfold maxLen at hm km
  have hne : ((qs.length : Int) != (qs.length : Int)) = false := by simp
  go_enter Try.func8, Try.ntmps8
  go_wp2
  go_loopw [5] (fun i wr => ∃ j : Nat, j ≤ qs.length ∧ i = .int .i64 j ∧ Below w.heap.size w wr) (fun i _ => qs.length - (intOf i).toNat)
  case atStart => exact ⟨0, Nat.zero_le _, rfl, Below.refl _ _⟩
  case round =>
    obtain ⟨j, hj, rfl, B⟩ := hrel
    rename World => wr
    by_cases hlt : j < qs.length
    · obtain ⟨b1, c1, a3, c3, e, _, g1, g2, p1, _⟩ := (h.below B).at' hlt
      injection e with e1 e2 e3
      subst e1
      obtain ⟨b2, c2, a4, c4, e, _, g3, g4, p2, _⟩ := (k.below B).at' hlt
      injection e with e1 e4 e5
      subst e1
      clear e2 e3 e4 e5
      generalize wrN qs j = q at *
      obtain ⟨x, ds⟩ := q
      dsimp only at g1 g2 g3 g4 p1 p2
      go_wp2_with fail
      have k0 : wr.cell? ⟨b1, j * 2, none⟩ = some (.int .i64 x) ∧ wr.cell? ⟨b1, j * 2 + 1, none⟩ = some (.slice a3 ds.length c3) ∧ wr.cell? ⟨b2, j * 2, none⟩ = some (.int .i64 x) ∧ wr.cell? ⟨b2, j * 2 + 1, none⟩ = some (.slice a4 ds.length c4) := ⟨g1, g2, g3, g4⟩
      have B1 : Below wr.heap.size wr wr := Below.refl _ _
      go_region_held3 (fun w' => w'.cell? ⟨b1, j * 2, none⟩ = some (.int .i64 x) ∧ w'.cell? ⟨b1, j * 2 + 1, none⟩ = some (.slice a3 ds.length c3) ∧ w'.cell? ⟨b2, j * 2, none⟩ = some (.int .i64 x) ∧ w'.cell? ⟨b2, j * 2 + 1, none⟩ = some (.slice a4 ds.length c4))
        (first | exact k0 | exact ⟨bat B1 k0.1, bat B1 k0.2.1, bat B1 k0.2.2.1, bat B1 k0.2.2.2⟩)
        ((go_at_call 22; refine (eqWrite_any x a3 a4 c3 c4 ds _ (p1.below B1.drew) (p2.below B1.drew)).mono ?_; rintro e w5 ⟨rfl, hb⟩; replace B1 := B1.drew.trans (hb.mono B1.drew.size)))
      replace B := B.trans (B1.mono B.size)
      go_wp2_with fail
      go_roundw
      case rel => exact ⟨j + 1, by omega, by go_num, B⟩
      case measure => simp [intOf]; omega
    · go_wp2
      go_ret
      exact ⟨rfl, B⟩

/-- Nothing of another block was written. -/
def ButQ (vs : List Value) (w w' : World) : Prop := w.heap.size ≤ w'.heap.size ∧ ∀ b, b < w.heap.size → (∀ u ∈ vs, u.ownBlock ≠ some b) → w'.heap[b]? = w.heap[b]?
/-- The first j writes are marked. -/
def mkQs (k : Int) (qs : List Wr) : Nat → List Wr
  | 0 => qs
  | j + 1 => (mkQs k qs j).set j (k + (uptoQ qs j : Nat), mkY (k + (uptoQ qs j : Nat) + 1) (wrN qs j).2.length)
theorem mkQs_len (k : Int) (qs : List Wr) (j : Nat) : (mkQs k qs j).length = qs.length := by
  induction j with
  | zero => rfl
  | succ j ih => simp only [mkQs, List.length_set, ih]
theorem mkQs_old (k : Int) (qs : List Wr) {j i : Nat} (h : j ≤ i) : wrN (mkQs k qs j) i = wrN qs i := by
  induction j with
  | zero => rfl
  | succ j ih => simp only [mkQs]; rw [wrN_set_other (by omega)]; exact ih (by omega)
theorem mkQs_new (k : Int) (qs : List Wr) {j i : Nat} (h : i < j) (hj : j ≤ qs.length) : wrN (mkQs k qs j) i = (k + (uptoQ qs i : Nat), mkY (k + (uptoQ qs i : Nat) + 1) (wrN qs i).2.length) := by
  induction j with
  | zero => omega
  | succ j ih =>
    simp only [mkQs]
    by_cases e : j = i
    · subst e
      rw [wrN_set_same (by rw [mkQs_len]; omega)]
    · rw [wrN_set_other e]
      exact ih (by omega) (by omega)

set_option maxRecDepth 20000 in
set_option maxHeartbeats 2000000 in
theorem markWrites {lo : Nat} (a : Option Addr) (c : Nat) (k : Int) (vs : List Value) (qs : List Wr) (w : World) (h : QuR lo w (.slice a qs.length c) vs qs) (hs : uptoQ qs qs.length ≤ 2000000) (k0 : 0 ≤ k) (k1 : k ≤ 3000000) :
    Calls Try.prog 11 #[.slice a qs.length c, .int .i64 k] w fun e w' => e = .returned (.int .i64 (k + (uptoQ qs qs.length : Nat))) ∧ QuR lo w' (.slice a qs.length c) vs (mkQs k qs qs.length) ∧ Below lo w w' ∧ ButQ (.slice a qs.length c :: vs) w w' := by
  obtain ⟨_, hf, hm⟩ := h.caps
  unfold maxLen at hm
  have HS : Hid (uptoQ qs qs.length ≤ 2000000) := hs
  have HH : Hid (QuR lo w (.slice a qs.length c) vs qs) := h
  have hlo : Hid (qs ≠ [] → lo ≤ w.heap.size) := fun hn => by
    obtain ⟨g, c0, _, _, e, _⟩ := h.at' (List.length_pos_iff.2 hn)
    have := h.lts.1 g (by rw [e]; rfl)
    omega
  clear hs h
  go_enter Try.func11, Try.ntmps11
  go_wp2
  go_loopw [1, 5] (fun s1 i wr => ∃ (j : Nat) (m : Int), j ≤ qs.length ∧ i = .int .i64 j ∧ s1 = .int .i64 m ∧ Hid (m = k + (uptoQ qs j : Nat)) ∧ Hid (QuR lo wr (.slice a qs.length c) vs (mkQs k qs j)) ∧ Hid (Below lo w wr) ∧ Hid (ButQ (.slice a qs.length c :: vs) w wr)) (fun _ i _ => qs.length - (intOf i).toNat)
  case atStart => exact ⟨0, k, Nat.zero_le _, rfl, rfl, (by show _ = _; simp [uptoQ]), HH, Below.refl _ _, ⟨Nat.le_refl _, fun _ _ _ => rfl⟩⟩
  case round =>
    clear HH
    obtain ⟨j, m, hj, rfl, rfl, hk, S, B, KB⟩ := hrel
    rename World => wr
    have ub := uptoQ_mono qs hj
    have hmb : 0 ≤ m ∧ m ≤ 5000000 := by have := HS.out; have := hk.out; omega
    obtain ⟨mb0, mb1⟩ := hmb
    clear ub
    by_cases hlt : j < qs.length
    · obtain ⟨g, c0, a', c', e, hv, hc0, hc1, R, fz⟩ := S.out.at' (i := j) (by rw [mkQs_len]; exact hlt)
      rw [mkQs_len] at e
      injection e with e1 e2 e3
      subst e1
      rw [mkQs_old k qs (Nat.le_refl j)] at hv hc0 hc1 R
      have hrow := uptoQ_row qs hlt
      have hrl : (wrN qs j).2.length ≤ 2000000 := by have := HS.out; omega
      have HR : Hid ((wrN qs j).2.length ≤ 2000000) := hrl
      obtain ⟨S2, G2⟩ := QuR.setNum S.out (i := j) (by rw [mkQs_len]; exact hlt) m
      have R2 : Hid (RowB lo (wr.setCell ⟨g, j * 2, none⟩ (.int .i64 m)) (.slice a' (wrN qs j).2.length c') (wrN qs j).2) := by
        have := S2.rows j _ hv
        rw [wrN_set_same (by rw [mkQs_len]; exact hlt), mkQs_old k qs (Nat.le_refl j)] at this
        exact this
      have hc1' : (wr.setCell ⟨g, j * 2, none⟩ (.int .i64 m)).cell? ⟨g, j * 2 + 1, none⟩ = some (.slice a' (wrN qs j).2.length c') := (cell_other (.inr (by simp)) _).trans hc1
      have KN : Hid (m + 1 + ((wrN qs j).2.length : Int) = k + (uptoQ qs (j + 1) : Nat)) := by show _ = _; simp only [uptoQ]; have := hk.out; push_cast; omega
      have HK : Hid (∀ W, RowB lo W (.slice a' (wrN qs j).2.length c') (mkY (m + 1) (wrN qs j).2.length) → (wr.setCell ⟨g, j * 2, none⟩ (.int .i64 m)).grownBy W (Value.slice a' (wrN qs j).2.length c').ownBlock → QuR lo W (.slice (some ⟨g, 0, none⟩) qs.length c) vs (mkQs k qs (j + 1)) ∧ Below lo w W ∧ ButQ (.slice (some ⟨g, 0, none⟩) qs.length c :: vs) w W) := fun W RW GW => by
        have S3 := QuR.set S2 (i := j) (by rw [List.length_set, mkQs_len]; exact hlt) hv RW GW
        have gl := (S.out.lts.1 g rfl).1
        have hwl := hlo.out (by intro e; simp [e] at hlt)
        refine ⟨?_, ?_, ?_⟩
        · rw [wrN_set_same (by rw [mkQs_len]; exact hlt), List.set_set] at S3
          simp only [mkQs]
          rw [← hk.out]
          exact S3
        · have B2 := B.out.grown G2 (by have := B.out.size; omega) (fun k hk => by injection hk with hk; omega)
          refine B2.grown GW (by have := B2.size; omega) (fun k hk => ?_)
          exact (S.out.lts.2 _ (List.mem_of_getElem? hv) k hk).1
        · refine ⟨Nat.le_trans KB.out.1 (Nat.le_trans G2.size GW.size), fun b hb hu => ?_⟩
          have l1 := Nat.lt_of_lt_of_le hb KB.out.1
          refine (GW.block b (Nat.lt_of_lt_of_le l1 G2.size) (fun e => hu _ (List.mem_cons_of_mem _ (List.mem_of_getElem? hv)) e.symm)).trans ((G2.block b l1 (fun e => hu _ (List.mem_cons_self ..) (by rw [e]; rfl))).trans (KB.out.2 b hb hu))
      clear hv R S S2 G2 hrow hrl e2 e3 hc1
      generalize wrN qs j = q at *
      obtain ⟨x, ds⟩ := q
      dsimp only at hc0 hc1' R2 KN HK HR
      go_wp2_with fail
      refine (markBy a' c' (m + 1) ds _ R2.out HR.out (by omega) (by omega)).mono ?_
      rintro e w3 ⟨rfl, R3, G3⟩
      rw [mkY_len] at R3
      obtain ⟨S4, B4, K4⟩ := HK.out w3 R3 G3
      have S5 : Hid (QuR lo w3 (.slice (some ⟨g, 0, none⟩) qs.length c) vs (mkQs k qs (j + 1))) := S4
      have B5 : Hid (Below lo w w3) := B4
      have K5 : Hid (ButQ (.slice (some ⟨g, 0, none⟩) qs.length c :: vs) w w3) := K4
      clear R3 G3 S4 B4 K4 HK hc0 hc1' R2 fz
      go_wp2
      go_roundw
      case rel => exact ⟨j + 1, _, by omega, by go_num, rfl, KN, S5, B5, K5⟩
      case measure => simp [intOf]; omega
    · obtain rfl : j = qs.length := by omega
      go_wp2
      go_ret
      exact ⟨congrArg (fun z => Ending.returned (Value.int .i64 z)) hk.out, S.out, B.out, KB.out⟩

set_option maxRecDepth 20000 in
set_option maxHeartbeats 2000000 in
theorem heldWrites {lo : Nat} (a : Option Addr) (c : Nat) (k : Int) (vs : List Value) (qs : List Wr) (w : World) (h : QuR lo w (.slice a qs.length c) vs (mkQs k qs qs.length)) (hs : uptoQ qs qs.length ≤ 2000000) (k0 : 0 ≤ k) (k1 : k ≤ 3000000) :
    Calls Try.prog 12 #[.slice a qs.length c, .int .i64 k] w fun e w' => e = .returned (.int .i64 (k + (uptoQ qs qs.length : Nat))) ∧ w' = w := by
  obtain ⟨-, hf, hm⟩ := h.caps
  rw [mkQs_len] at hf
  unfold maxLen at hm
  have HS : Hid (uptoQ qs qs.length ≤ 2000000) := hs
  have HH : Hid (QuR lo w (.slice a qs.length c) vs (mkQs k qs qs.length)) := h
  clear hs h
  go_enter Try.func12, Try.ntmps12
  go_wp2
  go_loopw [1, 5] (fun s1 i wr => ∃ (j : Nat) (m : Int), j ≤ qs.length ∧ i = .int .i64 j ∧ s1 = .int .i64 m ∧ Hid (m = k + (uptoQ qs j : Nat)) ∧ Hid (wr = w)) (fun _ i _ => qs.length - (intOf i).toNat)
  case atStart => exact ⟨0, k, Nat.zero_le _, rfl, rfl, (by show _ = _; simp [uptoQ]), rfl⟩
  case round =>
    obtain ⟨j, m, hj, rfl, rfl, hk, hw⟩ := hrel
    rename World => wr
    have ub := uptoQ_mono qs hj
    have hmb : 0 ≤ m ∧ m ≤ 5000000 := by have := HS.out; have := hk.out; omega
    obtain ⟨mb0, mb1⟩ := hmb
    clear ub
    by_cases hlt : j < qs.length
    · obtain ⟨g, c0, a', c', e, hv, hc0, hc1, R, fz⟩ := HH.out.at' (i := j) (by rw [mkQs_len]; exact hlt)
      rw [mkQs_len] at e
      injection e with e1 e2 e3
      subst e1
      rw [mkQs_new k qs hlt (Nat.le_refl _), ← hk.out, ← hw.out] at hc0 hc1 R
      rw [mkY_len] at hc1
      have hrow := uptoQ_row qs hlt
      have hrl : (wrN qs j).2.length ≤ 2000000 := by have := HS.out; omega
      have HR : Hid ((wrN qs j).2.length ≤ 2000000) := hrl
      have KN : Hid (m + 1 + ((wrN qs j).2.length : Int) = k + (uptoQ qs (j + 1) : Nat)) := by show _ = _; simp only [uptoQ]; have := hk.out; push_cast; omega
      have R2 : Hid (RowB lo wr (.slice a' (mkY (m + 1) (wrN qs j).2.length).length c') (mkY (m + 1) (wrN qs j).2.length)) := R
      have hne : (m != m) = false := by simp
      have pos : 0 ≤ m + 1 + ((wrN qs j).2.length : Int) := by omega
      clear hv R HH hrow hrl e2 e3
      generalize (wrN qs j).2.length = n at *
      dsimp only at hc0 hc1
      go_wp2_with fail
      refine (heldBy a' c' n (m + 1) _ R2.out HR.out (by omega) (by omega)).mono ?_
      rintro e w3 ⟨rfl, rfl⟩
      go_wp2
      go_roundw
      case rel => exact ⟨j + 1, _, by omega, by go_num, rfl, KN, hw⟩
      case measure => simp [intOf]; omega
    · obtain rfl : j = qs.length := by omega
      go_wp2
      go_ret
      exact ⟨congrArg (fun z => Ending.returned (Value.int .i64 z)) hk.out, hw.out⟩

end Go.Proofs.Ytbgpkajgnappiaa
