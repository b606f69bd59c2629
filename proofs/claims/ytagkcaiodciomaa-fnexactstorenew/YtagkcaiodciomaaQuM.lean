/- The laws' helpers on disks: whether two are equal, their marks. -/
import Derived.Test.YtagkcaiodciomaaQuR
import Derived.Test.YtagkcaiodciomaaTree
import Derived.Deep.RegionHeld3
namespace Go.Proofs.Ytagkcaiodciomaa
open Go.RowKit

set_option maxHeartbeats 1000000 in
theorem eqWrite_any {lo lo' : Nat} (x : Int) (a b : Option Addr) (c d : Nat) (ds : List Int) (w : World) (h : RowB lo w (.slice a ds.length c) ds) (k : RowB lo' w (.slice b ds.length d) ds) :
    Calls Try.prog 19 #[.agg #[.int .i64 x, .slice a ds.length c], .agg #[.int .i64 x, .slice b ds.length d]] w fun e w' => e = .returned (.bool true) ∧ Below w.heap.size w w' := by
  have hne : (x != x) = false := by simp
  have B := below2 w (.cells #[.int .i64 x, .slice a ds.length c] 39) (.cells #[.int .i64 x, .slice b ds.length d] 39)
  go_enter Try.func19, Try.ntmps19
  go_wp2_with fail
  refine (eqBy a b c d ds _ (h.below B) (k.below B)).mono ?_
  rintro e w1 ⟨rfl, hb⟩
  replace B := B.trans (hb.mono B.size)
  go_wp2
  go_ret
  exact ⟨rfl, B⟩

set_option maxRecDepth 20000 in
set_option maxHeartbeats 2000000 in
theorem eqWrites {lo lo' : Nat} (a b : Option Addr) (c d : Nat) (vs us : List Value) (qs : List Wr) (w : World) (h : QuR lo w (.slice a qs.length c) vs qs) (k : QuR lo' w (.slice b qs.length d) us qs) :
    Calls Try.prog 14 #[.slice a qs.length c, .slice b qs.length d] w fun e w' => e = .returned (.bool true) ∧ Below w.heap.size w w' := by
  obtain ⟨_, hf, hm⟩ := h.caps
  obtain ⟨_, kf, km⟩ := k.caps
  unfold maxLen at hm km
  have hne : ((qs.length : Int) != (qs.length : Int)) = false := by simp
  go_enter Try.func14, Try.ntmps14
  go_wp2
  go_loopw [5] (fun i wr => ∃ j : Nat, j ≤ qs.length ∧ i = .int .i64 j ∧ Below w.heap.size w wr) (fun i _ => qs.length - (intOf i).toNat)
  case atStart => exact ⟨0, Nat.zero_le _, rfl, Below.refl _ _⟩
  case round =>
    obtain ⟨j, hj, rfl, B⟩ := hrel
    rename World => wr
    by_cases hlt : j < qs.length
    · obtain ⟨b1, c1, a3, c3, e, _, g1, g2, p1, _⟩ := (h.below B).at' hlt
      injection e with e1 e2 e3
      subst e1
      obtain ⟨b2, c2, a4, c4, e, _, g3, g4, p2, _⟩ := (k.below B).at' hlt
      injection e with e1 e4 e5
      subst e1
      clear e2 e3 e4 e5
      generalize wrN qs j = q at *
      obtain ⟨x, ds⟩ := q
      dsimp only at g1 g2 g3 g4 p1 p2
      go_wp2_with fail
      have k0 : wr.cell? ⟨b1, j * 2, none⟩ = some (.int .i64 x) ∧ wr.cell? ⟨b1, j * 2 + 1, none⟩ = some (.slice a3 ds.length c3) ∧ wr.cell? ⟨b2, j * 2, none⟩ = some (.int .i64 x) ∧ wr.cell? ⟨b2, j * 2 + 1, none⟩ = some (.slice a4 ds.length c4) := ⟨g1, g2, g3, g4⟩
      have B1 : Below wr.heap.size wr wr := Below.refl _ _
      go_region_held3 (fun w' => w'.cell? ⟨b1, j * 2, none⟩ = some (.int .i64 x) ∧ w'.cell? ⟨b1, j * 2 + 1, none⟩ = some (.slice a3 ds.length c3) ∧ w'.cell? ⟨b2, j * 2, none⟩ = some (.int .i64 x) ∧ w'.cell? ⟨b2, j * 2 + 1, none⟩ = some (.slice a4 ds.length c4))
        (first | exact k0 | exact ⟨bat B1 k0.1, bat B1 k0.2.1, bat B1 k0.2.2.1, bat B1 k0.2.2.2⟩)
        ((go_at_call 19; refine (eqWrite_any x a3 a4 c3 c4 ds _ (p1.below B1.drew) (p2.below B1.drew)).mono ?_; rintro e w5 ⟨rfl, hb⟩; replace B1 := B1.drew.trans (hb.mono B1.drew.size)))
      replace B := B.trans (B1.mono B.size)
      go_wp2_with fail
      go_roundw
      case rel => exact ⟨j + 1, by omega, by go_num, B⟩
      case measure => simp [intOf]; omega
    · go_wp2
      go_ret
      exact ⟨rfl, B⟩

set_option maxHeartbeats 1000000 in
theorem eqDisk_any {lo lo' : Nat} (a a2 b b2 : Option Addr) (c c2 d d2 : Nat) (vs us : List Value) (bs : List Int) (qs : List Wr) (w : World) (h : DkR lo w (.slice a bs.length c) (.slice a2 qs.length c2) vs bs qs) (k : DkR lo' w (.slice b bs.length d) (.slice b2 qs.length d2) us bs qs) :
    Calls Try.prog 6 #[.agg #[.slice a bs.length c, .slice a2 qs.length c2], .agg #[.slice b bs.length d, .slice b2 qs.length d2]] w fun e w' => e = .returned (.bool true) ∧ Below w.heap.size w w' := by
  have B := below2 w (.cells #[.slice a bs.length c, .slice a2 qs.length c2] 25) (.cells #[.slice b bs.length d, .slice b2 qs.length d2] 25)
  have X1 := (Box2.new w (lo := 0) (by omega) (.slice a bs.length c) (.slice a2 qs.length c2) 25).below (below1 _ (.cells #[.slice b bs.length d, .slice b2 qs.length d2] 25))
  have X2 := Box2.new (w.alloc (.cells #[.slice a bs.length c, .slice a2 qs.length c2] 25)) (lo := 0) (by omega) (.slice b bs.length d) (.slice b2 qs.length d2) 25
  rw [show (w.alloc (.cells #[.slice a bs.length c, .slice a2 qs.length c2] 25)).heap.size = w.heap.size + 1 by simp] at X2
  go_enter Try.func6, Try.ntmps6
  go_wp2_with fail
  refine (eqBy a b c d bs _ (h.row.below B) (k.row.below B)).mono ?_
  rintro e w1 ⟨rfl, hb⟩
  replace X1 := X1.below hb
  replace X2 := X2.below hb
  replace B := B.trans (hb.mono B.size)
  clear hb
  obtain ⟨x0, x1, _, _⟩ := id X1
  obtain ⟨y0, y1, _, _⟩ := id X2
  go_wp2_with fail
  refine (eqWrites a2 b2 c2 d2 vs us qs _ (h.que.below B) (k.que.below B)).mono ?_
  rintro e w2 ⟨rfl, hb⟩
  replace B := B.trans (hb.mono B.size)
  go_wp2
  go_ret
  exact ⟨rfl, B⟩

/-- Nothing of another block was written. -/
def ButQ (vs : List Value) (w w' : World) : Prop := w.heap.size ≤ w'.heap.size ∧ ∀ b, b < w.heap.size → (∀ u ∈ vs, u.ownBlock ≠ some b) → w'.heap[b]? = w.heap[b]?
/-- The first j writes are marked. -/
def mkQs (k : Int) (qs : List Wr) : Nat → List Wr
  | 0 => qs
  | j + 1 => (mkQs k qs j).set j (k + (uptoQ qs j : Nat), mkY (k + (uptoQ qs j : Nat) + 1) (wrN qs j).2.length)
theorem mkQs_len (k : Int) (qs : List Wr) (j : Nat) : (mkQs k qs j).length = qs.length := by
  induction j with
  | zero => rfl
  | succ j ih => simp only [mkQs, List.length_set, ih]
theorem mkQs_old (k : Int) (qs : List Wr) {j i : Nat} (h : j ≤ i) : wrN (mkQs k qs j) i = wrN qs i := by
  induction j with
  | zero => rfl
  | succ j ih => simp only [mkQs]; rw [wrN_set_other (by omega)]; exact ih (by omega)
theorem mkQs_new (k : Int) (qs : List Wr) {j i : Nat} (h : i < j) (hj : j ≤ qs.length) : wrN (mkQs k qs j) i = (k + (uptoQ qs i : Nat), mkY (k + (uptoQ qs i : Nat) + 1) (wrN qs i).2.length) := by
  induction j with
  | zero => omega
  | succ j ih =>
    simp only [mkQs]
    by_cases e : j = i
    · subst e
      rw [wrN_set_same (by rw [mkQs_len]; omega)]
    · rw [wrN_set_other e]
      exact ih (by omega) (by omega)

set_option maxRecDepth 20000 in
set_option maxHeartbeats 2000000 in
theorem markWrites {lo : Nat} (a : Option Addr) (c : Nat) (k : Int) (vs : List Value) (qs : List Wr) (w : World) (h : QuR lo w (.slice a qs.length c) vs qs) (hs : uptoQ qs qs.length ≤ 2000000) (k0 : 0 ≤ k) (k1 : k ≤ 3000000) :
    Calls Try.prog 16 #[.slice a qs.length c, .int .i64 k] w fun e w' => e = .returned (.int .i64 (k + (uptoQ qs qs.length : Nat))) ∧ QuR lo w' (.slice a qs.length c) vs (mkQs k qs qs.length) ∧ Below lo w w' ∧ ButQ (.slice a qs.length c :: vs) w w' := by
  obtain ⟨_, hf, hm⟩ := h.caps
  unfold maxLen at hm
  have HS : Hid (uptoQ qs qs.length ≤ 2000000) := hs
  have HH : Hid (QuR lo w (.slice a qs.length c) vs qs) := h
  have hlo : Hid (qs ≠ [] → lo ≤ w.heap.size) := fun hn => by
    obtain ⟨g, c0, _, _, e, _⟩ := h.at' (List.length_pos_iff.2 hn)
    have := h.lts.1 g (by rw [e]; rfl)
    omega
  clear hs h
  go_enter Try.func16, Try.ntmps16
  go_wp2
  go_loopw [1, 5] (fun s1 i wr => ∃ (j : Nat) (m : Int), j ≤ qs.length ∧ i = .int .i64 j ∧ s1 = .int .i64 m ∧ Hid (m = k + (uptoQ qs j : Nat)) ∧ Hid (QuR lo wr (.slice a qs.length c) vs (mkQs k qs j)) ∧ Hid (Below lo w wr) ∧ Hid (ButQ (.slice a qs.length c :: vs) w wr)) (fun _ i _ => qs.length - (intOf i).toNat)
  case atStart => exact ⟨0, k, Nat.zero_le _, rfl, rfl, (by show _ = _; simp [uptoQ]), HH, Below.refl _ _, ⟨Nat.le_refl _, fun _ _ _ => rfl⟩⟩
  case round =>
    clear HH
    obtain ⟨j, m, hj, rfl, rfl, hk, S, B, KB⟩ := hrel
    rename World => wr
    have ub := uptoQ_mono qs hj
    have hmb : 0 ≤ m ∧ m ≤ 5000000 := by have := HS.out; have := hk.out; omega
    obtain ⟨mb0, mb1⟩ := hmb
    clear ub
    by_cases hlt : j < qs.length
    · obtain ⟨g, c0, a', c', e, hv, hc0, hc1, R, fz⟩ := S.out.at' (i := j) (by rw [mkQs_len]; exact hlt)
      rw [mkQs_len] at e
      injection e with e1 e2 e3
      subst e1
      rw [mkQs_old k qs (Nat.le_refl j)] at hv hc0 hc1 R
      have hrow := uptoQ_row qs hlt
      have hrl : (wrN qs j).2.length ≤ 2000000 := by have := HS.out; omega
      have HR : Hid ((wrN qs j).2.length ≤ 2000000) := hrl
      obtain ⟨S2, G2⟩ := QuR.setNum S.out (i := j) (by rw [mkQs_len]; exact hlt) m
      have R2 : Hid (RowB lo (wr.setCell ⟨g, j * 2, none⟩ (.int .i64 m)) (.slice a' (wrN qs j).2.length c') (wrN qs j).2) := by
        have := S2.rows j _ hv
        rw [wrN_set_same (by rw [mkQs_len]; exact hlt), mkQs_old k qs (Nat.le_refl j)] at this
        exact this
      have hc1' : (wr.setCell ⟨g, j * 2, none⟩ (.int .i64 m)).cell? ⟨g, j * 2 + 1, none⟩ = some (.slice a' (wrN qs j).2.length c') := (cell_other (.inr (by simp)) _).trans hc1
      have KN : Hid (m + 1 + ((wrN qs j).2.length : Int) = k + (uptoQ qs (j + 1) : Nat)) := by show _ = _; simp only [uptoQ]; have := hk.out; push_cast; omega
      have HK : Hid (∀ W, RowB lo W (.slice a' (wrN qs j).2.length c') (mkY (m + 1) (wrN qs j).2.length) → (wr.setCell ⟨g, j * 2, none⟩ (.int .i64 m)).grownBy W (Value.slice a' (wrN qs j).2.length c').ownBlock → QuR lo W (.slice (some ⟨g, 0, none⟩) qs.length c) vs (mkQs k qs (j + 1)) ∧ Below lo w W ∧ ButQ (.slice (some ⟨g, 0, none⟩) qs.length c :: vs) w W) := fun W RW GW => by
        have S3 := QuR.set S2 (i := j) (by rw [List.length_set, mkQs_len]; exact hlt) hv RW GW
        have gl := (S.out.lts.1 g rfl).1
        have hwl := hlo.out (by intro e; simp [e] at hlt)
        refine ⟨?_, ?_, ?_⟩
        · rw [wrN_set_same (by rw [mkQs_len]; exact hlt), List.set_set] at S3
          simp only [mkQs]
          rw [← hk.out]
          exact S3
        · have B2 := B.out.grown G2 (by have := B.out.size; omega) (fun k hk => by injection hk with hk; omega)
          refine B2.grown GW (by have := B2.size; omega) (fun k hk => ?_)
          exact (S.out.lts.2 _ (List.mem_of_getElem? hv) k hk).1
        · refine ⟨Nat.le_trans KB.out.1 (Nat.le_trans G2.size GW.size), fun b hb hu => ?_⟩
          have l1 := Nat.lt_of_lt_of_le hb KB.out.1
          refine (GW.block b (Nat.lt_of_lt_of_le l1 G2.size) (fun e => hu _ (List.mem_cons_of_mem _ (List.mem_of_getElem? hv)) e.symm)).trans ((G2.block b l1 (fun e => hu _ (List.mem_cons_self ..) (by rw [e]; rfl))).trans (KB.out.2 b hb hu))
      clear hv R S S2 G2 hrow hrl e2 e3 hc1
      generalize wrN qs j = q at *
      obtain ⟨x, ds⟩ := q
      dsimp only at hc0 hc1' R2 KN HK HR
      go_wp2_with fail
      refine (markBy a' c' (m + 1) ds _ R2.out HR.out (by omega) (by omega)).mono ?_
      rintro e w3 ⟨rfl, R3, G3⟩
      rw [mkY_len] at R3
      obtain ⟨S4, B4, K4⟩ := HK.out w3 R3 G3
      have S5 : Hid (QuR lo w3 (.slice (some ⟨g, 0, none⟩) qs.length c) vs (mkQs k qs (j + 1))) := S4
      have B5 : Hid (Below lo w w3) := B4
      have K5 : Hid (ButQ (.slice (some ⟨g, 0, none⟩) qs.length c :: vs) w w3) := K4
      clear R3 G3 S4 B4 K4 HK hc0 hc1' R2 fz
      go_wp2
      go_roundw
      case rel => exact ⟨j + 1, _, by omega, by go_num, rfl, KN, S5, B5, K5⟩
      case measure => simp [intOf]; omega
    · obtain rfl : j = qs.length := by omega
      go_wp2
      go_ret
      exact ⟨congrArg (fun z => Ending.returned (Value.int .i64 z)) hk.out, S.out, B.out, KB.out⟩

set_option maxRecDepth 20000 in
set_option maxHeartbeats 2000000 in
theorem heldWrites {lo : Nat} (a : Option Addr) (c : Nat) (k : Int) (vs : List Value) (qs : List Wr) (w : World) (h : QuR lo w (.slice a qs.length c) vs (mkQs k qs qs.length)) (hs : uptoQ qs qs.length ≤ 2000000) (k0 : 0 ≤ k) (k1 : k ≤ 3000000) :
    Calls Try.prog 18 #[.slice a qs.length c, .int .i64 k] w fun e w' => e = .returned (.int .i64 (k + (uptoQ qs qs.length : Nat))) ∧ w' = w := by
  obtain ⟨-, hf, hm⟩ := h.caps
  rw [mkQs_len] at hf
  unfold maxLen at hm
  have HS : Hid (uptoQ qs qs.length ≤ 2000000) := hs
  have HH : Hid (QuR lo w (.slice a qs.length c) vs (mkQs k qs qs.length)) := h
  clear hs h
  go_enter Try.func18, Try.ntmps18
  go_wp2
  go_loopw [1, 5] (fun s1 i wr => ∃ (j : Nat) (m : Int), j ≤ qs.length ∧ i = .int .i64 j ∧ s1 = .int .i64 m ∧ Hid (m = k + (uptoQ qs j : Nat)) ∧ Hid (wr = w)) (fun _ i _ => qs.length - (intOf i).toNat)
  case atStart => exact ⟨0, k, Nat.zero_le _, rfl, rfl, (by show _ = _; simp [uptoQ]), rfl⟩
  case round =>
    obtain ⟨j, m, hj, rfl, rfl, hk, hw⟩ := hrel
    rename World => wr
    have ub := uptoQ_mono qs hj
    have hmb : 0 ≤ m ∧ m ≤ 5000000 := by have := HS.out; have := hk.out; omega
    obtain ⟨mb0, mb1⟩ := hmb
    clear ub
    by_cases hlt : j < qs.length
    · obtain ⟨g, c0, a', c', e, hv, hc0, hc1, R, fz⟩ := HH.out.at' (i := j) (by rw [mkQs_len]; exact hlt)
      rw [mkQs_len] at e
      injection e with e1 e2 e3
      subst e1
      rw [mkQs_new k qs hlt (Nat.le_refl _), ← hk.out, ← hw.out] at hc0 hc1 R
      rw [mkY_len] at hc1
      have hrow := uptoQ_row qs hlt
      have hrl : (wrN qs j).2.length ≤ 2000000 := by have := HS.out; omega
      have HR : Hid ((wrN qs j).2.length ≤ 2000000) := hrl
      have KN : Hid (m + 1 + ((wrN qs j).2.length : Int) = k + (uptoQ qs (j + 1) : Nat)) := by show _ = _; simp only [uptoQ]; have := hk.out; push_cast; omega
      have R2 : Hid (RowB lo wr (.slice a' (mkY (m + 1) (wrN qs j).2.length).length c') (mkY (m + 1) (wrN qs j).2.length)) := R
      have hne : (m != m) = false := by simp
      have pos : 0 ≤ m + 1 + ((wrN qs j).2.length : Int) := by omega
      clear hv R HH hrow hrl e2 e3
      generalize (wrN qs j).2.length = n at *
      dsimp only at hc0 hc1
      go_wp2_with fail
      refine (heldBy a' c' n (m + 1) _ R2.out HR.out (by omega) (by omega)).mono ?_
      rintro e w3 ⟨rfl, rfl⟩
      go_wp2
      go_roundw
      case rel => exact ⟨j + 1, _, by omega, by go_num, rfl, KN, hw⟩
      case measure => simp [intOf]; omega
    · obtain rfl : j = qs.length := by omega
      go_wp2
      go_ret
      exact ⟨congrArg (fun z => Ending.returned (Value.int .i64 z)) hk.out, hw.out⟩

set_option maxHeartbeats 1000000 in
theorem markDisk_any {lo : Nat} (a a2 : Option Addr) (c c2 : Nat) (vs : List Value) (bs : List Int) (qs : List Wr) (w : World) (h : DkR lo w (.slice a bs.length c) (.slice a2 qs.length c2) vs bs qs) (hb1 : bs.length ≤ 2000000) (hs : uptoQ qs qs.length ≤ 2000000) :
    Calls Try.prog 7 #[.agg #[.slice a bs.length c, .slice a2 qs.length c2], .int .i64 1] w fun e w' => e = .returned (.int .i64 (1 + (bs.length : Int) + (uptoQ qs qs.length : Nat))) ∧ DkR lo w' (.slice a bs.length c) (.slice a2 qs.length c2) vs (mkY 1 bs.length) (mkQs (1 + (bs.length : Int)) qs qs.length) ∧ ButQ (.slice a bs.length c :: .slice a2 qs.length c2 :: vs) w w' ∧ (∀ b, b ≤ lo → b ≤ w.heap.size → Below b w w') := by
  have B := below1 w (.cells #[.slice a bs.length c, .slice a2 qs.length c2] 25)
  have X := Box2.new w (lo := 0) (by omega) (.slice a bs.length c) (.slice a2 qs.length c2) 25
  have D := h.below B
  have L := h.lts
  have HD : Hid (DkR lo (w.alloc (.cells #[.slice a bs.length c, .slice a2 qs.length c2] 25)) (.slice a bs.length c) (.slice a2 qs.length c2) vs bs qs) := D
  have HB : Hid (bs.length ≤ 2000000) := hb1
  have HS : Hid (uptoQ qs qs.length ≤ 2000000) := hs
  have HL : Hid ((∀ k, (Value.slice a bs.length c).ownBlock = some k → lo ≤ k ∧ k < w.heap.size) ∧ (∀ k, (Value.slice a2 qs.length c2).ownBlock = some k → lo ≤ k ∧ k < w.heap.size) ∧ ∀ u ∈ vs, ∀ k, u.ownBlock = some k → lo ≤ k ∧ k < w.heap.size) := L
  clear D L h hs
  go_enter Try.func7, Try.ntmps7
  go_wp2_with fail
  refine (markBy a c 1 bs _ HD.out.row HB.out (by omega) (by omega)).mono ?_
  rintro e w1 ⟨rfl, R1, G1⟩
  rw [mkY_len] at R1
  have Q1 : Hid (QuR lo w1 (.slice a2 qs.length c2) vs qs) := HD.out.que.kept G1 (fun k hk e => (HD.out.ap k e).1 hk) (fun u hu k hk e => (HD.out.ap k e).2 u hu hk)
  have X1 : Box2 0 w1 w.heap.size (.slice a bs.length c) (.slice a2 qs.length c2) := by
    have hb := G1.block w.heap.size X.lt (fun e => by have := (HL.out.1 _ e.symm).2; omega)
    exact ⟨(World.cell?_of_block (a := ⟨w.heap.size, 0, none⟩) hb).trans X.c0, (World.cell?_of_block (a := ⟨w.heap.size, 1, none⟩) hb).trans X.c1, fun o => (World.frozen?_of_block (a := ⟨w.heap.size, o, none⟩) hb).trans (X.fr o), X.lo⟩
  obtain ⟨x0, x1, xf, _⟩ := X1
  have HR : Hid (RowB lo w1 (.slice a bs.length c) (mkY 1 bs.length)) := by show RowB _ _ _ _; exact R1
  have HG : Hid ((w.alloc (.cells #[.slice a bs.length c, .slice a2 qs.length c2] 25)).grownBy w1 (Value.slice a bs.length c).ownBlock) := G1
  clear R1 G1 X
  go_wp2_with fail
  refine (markWrites a2 c2 (1 + (bs.length : Int)) vs qs _ Q1.out HS.out (by omega) (by omega)).mono ?_
  rintro e w2 ⟨rfl, Q2, B2, K2⟩
  have kb : ∀ b, b < w.heap.size → (∀ u ∈ (Value.slice a bs.length c :: .slice a2 qs.length c2 :: vs), u.ownBlock ≠ some b) → w2.heap[b]? = w.heap[b]? := fun b hb hu => by
    have s0 : b < (w.alloc (.cells #[.slice a bs.length c, .slice a2 qs.length c2] 25)).heap.size := by simp; omega
    refine (K2.2 b (Nat.lt_of_lt_of_le s0 HG.out.size) (fun u m => hu u (List.mem_cons_of_mem _ m))).trans ((HG.out.block b s0 (fun e => hu _ (List.mem_cons_self ..) e.symm)).trans ?_)
    exact B.block b hb
  have sz : w.heap.size ≤ w2.heap.size := Nat.le_trans B.size (Nat.le_trans HG.out.size K2.1)
  have R2 : RowB lo w2 (.slice a bs.length c) (mkY 1 bs.length) := by
    refine ⟨HR.out.1, ?_⟩
    rcases HR.out.2 with q2 | ⟨g, cap, cur, hv, q3, q4, q5⟩
    · exact .inl q2
    · have og : (Value.slice a bs.length c).ownBlock = some g := by rw [hv]; rfl
      refine .inr ⟨g, cap, cur, hv, q3, (K2.2 g (World.ownsRow.lt HR.out g og).2 (fun u m e => ?_)).trans q4, q5⟩
      rcases List.mem_cons.1 m with rfl | m
      · exact (HD.out.ap g og).1 e
      · exact (HD.out.ap g og).2 u m e
  have BB : Hid (∀ b, b ≤ lo → b ≤ w.heap.size → Below b w w2) := fun b h1 h2 => by
    have b0 : Below b w (w.alloc (.cells #[.slice a bs.length c, .slice a2 qs.length c2] 25)) := B.mono (by omega)
    have b1 := b0.grown HG.out (by have := B.size; omega) (fun k hk => by have := (HL.out.1 k hk).1; omega)
    exact b1.trans (B2.mono (by omega))
  have DD : Hid (DkR lo w2 (.slice a bs.length c) (.slice a2 qs.length c2) vs (mkY 1 bs.length) (mkQs (1 + (bs.length : Int)) qs qs.length)) := ⟨R2, Q2, HD.out.ap⟩
  have KK : Hid (ButQ (.slice a bs.length c :: .slice a2 qs.length c2 :: vs) w w2) := ⟨sz, kb⟩
  clear R2 Q2 B2 K2 kb sz HG HR Q1 x0 x1 xf
  obtain ⟨z, HZ⟩ : ∃ z, Hid (uptoQ qs qs.length = z) := ⟨_, rfl⟩
  have hz := HS.out
  rw [HZ.out] at hz ⊢
  go_wp2
  go_ret
  exact ⟨by rw [HZ.out]; rfl, DD.out, KK.out, BB.out⟩

set_option maxHeartbeats 1000000 in
theorem heldDisk_any {lo : Nat} (a a2 : Option Addr) (c c2 : Nat) (vs : List Value) (bs : List Int) (qs : List Wr) (w : World) (h : DkR lo w (.slice a bs.length c) (.slice a2 qs.length c2) vs (mkY 1 bs.length) (mkQs (1 + (bs.length : Int)) qs qs.length)) (hb1 : bs.length ≤ 2000000) (hs : uptoQ qs qs.length ≤ 2000000) :
    Calls Try.prog 8 #[.agg #[.slice a bs.length c, .slice a2 qs.length c2], .int .i64 1] w fun e w' => e = .returned (.int .i64 (1 + (bs.length : Int) + (uptoQ qs qs.length : Nat))) ∧ Below w.heap.size w w' := by
  have B := below1 w (.cells #[.slice a bs.length c, .slice a2 qs.length c2] 25)
  have D := h.below B
  have HD : Hid (DkR lo (w.alloc (.cells #[.slice a bs.length c, .slice a2 qs.length c2] 25)) (.slice a bs.length c) (.slice a2 qs.length c2) vs (mkY 1 bs.length) (mkQs (1 + (bs.length : Int)) qs qs.length)) := D
  have HS : Hid (uptoQ qs qs.length ≤ 2000000) := hs
  clear D h hs
  go_enter Try.func8, Try.ntmps8
  go_wp2_with fail
  refine (heldBy (base := lo) a c bs.length 1 _ (by rw [mkY_len]; exact HD.out.row) hb1 (by omega) (by omega)).mono ?_
  rintro e w1 ⟨rfl, rfl⟩
  go_wp2_with fail
  refine (heldWrites a2 c2 (1 + (bs.length : Int)) vs qs _ HD.out.que HS.out (by omega) (by omega)).mono ?_
  rintro e w2 ⟨rfl, rfl⟩
  obtain ⟨z, HZ⟩ : ∃ z, Hid (uptoQ qs qs.length = z) := ⟨_, rfl⟩
  have hz := HS.out
  rw [HZ.out] at hz ⊢
  go_wp2
  go_ret
  exact ⟨by rw [HZ.out]; rfl, B⟩
end Go.Proofs.Ytagkcaiodciomaa
