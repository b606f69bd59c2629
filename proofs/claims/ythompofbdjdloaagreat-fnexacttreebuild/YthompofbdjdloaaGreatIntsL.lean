/- Lists of whole numbers: rows of a call's own, and the laws' helpers on them (eqIntS, markIntS, heldIntS). -/
import Derived.Test.YthompofbdjdloaaGreatOwns
import Derived.Test.YthompofbdjdloaaGreatProg
import Derived.Laws.AppendOwnNone
import Derived.BigRegion
namespace Go.Proofs.YthompofbdjdloaaGreat
open Go.RowKit

theorem infoI : (Tryz.prog.info? 3).map (fun i => (i.zero, i.size, i.bytes)) = some (some (.int .i64 0), 1, 8) := by kernel_rfl
/-- Numbers in a row of the call's own. -/
def RowI (base : Nat) (w : World) (v : Value) (ds : List Int) : Prop := w.ownsRow base 3 1 v ds.length (ds.map (Value.int .i64))
theorem onesI (ys : List Int) : ∀ u ∈ ys.map (Value.int .i64), u.oneCell' = true := by
  intro u hu
  obtain ⟨y, _, rfl⟩ := List.mem_map.1 hu
  rfl
theorem one_newI (w : World) (e : TypeId) (y : Int) : ∀ j u, ([y].map (Value.int .i64))[j]? = some u → (w.alloc (.cells #[.int .i64 y] e)).cell? ((⟨w.heap.size, 0, none⟩ : Addr).add j) = some u := by
  intro j u hu
  cases j with
  | zero =>
    simp at hu
    subst hu
    exact cell_new w #[.int .i64 y] e 0 rfl
  | succ j => simp at hu
theorem RowI.snoc {base n : Nat} {w : World} {v : Value} {ds : List Int} {y : Int} (h : w.ownsRow base 3 1 v (ds.length + 1) (ds.map (Value.int .i64) ++ [y].map (Value.int .i64))) (_ : n = 0) : RowI base w v (ds ++ [y]) := by
  unfold RowI
  rw [List.map_append, List.length_append]
  exact h

theorem RowI.shape {base : Nat} {w : World} {v : Value} {ds : List Int} (h : RowI base w v ds) (hn : ds ≠ []) : ∃ q cap, v = .slice (some ⟨q, 0, none⟩) ds.length cap ∧ base ≤ q ∧ q < w.heap.size := by
  have hp : 0 < ds.length := List.length_pos_iff.2 hn
  rcases h.2 with ⟨_, h0⟩ | ⟨q, cap, cur, hv, hb, hh, _⟩
  · omega
  · refine ⟨q, cap, hv, hb, ?_⟩
    rcases Nat.lt_or_ge q w.heap.size with h1 | h1
    · exact h1
    · rw [Array.getElem?_eq_none h1] at hh; cases hh
theorem RowI.at' {base q cap : Nat} {w : World} {ds : List Int} (h : RowI base w (.slice (some ⟨q, 0, none⟩) ds.length cap) ds) {j : Nat} (hj : j < ds.length) : w.cell? ⟨q, j, none⟩ = some (.int .i64 (ds[j]?.getD 0)) := by
  rw [h.cellAt j (by omega), List.getElem?_map, List.getElem?_eq_getElem hj]
  rfl
theorem RowI.put {base q cap : Nat} {w : World} {ds : List Int} (h : RowI base w (.slice (some ⟨q, 0, none⟩) ds.length cap) ds) (j : Nat) (x : Int) : RowI base (w.setCell ⟨q, j, none⟩ (.int .i64 x)) (.slice (some ⟨q, 0, none⟩) (ds.set j x).length cap) (ds.set j x) := by
  have := (h.stored j (.int .i64 x)).1
  unfold RowI
  rw [List.length_set, List.map_set]
  exact this
theorem RowI.below {base : Nat} {w w' : World} {v : Value} {ds : List Int} (h : RowI base w v ds) (hb : Below w.heap.size w w') : RowI base w' v ds := owns_below h hb
theorem RowI.shape' {base : Nat} {w : World} {v : Value} {ds : List Int} (h : RowI base w v ds) : ∃ a cap, v = .slice a ds.length cap ∧ ds.length ≤ cap ∧ cap ≤ maxLen := by
  rcases h.2 with ⟨hv, h0⟩ | ⟨q, cap, cur, hv, _, _, hf, hm, _⟩
  · exact ⟨none, 0, by rw [hv, h0], by omega, by simp [maxLen]⟩
  · exact ⟨_, cap, hv, hf, hm⟩
theorem RowI.nil (base : Nat) (w : World) : RowI base w (.slice none 0 0) [] := ⟨rfl, .inl ⟨rfl, rfl⟩⟩
theorem RowI.empty (w : World) {base : Nat} (h : base ≤ w.heap.size) : RowI base (w.alloc (.cells #[] 3)) (.slice (some ⟨w.heap.size, 0, none⟩) 0 0) [] :=
  ⟨rfl, .inr ⟨w.heap.size, 0, #[], rfl, h, heap_alloc_new _ _, Nat.le_refl _, by simp [maxLen], rfl, rfl⟩⟩
theorem RowI.one (w : World) {base : Nat} (h : base ≤ w.heap.size) (x : Int) : RowI base (w.alloc (.cells #[.int .i64 x] 3)) (.slice (some ⟨w.heap.size, 0, none⟩) 1 1) [x] :=
  ⟨rfl, .inr ⟨w.heap.size, 1, #[.int .i64 x], rfl, h, heap_alloc_new _ _, Nat.le_refl _, by simp [maxLen], rfl, rfl⟩⟩
theorem RowI.at2 {base : Nat} {w : World} {a : Option Addr} {c : Nat} {ds : List Int} (h : RowI base w (.slice a ds.length c) ds) {j : Nat} (hj : j < ds.length) : ∃ q, a = some ⟨q, 0, none⟩ ∧ w.cell? ⟨q, j, none⟩ = some (.int .i64 (ds[j]?.getD 0)) ∧ base ≤ q := by
  obtain ⟨q, cap, e, hb, _⟩ := h.shape (by intro e; rw [e] at hj; simp at hj)
  injection e with e1 e2 e3
  subst e1 e3
  exact ⟨q, rfl, h.at' hj, hb⟩
theorem RowI.caps {base : Nat} {w : World} {a : Option Addr} {c : Nat} {ds : List Int} (h : RowI base w (.slice a ds.length c) ds) : ds.length ≤ c ∧ c ≤ maxLen := by
  obtain ⟨a', c', e, h1, h2⟩ := h.shape'
  injection e with e1 e2 e3
  subst e3
  exact ⟨h1, h2⟩

set_option maxRecDepth 20000 in
set_option maxHeartbeats 1000000 in
theorem eqI {base base' : Nat} (a b : Option Addr) (c d : Nat) (ds : List Int) (w : World) (h : RowI base w (.slice a ds.length c) ds) (k : RowI base' w (.slice b ds.length d) ds) :
    Calls Tryz.prog 12 #[.slice a ds.length c, .slice b ds.length d] w fun e w' => e = .returned (.bool true) ∧ Below w.heap.size w w' := by
  obtain ⟨hf, hm⟩ := h.caps
  obtain ⟨kf, km⟩ := k.caps
  unfold maxLen at hm km
  have hne : ((ds.length : Int) != (ds.length : Int)) = false := by simp
  go_enter Tryz.func12, Tryz.ntmps12
  go_wp2
  go_loopw [5] (fun i wr => ∃ j : Nat, j ≤ ds.length ∧ i = .int .i64 j ∧ Below w.heap.size w wr) (fun i _ => ds.length - (intOf i).toNat)
  case atStart => exact ⟨0, Nat.zero_le _, rfl, Below.refl _ _⟩
  case round =>
    obtain ⟨j, hj, rfl, B⟩ := hrel
    rename World => wr
    by_cases hlt : j < ds.length
    · obtain ⟨q, rfl, g1, _⟩ := (h.below B).at2 hlt
      obtain ⟨p, rfl, g2, _⟩ := (k.below B).at2 hlt
      generalize ds[j]?.getD 0 = x at *
      have hxx : (x != x) = false := by simp
      go_wp2_with fail
      go_region
      go_wp2
      go_roundw
      case rel => exact ⟨j + 1, by omega, by go_num, B.drew⟩
      case measure => simp [intOf]; omega
    · go_wp2
      go_ret
      exact ⟨rfl, B⟩

/-- Numbers that are marked, one by one. -/
def mkI (n : Nat) : List Int := (List.range n).map fun (i : Nat) => ((i : Int) + 1)
theorem mkI_len (n : Nat) : (mkI n).length = n := by simp [mkI]
theorem mkI_at {n j : Nat} (h : j < n) : (mkI n)[j]?.getD 0 = ((j : Int) + 1) := by simp [mkI, h]

theorem mkI_done {n : Nat} {zs : List Int} (hl : zs.length = n) (h : ∀ i, i < n → zs[i]?.getD 0 = ((i : Int) + 1)) : zs = mkI n := by
  refine List.ext_getElem? fun i => ?_
  by_cases hi : i < n
  · have := h i hi
    rw [List.getElem?_eq_getElem (by omega)] at this ⊢
    rw [List.getElem?_eq_getElem (by rw [mkI_len]; exact hi)]
    simp only [Option.getD_some] at this
    rw [this]
    simp [mkI]
  · rw [List.getElem?_eq_none (by omega), List.getElem?_eq_none (by rw [mkI_len]; omega)]

set_option maxRecDepth 20000 in
set_option maxHeartbeats 1000000 in
theorem markI {base : Nat} (a : Option Addr) (c : Nat) (ds : List Int) (w : World) (h : RowI base w (.slice a ds.length c) ds) (hs : ds.length ≤ 1000000) :
    Calls Tryz.prog 14 #[.slice a ds.length c, .int .i64 1] w fun e w' => e = .returned (.int .i64 (1 + ds.length)) ∧ RowI base w' (.slice a (mkI ds.length).length c) (mkI ds.length) ∧ w.grownBy w' (Value.slice a ds.length c).ownBlock := by
  obtain ⟨hf, hm⟩ := h.caps
  unfold maxLen at hm
  generalize hn : ds.length = n at *
  go_enter Tryz.func14, Tryz.ntmps14
  go_wp2
  go_loopw [1, 5] (fun s1 i wr => ∃ (j : Nat) (zs : List Int), j ≤ n ∧ i = .int .i64 j ∧ s1 = .int .i64 (1 + (j : Int)) ∧ Hid (zs.length = n) ∧ Hid (∀ i, i < j → zs[i]?.getD 0 = ((i : Int) + 1)) ∧ RowI base wr (.slice a zs.length c) zs ∧ w.grownBy wr (Value.slice a n c).ownBlock) (fun _ i _ => n - (intOf i).toNat)
  case atStart => exact ⟨0, ds, Nat.zero_le _, rfl, rfl, hn, (fun i hi => by omega), by rw [hn]; exact h, grownBy_refl _ _⟩
  case round =>
    obtain ⟨j, zs, hj, rfl, rfl, hz, hy, R, G⟩ := hrel
    rename World => wr
    by_cases hlt : j < n
    · obtain ⟨q, rfl, g1, _⟩ := R.at2 (j := j) (by rw [hz.out]; exact hlt)
      have fz : wr.frozen? ⟨q, j, none⟩ = false := R.frozenAt j
      have R2 := R.put j (((j : Int) + 1))
      have G2 : w.grownBy (wr.setCell ⟨q, j, none⟩ (.int .i64 (((j : Int) + 1)))) (Value.slice (some ⟨q, 0, none⟩) n c).ownBlock := grownBy_setCell G (p := ⟨q, j, none⟩) rfl _
      have E : (1 + (j : Int)) = (j : Int) + 1 := by omega
      have Y2 : Hid (∀ i, i < j + 1 → (zs.set j (((j : Int) + 1)))[i]?.getD 0 = ((i : Int) + 1)) := by
        intro i hi
        by_cases e : i = j
        · subst e
          rw [List.getElem?_set_self (by rw [hz.out]; exact hlt)]
          rfl
        · rw [List.getElem?_set_ne (by omega)]
          exact hy.out i (by omega)
      have Z2 : Hid ((zs.set j (((j : Int) + 1))).length = n) := by show _ = _; rw [List.length_set]; exact hz.out
      rw [hz.out] at R
      clear R G hz hy
      go_wp2
      go_roundw
      case rel => exact ⟨j + 1, _, by omega, by go_num, by go_num, Z2, Y2, R2, G2⟩
      case measure => simp [intOf]; omega
    · obtain rfl : j = n := by omega
      rw [mkI_done hz.out hy.out] at R
      go_wp2
      go_ret
      exact ⟨rfl, R, G⟩

set_option maxRecDepth 20000 in
set_option maxHeartbeats 1000000 in
theorem heldI {base : Nat} (a : Option Addr) (c n : Nat) (w : World) (h : RowI base w (.slice a (mkI n).length c) (mkI n)) (hs : n ≤ 1000000) :
    Calls Tryz.prog 40 #[.slice a n c, .int .i64 1] w fun e w' => e = .returned (.int .i64 (1 + n)) ∧ w' = w := by
  obtain ⟨hf, hm⟩ := h.caps
  unfold maxLen at hm
  have ML := mkI_len n
  rw [ML] at hf
  go_enter Tryz.func40, Tryz.ntmps40
  go_wp2
  go_loopw [1, 5] (fun s1 i wr => ∃ j : Nat, j ≤ n ∧ i = .int .i64 j ∧ s1 = .int .i64 (1 + (j : Int)) ∧ Hid (wr = w)) (fun _ i _ => n - (intOf i).toNat)
  case atStart => exact ⟨0, Nat.zero_le _, rfl, rfl, rfl⟩
  case round =>
    obtain ⟨j, hj, rfl, rfl, hw⟩ := hrel
    have hw' := hw.out
    subst hw'
    by_cases hlt : j < n
    · obtain ⟨q, rfl, g1, _⟩ := h.at2 (j := j) (by rw [ML]; exact hlt)
      rw [mkI_at hlt] at g1
      clear ML
      go_wp2
      go_roundw
      case rel => exact ⟨j + 1, by omega, by go_num, by go_num, (by first | exact trivial | exact rfl)⟩
      case measure => simp [intOf]; omega
    · obtain rfl : j = n := by omega
      clear ML
      go_wp2
      go_ret
      exact ⟨rfl, rfl⟩
end Go.Proofs.YthompofbdjdloaaGreat
