/- The laws' helpers on bytes, with marks from any number on: eqByteS, markByteS, heldByteS. -/
import Derived.Test.YtagkcaiodciomaaBytL
namespace Go.Proofs.Ytagkcaiodciomaa
open Go.RowKit


set_option maxRecDepth 20000 in
set_option maxHeartbeats 1000000 in
theorem eqByE {t t' : TypeId} {base base' : Nat} (a b : Option Addr) (c d : Nat) (ds : List Int) (w : World) (h : RowE t base w (.slice a ds.length c) ds) (k : RowE t' base' w (.slice b ds.length d) ds) :
    Calls Try.prog 13 #[.slice a ds.length c, .slice b ds.length d] w fun e w' => e = .returned (.bool true) ∧ Below w.heap.size w w' := by
  obtain ⟨hf, hm⟩ := h.caps
  obtain ⟨kf, km⟩ := k.caps
  unfold maxLen at hm km
  have hne : ((ds.length : Int) != (ds.length : Int)) = false := by simp
  go_enter Try.func13, Try.ntmps13
  go_wp2
  go_loopw [5] (fun i wr => ∃ j : Nat, j ≤ ds.length ∧ i = .int .i64 j ∧ Below w.heap.size w wr) (fun i _ => ds.length - (intOf i).toNat)
  case atStart => exact ⟨0, Nat.zero_le _, rfl, Below.refl _ _⟩
  case round =>
    obtain ⟨j, hj, rfl, B⟩ := hrel
    rename World => wr
    by_cases hlt : j < ds.length
    · obtain ⟨q, rfl, g1, _⟩ := (h.below B).at2 hlt
      obtain ⟨p, rfl, g2, _⟩ := (k.below B).at2 hlt
      generalize ds[j]?.getD 0 = x at *
      have hxx : (x != x) = false := by simp
      go_wp2_with fail
      go_region
      go_wp2
      go_roundw
      case rel => exact ⟨j + 1, by omega, by go_num, B.drew⟩
      case measure => simp [intOf]; omega
    · go_wp2
      go_ret
      exact ⟨rfl, B⟩

/-- Bytes that are marked, one by one. -/
def mkY (k : Int) (n : Nat) : List Int := (List.range n).map fun (i : Nat) => (k + (i : Int)) % 256
theorem mkY_len (k : Int) (n : Nat) : (mkY k n).length = n := by simp [mkY]
theorem mkY_at {k : Int} {n j : Nat} (h : j < n) : (mkY k n)[j]?.getD 0 = (k + (j : Int)) % 256 := by simp [mkY, h]

theorem mkY_done {k : Int} {n : Nat} {zs : List Int} (hl : zs.length = n) (h : ∀ i, i < n → zs[i]?.getD 0 = (k + (i : Int)) % 256) : zs = mkY k n := by
  refine List.ext_getElem? fun i => ?_
  by_cases hi : i < n
  · have := h i hi
    rw [List.getElem?_eq_getElem (by omega)] at this ⊢
    rw [List.getElem?_eq_getElem (by rw [mkY_len]; exact hi)]
    simp only [Option.getD_some] at this
    rw [this]
    simp [mkY]
  · rw [List.getElem?_eq_none (by omega), List.getElem?_eq_none (by rw [mkY_len]; omega)]

set_option maxRecDepth 20000 in
set_option maxHeartbeats 1000000 in
theorem markByE {t : TypeId} {base : Nat} (a : Option Addr) (c : Nat) (k : Int) (ds : List Int) (w : World) (h : RowE t base w (.slice a ds.length c) ds) (hs : ds.length ≤ 2000000) (k0 : 0 ≤ k) (k1 : k ≤ 1000000000) :
    Calls Try.prog 15 #[.slice a ds.length c, .int .i64 k] w fun e w' => e = .returned (.int .i64 (k + ds.length)) ∧ RowE t base w' (.slice a (mkY k ds.length).length c) (mkY k ds.length) ∧ w.grownBy w' (Value.slice a ds.length c).ownBlock := by
  obtain ⟨hf, hm⟩ := h.caps
  unfold maxLen at hm
  generalize hn : ds.length = n at *
  go_enter Try.func15, Try.ntmps15
  go_wp2
  go_loopw [1, 5] (fun s1 i wr => ∃ (j : Nat) (zs : List Int), j ≤ n ∧ i = .int .i64 j ∧ s1 = .int .i64 (k + (j : Int)) ∧ Hid (zs.length = n) ∧ Hid (∀ i, i < j → zs[i]?.getD 0 = (k + (i : Int)) % 256) ∧ RowE t base wr (.slice a zs.length c) zs ∧ w.grownBy wr (Value.slice a n c).ownBlock) (fun _ i _ => n - (intOf i).toNat)
  case atStart => exact ⟨0, ds, Nat.zero_le _, rfl, (by simp), hn, (fun i hi => by omega), by rw [hn]; exact h, grownBy_refl _ _⟩
  case round =>
    obtain ⟨j, zs, hj, rfl, rfl, hz, hy, R, G⟩ := hrel
    rename World => wr
    by_cases hlt : j < n
    · obtain ⟨q, rfl, g1, _⟩ := R.at2 (j := j) (by rw [hz.out]; exact hlt)
      have fz : wr.frozen? ⟨q, j, none⟩ = false := R.frozenAt j
      have R2 := R.put j ((k + (j : Int)) % 256)
      have G2 : w.grownBy (wr.setCell ⟨q, j, none⟩ (.int .u8 ((k + (j : Int)) % 256))) (Value.slice (some ⟨q, 0, none⟩) n c).ownBlock := grownBy_setCell G (p := ⟨q, j, none⟩) rfl _
      have Y2 : Hid (∀ i, i < j + 1 → (zs.set j ((k + (j : Int)) % 256))[i]?.getD 0 = (k + (i : Int)) % 256) := by
        intro i hi
        by_cases e : i = j
        · subst e
          rw [List.getElem?_set_self (by rw [hz.out]; exact hlt)]
          rfl
        · rw [List.getElem?_set_ne (by omega)]
          exact hy.out i (by omega)
      have Z2 : Hid ((zs.set j ((k + (j : Int)) % 256)).length = n) := by show _ = _; rw [List.length_set]; exact hz.out
      rw [hz.out] at R
      clear R G hz hy
      go_wp2
      go_roundw
      case rel => exact ⟨j + 1, _, by omega, by go_num, (by congr 1; push_cast; omega), Z2, Y2, R2, G2⟩
      case measure => simp [intOf]; omega
    · obtain rfl : j = n := by omega
      rw [mkY_done (k := k) hz.out hy.out] at R
      go_wp2
      go_ret
      exact ⟨rfl, R, G⟩

set_option maxRecDepth 20000 in
set_option maxHeartbeats 1000000 in
theorem heldByE {t : TypeId} {base : Nat} (a : Option Addr) (c n : Nat) (k : Int) (w : World) (h : RowE t base w (.slice a (mkY k n).length c) (mkY k n)) (hs : n ≤ 2000000) (k0 : 0 ≤ k) (k1 : k ≤ 1000000000) :
    Calls Try.prog 17 #[.slice a n c, .int .i64 k] w fun e w' => e = .returned (.int .i64 (k + n)) ∧ w' = w := by
  obtain ⟨hf, hm⟩ := h.caps
  unfold maxLen at hm
  have ML := mkY_len k n
  rw [ML] at hf
  go_enter Try.func17, Try.ntmps17
  go_wp2
  go_loopw [1, 5] (fun s1 i wr => ∃ j : Nat, j ≤ n ∧ i = .int .i64 j ∧ s1 = .int .i64 (k + (j : Int)) ∧ Hid (wr = w)) (fun _ i _ => n - (intOf i).toNat)
  case atStart => exact ⟨0, Nat.zero_le _, rfl, (by simp), rfl⟩
  case round =>
    obtain ⟨j, hj, rfl, rfl, hw⟩ := hrel
    have hw' := hw.out
    subst hw'
    by_cases hlt : j < n
    · obtain ⟨q, rfl, g1, _⟩ := h.at2 (j := j) (by rw [ML]; exact hlt)
      rw [mkY_at hlt] at g1
      clear ML
      go_wp2
      go_roundw
      case rel => exact ⟨j + 1, by omega, by go_num, (by congr 1; push_cast; omega), (by first | exact trivial | exact rfl)⟩
      case measure => simp [intOf]; omega
    · obtain rfl : j = n := by omega
      clear ML
      go_wp2
      go_ret
      exact ⟨rfl, rfl⟩
theorem eqBy {base base' : Nat} (a b : Option Addr) (c d : Nat) (ds : List Int) (w : World) (h : RowB base w (.slice a ds.length c) ds) (k : RowB base' w (.slice b ds.length d) ds) :
    Calls Try.prog 13 #[.slice a ds.length c, .slice b ds.length d] w fun e w' => e = .returned (.bool true) ∧ Below w.heap.size w w' := eqByE (t := 5) (t' := 5) a b c d ds w h k
theorem markBy {base : Nat} (a : Option Addr) (c : Nat) (k : Int) (ds : List Int) (w : World) (h : RowB base w (.slice a ds.length c) ds) (hs : ds.length ≤ 2000000) (k0 : 0 ≤ k) (k1 : k ≤ 1000000000) :
    Calls Try.prog 15 #[.slice a ds.length c, .int .i64 k] w fun e w' => e = .returned (.int .i64 (k + ds.length)) ∧ RowB base w' (.slice a (mkY k ds.length).length c) (mkY k ds.length) ∧ w.grownBy w' (Value.slice a ds.length c).ownBlock := markByE (t := 5) a c k ds w h hs k0 k1
theorem heldBy {base : Nat} (a : Option Addr) (c n : Nat) (k : Int) (w : World) (h : RowB base w (.slice a (mkY k n).length c) (mkY k n)) (hs : n ≤ 2000000) (k0 : 0 ≤ k) (k1 : k ≤ 1000000000) :
    Calls Try.prog 17 #[.slice a n c, .int .i64 k] w fun e w' => e = .returned (.int .i64 (k + n)) ∧ w' = w := heldByE (t := 5) a c n k w h hs k0 k1
end Go.Proofs.Ytagkcaiodciomaa
