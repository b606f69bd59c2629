/- The laws' helpers on bytes: their sizes, their copies; bytes that lie in memory. -/
import Derived.Test.YtjpnkmhmipendaaDoorRowBy
import Derived.BigRegion
namespace Go.Proofs.YtjpnkmhmipendaaDoor
open Go.RowKit

/-- Bytes that lie in memory, one behind the other. -/
structure SeesB (w : World) (a : Option Addr) (cap : Nat) (bs : List Int) : Prop where
  fits : bs.length ≤ cap
  max : cap ≤ maxLen
  cells : bs ≠ [] → ∃ b off, a = some ⟨b, off, none⟩ ∧ ∀ i, i < bs.length → w.cell? ⟨b, off + i, none⟩ = some (.int .u8 (bs[i]?.getD 0))
theorem SeesB.below {w w' : World} {a : Option Addr} {cap : Nat} {bs : List Int} (h : SeesB w a cap bs) (hb : Below w.heap.size w w') : SeesB w' a cap bs :=
  ⟨h.fits, h.max, fun hn => by
    obtain ⟨b, off, ha, hc⟩ := h.cells hn
    exact ⟨b, off, ha, fun i hi => bat hb (hc i hi)⟩⟩
theorem RowB.seesB {base : Nat} {w : World} {a : Option Addr} {cap : Nat} {bs : List Int} (h : RowB base w (.slice a bs.length cap) bs) : SeesB w a cap bs := by
  obtain ⟨hf, hm⟩ := h.caps
  refine ⟨hf, hm, fun hn => ?_⟩
  have hp : 0 < bs.length := List.length_pos_iff.2 hn
  obtain ⟨q, rfl, _, _⟩ := h.at2 hp
  exact ⟨q, 0, rfl, fun i hi => by rw [Nat.zero_add]; exact h.at' hi⟩
theorem SeesB.newsB {w : World} {b off cap : Nat} {bs : List Int} (h : SeesB w (some ⟨b, off, none⟩) cap bs) : ∀ j u, (bs.map (Value.int .u8))[j]? = some u → w.cell? ((⟨b, off, none⟩ : Addr).add j) = some u := by
  intro j u hj
  have hl : j < bs.length := by have := (List.getElem?_eq_some_iff.1 hj).1; simpa using this
  obtain ⟨b', off', e, hc⟩ := h.cells (by intro e; rw [e] at hl; simp at hl)
  simp only [Option.some.injEq, Addr.mk.injEq, and_true] at e
  obtain ⟨rfl, rfl⟩ := e
  rw [Addr.add_lit, hc j hl]
  rw [List.getElem?_map, List.getElem?_eq_getElem hl] at hj
  rw [List.getElem?_eq_getElem hl]
  simpa using hj

theorem szBytes (a : Option Addr) (c n : Nat) (left : Int) (w : World) (hl : 0 ≤ left ∧ left ≤ 1048576) (hn : n ≤ 9223372036854775807) :
    Calls Tryd.prog 27 #[.slice a n c, .int .i64 left] w fun e w' => e = .returned (.int .i64 (if left - n < 0 then -1 else left - n)) ∧ w' = w := by
  obtain ⟨h1, h2⟩ := hl
  by_cases hc : left - n < 0
  · rw [if_pos hc]
    go_enter Tryd.func27, Tryd.ntmps27
    go_wp2
    go_ret
    exact ⟨rfl, rfl⟩
  · rw [if_neg hc]
    go_enter Tryd.func27, Tryd.ntmps27
    go_wp2
    go_ret
    exact ⟨rfl, rfl⟩

set_option maxHeartbeats 1000000 in
/-- A copy: a row of its own. -/
theorem toBytes (a : Option Addr) (cap : Nat) (bs : List Int) (w : World) (h : SeesB w a cap bs) (hs : bs.length ≤ 1048576) :
    Calls Tryd.prog 23 #[.slice a bs.length cap] w fun e w' => e = .returned (.slice (some ⟨w.heap.size, 0, none⟩) bs.length bs.length) ∧ RowB w.heap.size w' (.slice (some ⟨w.heap.size, 0, none⟩) bs.length bs.length) bs ∧ Below w.heap.size w w' := by
  obtain ⟨i0, hi, hz0, hz1, hz2⟩ := info_parts infoB
  go_enter Tryd.func23, Tryd.ntmps23
  go_wp2_with (at_make; refine wpList_make_full _ rfl _ _ 22 rfl w.heap.size 5 i0 (.int .u8 0) 1 Tryd.underlying22 hi hz0 hz1 .i64 .i64 _ _ bs.length rfl rfl rfl rfl ?b2 ?b3 (Nat.le_refl _) ?_)
  case b2 => rw [hz2]; omega
  case b3 => unfold maxLen; omega
  intro w0 hown0 hgrow0
  have ZE : (madeCells #[Value.int .u8 0] bs.length).toList = (List.replicate bs.length (0 : Int)).map (Value.int .u8) := by
    apply List.ext_getElem
    · simp [madeCells]
    · intro i h1 h2
      simp [madeCells, Nat.mod_one]
  have R0 : RowB w.heap.size w0 (.slice (some ⟨w.heap.size, 0, none⟩) bs.length bs.length) (List.replicate bs.length 0) := by
    unfold RowB
    rw [List.length_replicate, ← ZE]
    exact hown0
  have hb0 : Below w.heap.size w w0 := (Below.refl _ _).grown hgrow0 (Nat.le_refl _) (fun k h => by cases h)
  have hm := h.max
  have hf := h.fits
  unfold maxLen at hm
  clear hown0 hgrow0 hi hz0 hz1 hz2 ZE
  go_wp2
  go_loopw [4] (fun i wr => ∃ (j : Nat) (zs : List Int), j ≤ bs.length ∧ i = .int .i64 j ∧ Hid (zs.length = bs.length) ∧ Hid (∀ k, k < j → zs[k]?.getD 0 = bs[k]?.getD 0) ∧ RowB w.heap.size wr (.slice (some ⟨w.heap.size, 0, none⟩) zs.length bs.length) zs ∧ Below w.heap.size w wr) (fun i _ => bs.length - (intOf i).toNat)
  case atStart => exact ⟨0, List.replicate bs.length 0, Nat.zero_le _, rfl, (by show _ = _; simp), (fun k hk => absurd hk (by omega)), (by rw [List.length_replicate]; exact R0), hb0⟩
  case round =>
    clear R0 hb0
    obtain ⟨j, zs, hj, rfl, hz, hk, R, B⟩ := hrel
    rename World => wr
    by_cases hlt : j < bs.length
    · obtain ⟨b1, o1, rfl, hc⟩ := (h.below B).cells (by intro e; simp [e] at hlt)
      have g1 := hc j hlt
      obtain ⟨x, hx⟩ : ∃ x, Hid (bs[j]?.getD 0 = x) := ⟨_, rfl⟩
      rw [hx.out] at g1
      have c0 := R.at' (j := j) (by rw [hz.out]; exact hlt)
      have fz : wr.frozen? ⟨w.heap.size, j, none⟩ = false := R.frozenAt j
      have R2 := R.put j x
      have Z2 : Hid ((zs.set j x).length = bs.length) := by show _ = _; rw [List.length_set]; exact hz.out
      have K2 : Hid (∀ k, k < j + 1 → (zs.set j x)[k]?.getD 0 = bs[k]?.getD 0) := by
        intro k hk'
        by_cases e : k = j
        · subst e
          rw [List.getElem?_set_self (by rw [hz.out]; exact hlt), hx.out]
          rfl
        · rw [List.getElem?_set_ne (by omega)]
          exact hk.out k (by omega)
      have B2 := B.setCell (p := ⟨w.heap.size, j, none⟩) (Nat.le_refl _) (.int .u8 x)
      clear hc R B hz hk
      go_wp2
      go_roundw
      case rel => exact ⟨j + 1, _, by omega, by go_num, Z2, K2, R2, B2⟩
      case measure => simp [intOf]; omega
    · obtain rfl : j = bs.length := by omega
      have e : zs = bs := by
        refine List.ext_getElem hz.out fun i h1 h2 => ?_
        have := hk.out i h2
        rw [List.getElem?_eq_getElem h1, List.getElem?_eq_getElem h2] at this
        exact this
      rw [e] at R
      go_wp2
      go_ret
      exact ⟨rfl, R, B⟩
end Go.Proofs.YtjpnkmhmipendaaDoor
