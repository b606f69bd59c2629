/- slices.Concat of two lists of writes that are only seen. -/
import Derived.Test.YtonbmeepfgejmaaGreatDoorQuR
import Derived.Test.YtonbmeepfgejmaaGreatDoorBase
import Derived.Lib.AppendZeros
import Derived.Maps.AppendAt
namespace Go.Proofs.YtonbmeepfgejmaaGreatDoor
open Go.RowKit

/-- The cells of a list of writes that is seen. -/
structure SeesC (w : World) (a : Option Addr) (m : Nat) (xs : List Value) : Prop where
  len : xs.length = m * 2
  ones : ∀ u ∈ xs, u.oneCell' = true
  lies : 0 < m → ∃ ad, a = some ad
  news : ∀ ad, a = some ad → ∀ j u, xs[j]? = some u → w.cell? (ad.add j) = some u
theorem SeesC.below {w w' : World} {a : Option Addr} {m : Nat} {xs : List Value} (h : SeesC w a m xs) (hb : Below w.heap.size w w') : SeesC w' a m xs :=
  ⟨h.len, h.ones, h.lies, fun ad e j u hu => bat hb (h.news ad e j u hu)⟩

set_option maxRecDepth 20000 in
theorem appW {base n m : Nat} {w : World} {v : Value} {xs ys : List Value} {a : Option Addr} {c : Nat} (h : w.ownsRow base 55 2 v n xs) (hd : SeesC w a m ys) (hl : n + m ≤ 4000000) (hb : base ≤ w.heap.size) :
    ∃ v' w', (Builtin.append_ #[29, 29] 29 #[v, .slice a m c]).run Tryz.prog w = .ok v' w' ∧ w'.ownsRow base 55 2 v' (n + m) (xs ++ ys) ∧ w.grownBy w' v.ownBlock := by
  obtain ⟨iW, hiW, hW0, hW1, hW2⟩ := info_parts infoW
  cases a with
  | some ad =>
    obtain ⟨v', w', hr, R, G, -, A⟩ := run_append_own_at (P := Tryz.prog) w base 29 29 55 iW (.agg #[.int .i64 0, .slice none 0 0]) 2 32 Tryz.underlying29 hiW hW0 hW1 hW2 rfl (by decide) v n xs h ad m c ys hd.len (hd.news ad rfl) hd.ones (by unfold maxLen; omega) (by omega) hb
    exact ⟨v', w', hr, R, G⟩
  | none =>
    obtain rfl : m = 0 := by
      rcases Nat.eq_zero_or_pos m with e | e
      · exact e
      · obtain ⟨_, q⟩ := hd.lies e; cases q
    obtain rfl : ys = [] := List.eq_nil_of_length_eq_zero (by have := hd.len; omega)
    obtain ⟨hl2, h2⟩ := id h
    rcases h2 with ⟨hv, h0⟩ | ⟨g', cap', cur, hv, hbg, hg, hnc, hcm, hcs, htake⟩
    · refine ⟨v, w, ?_, by rw [List.append_nil]; exact h, grownBy_refl _ _⟩
      rw [hv]
      simp [Builtin.append_, run_underlying (P := Tryz.prog) Tryz.underlying29, sizeOf, typeInfo, hiW, Builtin.lenOf, run_firstCells_none]
    · refine ⟨v, w, ?_, by rw [List.append_nil]; exact h, grownBy_refl _ _⟩
      rw [hv]
      simp [Builtin.append_, run_underlying (P := Tryz.prog) Tryz.underlying29, sizeOf, typeInfo, hiW, Builtin.lenOf, hnc, run_firstCells_none, Addr.add_lit, storeCells]

set_option maxRecDepth 20000 in
theorem growW (n : Nat) (hn : n ≤ 4000000) (w : World) :
    Calls Tryz.prog 60 #[.slice none 0 0, .int .i64 n] w fun e w' => ∃ v, e = .returned v ∧ w'.ownsRow w.heap.size 55 2 v 0 [] ∧ Below w.heap.size w w' := by
  obtain ⟨i0, hi, hz0, hz1, hz2⟩ := info_parts infoW
  by_cases h0 : n = 0
  · subst h0
    go_enter Tryz.func60, Tryz.ntmps60
    go_wp2
    go_ret
    exact ⟨_, rfl, World.ownsRow_nil _ _ _ _, Below.refl _ _⟩
  · have hrz : ∀ ty (W : World), (Builtin.append_ #[29, 3] ty #[.slice none 0 0, .int .i64 (n : Int)]).run Tryz.prog W = .ok (.slice (some ⟨W.heap.size, 0, none⟩) n (grownCap W n 0 55)) (W.drew.alloc (.cells (Builtin.zeroCells (.agg #[.int .i64 0, .slice none 0 0] : Value).cells n ++ Builtin.zeroCells (.agg #[.int .i64 0, .slice none 0 0] : Value).cells (grownCap W n 0 55 - n)) 55)) := fun ty W =>
      Lib.run_append_nil_zeros W 29 3 ty 55 i0 (.agg #[.int .i64 0, .slice none 0 0]) .i64 .i64 Tryz.underlying29 Tryz.underlying3 hi hz0 n (by omega) (by rw [hz1]; omega) (by omega) (by rw [hz2]; omega)
    have hge := grownCap_ge w n 0 55
    have hle := grownCap_le_maxLen w n 0 55 (by unfold maxLen; omega)
    have hrun := fun ty => hrz ty w
    clear hrz
    generalize grownCap w n 0 55 = G at *
    have HM : Hid (G ≤ maxLen) := hle
    unfold maxLen at hle
    have hcz : (Builtin.zeroCells (.agg #[.int .i64 0, .slice none 0 0] : Value).cells n ++ Builtin.zeroCells (.agg #[.int .i64 0, .slice none 0 0] : Value).cells (G - n)).size = G * 2 := by
      rw [Array.size_append, size_zeroCells, size_zeroCells]
      show n * 2 + (G - n) * 2 = G * 2
      omega
    generalize Builtin.zeroCells (.agg #[.int .i64 0, .slice none 0 0] : Value).cells n ++ Builtin.zeroCells (.agg #[.int .i64 0, .slice none 0 0] : Value).cells (G - n) = cur at *
    have h1 : (0 : Int) < n := by omega
    go_enter Tryz.func60, Tryz.ntmps60
    go_wp2_with (at_builtin; refine Lib.wpList_append_run _ rfl _ _ _ _ rfl _ _ rfl rfl _ _ (hrun _) ?_)
    go_ret
    refine ⟨_, rfl, ⟨rfl, .inr ⟨w.heap.size, G, cur, rfl, Nat.le_refl _, ?_, Nat.zero_le _, HM.out, hcz, ?_⟩⟩, ?_⟩
    · exact heap_alloc_new w.drew _
    · simp
    · exact (Below.refl _ _).drew.trans (below1 w.drew _)

def upN (nn : Nat → Nat) : Nat → Nat
  | 0 => 0
  | j + 1 => upN nn j + nn j
def flX (xx : Nat → List Value) : Nat → List Value
  | 0 => []
  | j + 1 => flX xx j ++ xx j

set_option maxRecDepth 20000 in
set_option maxHeartbeats 2000000 in
theorem concatW (p : Nat) (aa : Nat → Option Addr) (cc nn : Nat → Nat) (xx : Nat → List Value) (w : World) (hp : ∀ i, i < 2 → w.cell? ⟨p, i, none⟩ = some (.slice (aa i) (nn i) (cc i))) (hc : ∀ i, i < 2 → SeesC w (aa i) (nn i) (xx i)) (hn : ∀ i, i < 2 → nn i ≤ 2000000) :
    Calls Tryz.prog 44 #[.slice (some ⟨p, 0, none⟩) 2 2] w fun e w' => ∃ v, e = .returned v ∧ w'.ownsRow w.heap.size 55 2 v (upN nn 2) (flX xx 2) ∧ Below w.heap.size w w' := by
  have HP : Hid (∀ i, i < 2 → w.cell? ⟨p, i, none⟩ = some (.slice (aa i) (nn i) (cc i))) := hp
  have HC : Hid (∀ i, i < 2 → SeesC w (aa i) (nn i) (xx i)) := hc
  have HN : Hid (∀ i, i < 2 → nn i ≤ 2000000) := hn
  have HU : Hid (∀ j, j ≤ 2 → upN nn j ≤ 2000000 * j) := fun j hj => by
    have a0 := hn 0 (by omega)
    have a1 := hn 1 (by omega)
    match j, hj with
    | 0, _ => simp [upN]
    | 1, _ => simp only [upN]; omega
    | 2, _ => simp only [upN]; omega
  clear hp hc hn
  go_enter Tryz.func44, Tryz.ntmps44
  go_wp2
  go_loopw [3, 11] (fun s3 s11 wr => ∃ j : Nat, j ≤ 2 ∧ s11 = .int .i64 j ∧ s3 = .int .i64 (upN nn j : Nat) ∧ Below w.heap.size w wr) (fun _ s11 _ => 2 - (intOf s11).toNat)
  case atStart => exact ⟨0, Nat.zero_le _, rfl, rfl, Below.refl _ _⟩
  case round =>
    obtain ⟨j, hj, rfl, rfl, B0⟩ := hrel
    rename World => wq
    have b0 := HU.out j hj
    by_cases hlt : j < 2
    · have g := bat B0 (HP.out j hlt)
      have b2 := HN.out j hlt
      have E : Hid (upN nn (j + 1) = upN nn j + nn j) := (rfl : upN nn (j + 1) = _)
      generalize nn j = m at *
      generalize upN nn j = l at *
      have hneg : ¬ ((l : Int) + (m : Int) < 0) := by omega
      go_wp2
      go_roundw
      case rel => exact ⟨j + 1, by omega, by go_num, (by rw [E.out]; go_num), B0⟩
      case measure => simp [intOf]; omega
    · obtain rfl : j = 2 := by omega
      obtain ⟨l, hl⟩ : ∃ l, Hid (upN nn 2 = l) := ⟨_, rfl⟩
      rw [hl.out] at b0 ⊢
      go_wp2_with fail
      refine (growW l (by omega) _).mono ?_
      rintro e w1 ⟨v, rfl, R, hb⟩
      have B := B0.trans (hb.mono B0.size)
      replace R : w1.ownsRow w.heap.size 55 2 v 0 [] := row_base R B0.size
      clear hb B0
      go_wp2
      go_loopw [6, 27] (fun s6 s27 wr => ∃ j : Nat, j ≤ 2 ∧ s27 = .int .i64 j ∧ wr.ownsRow w.heap.size 55 2 s6 (upN nn j) (flX xx j) ∧ Below w.heap.size w wr) (fun _ s27 _ => 2 - (intOf s27).toNat)
      case atStart => exact ⟨0, Nat.zero_le _, rfl, R, B⟩
      case round =>
        clear R B
        obtain ⟨i, hi', rfl, R, B⟩ := hrel
        rename World => wr
        by_cases hli : i < 2
        · have g := bat B (HP.out i hli)
          have S := (HC.out i hli).below B
          have b2 := HN.out i hli
          have b3 := HU.out i (by omega)
          have bz := B.size
          obtain ⟨v7, w7, hrun, R7, G7⟩ := appW (c := cc i) R S (by omega) bz
          have RN : Hid (w7.ownsRow w.heap.size 55 2 v7 (upN nn (i + 1)) (flX xx (i + 1))) := R7
          have B7 := B.grown G7 bz (fun k hk => (World.ownsRow.lt R k hk).1)
          clear R7 G7 S R B
          go_wp2_with (at_builtin; refine Lib.wpList_append_run _ rfl _ _ _ _ rfl _ _ rfl rfl _ _ hrun ?_)
          go_roundw
          case rel => exact ⟨i + 1, by omega, by go_num, RN.out, B7⟩
          case measure => simp [intOf]; omega
        · obtain rfl : i = 2 := by omega
          go_wp2
          go_ret
          exact ⟨_, rfl, R, B⟩
end Go.Proofs.YtonbmeepfgejmaaGreatDoor
