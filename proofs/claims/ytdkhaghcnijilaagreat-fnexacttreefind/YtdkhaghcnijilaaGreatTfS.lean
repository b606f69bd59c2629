/- A list is sorted in place: l15Rising, of the specification. -/
import Derived.Test.YtdkhaghcnijilaaGreatTfR
import Derived.Test.YtdkhaghcnijilaaGreatHeld
namespace Go.Proofs.YtdkhaghcnijilaaGreat
open Go.RowKit

theorem RowI.swp {base q c : Nat} {w : World} {l : List Int} (h : RowI base w (.slice (some ⟨q, 0, none⟩) l.length c) l) (k : Nat) : RowI base ((w.setCell ⟨q, k, none⟩ (.int .i64 (gI l (k - 1)))).setCell ⟨q, k - 1, none⟩ (.int .i64 (gI l k))) (.slice (some ⟨q, 0, none⟩) (swp l k).length c) (swp l k) := (h.put k (gI l (k - 1))).put (k - 1) (gI l k)

set_option maxRecDepth 20000 in
set_option maxHeartbeats 4000000 in
theorem rising_any {base : Nat} (a : Option Addr) (c : Nat) (ds : List Int) (w : World) (h : RowI base w (.slice a ds.length c) ds) (hl : ds.length ≤ 4000000) :
    Calls Tryz.prog 32 #[.slice a ds.length c] w fun e w' => e = .returned (.slice a ds.length c) ∧ (∃ L, RowI base w' (.slice a L.length c) L ∧ L.length = ds.length ∧ L.Perm ds ∧ L.Pairwise (· ≤ ·)) ∧ w.grownBy w' (Value.slice a ds.length c).ownBlock := by
  obtain ⟨hf, hm⟩ := h.caps
  unfold maxLen at hm
  obtain ⟨n, hn⟩ : ∃ n, Hid (ds.length = n) := ⟨_, rfl⟩
  have HP : Hid (∀ L : List Int, L.Perm ds → L.length = ds.length) := fun L p => p.length_eq
  rw [hn.out] at hf hl ⊢
  go_enter Tryz.func32, Tryz.ntmps32
  go_wp2
  go_loopw [3, 4, 5] (fun s3 _ _ wr => ∃ (i : Nat) (L : List Int), (i = 1 ∨ i ≤ n) ∧ 1 ≤ i ∧ s3 = .int .i64 i ∧ Hid (L.length = n) ∧ Hid (L.Perm ds) ∧ Hid (Asc L i) ∧ Hid (RowI base wr (.slice a L.length c) L) ∧ w.grownBy wr (Value.slice a n c).ownBlock) (fun s3 _ _ _ => n + 1 - (intOf s3).toNat)
  case atStart => exact ⟨1, ds, .inl rfl, Nat.le_refl _, rfl, hn.out, List.Perm.refl _, (fun p q h1 h2 => absurd h2 (by omega)), h, grownBy_refl _ _⟩
  case round =>
    obtain ⟨i, L, hi1, hi0, rfl, LN, LP, LA, R, G⟩ := hrel
    rename World => wr
    by_cases hlt : i < n
    · go_wp2
      go_loopw [4, 5] (fun s4 _ wi => ∃ (k : Nat) (M : List Int), k ≤ i ∧ s4 = .int .i64 k ∧ Hid (M.length = n) ∧ Hid (M.Perm ds) ∧ Hid (Mid M i k) ∧ Hid (RowI base wi (.slice a M.length c) M) ∧ w.grownBy wi (Value.slice a n c).ownBlock) (fun s4 _ _ => (intOf s4).toNat)
      case atStart => exact ⟨i, L, Nat.le_refl _, rfl, LN, LP, LA.out.mid, R, G⟩
      case round =>
        clear LN LP LA R G
        obtain ⟨k, M, hk, rfl, MN, MP, MD, R, G⟩ := hrel
        rename World => wi
        rcases k with _ | k
        · have F : Hid (Asc M (i + 1)) := MD.out.asc (.inl rfl)
          have e0 : ((0 : Nat) : Int) = 0 := rfl
          rw [e0]
          go_wp2_with fail
          have N : True := trivial
          refine wp_region_held_drew (S := fun _ => True) (by kernel_rfl) N (fun hHeld => ?_)
          clear hHeld
          have R9 : Hid (RowI base wi.drew (.slice a M.length c) M) := R.out.below (Below.refl _ _).drew
          have G9 : w.grownBy wi.drew (Value.slice a n c).ownBlock := grownBy_drewN G 1
          clear R G
          generalize wi.drew = ww0 at *
          refine takeW (i := 0) (by simp only [List.getElem?_toArray, List.getElem?_cons_zero]; exact rfl) (by kernel_rfl) (by kernel_rfl) (by kernel_rfl) (by exact fun _ _ _ h => h) (by rfl) (by intro wq hSw; go_simp <;> with_reducible rfl) (by assumption) ?_
          try simp only [Act.put, List.setIfInBounds_toArray, List.set_cons_zero, List.set_cons_succ]
          refine takeW (i := 1) (by simp only [List.getElem?_toArray, List.getElem?_cons_succ, List.getElem?_cons_zero]; exact rfl) (by kernel_rfl) (by kernel_rfl) (by kernel_rfl) (by exact fun _ _ _ h => h) (by rfl) (by intro wq hSw; go_simp <;> with_reducible rfl) (by assumption) ?_
          try simp only [Act.put, List.setIfInBounds_toArray, List.set_cons_zero, List.set_cons_succ]
          refine takeW (i := 2) (by simp only [List.getElem?_toArray, List.getElem?_cons_succ, List.getElem?_cons_zero]; exact rfl) (by kernel_rfl) (by kernel_rfl) (by kernel_rfl) (by exact fun _ _ _ h => h) (by rfl) (by intro wq hSw; go_simp <;> with_reducible rfl) (by assumption) ?_
          try simp only [Act.put, List.setIfInBounds_toArray, List.set_cons_zero, List.set_cons_succ]
          refine takeN (i := 3) (by simp only [List.getElem?_toArray, List.getElem?_cons_succ, List.getElem?_cons_zero]; exact rfl) (by kernel_rfl) (by kernel_rfl) (by kernel_rfl) (by exact fun _ _ _ h => h) (by rfl) (by assumption) ?_
          try simp only [Act.put, List.setIfInBounds_toArray, List.set_cons_zero, List.set_cons_succ]
          refine takeN (i := 4) (by simp only [List.getElem?_toArray, List.getElem?_cons_succ, List.getElem?_cons_zero]; exact rfl) (by kernel_rfl) (by kernel_rfl) (by kernel_rfl) (by exact fun _ _ _ h => h) (by rfl) (by assumption) ?_
          try simp only [Act.put, List.setIfInBounds_toArray, List.set_cons_zero, List.set_cons_succ]
          refine takeN (i := 5) (by simp only [List.getElem?_toArray, List.getElem?_cons_succ, List.getElem?_cons_zero]; exact rfl) (by kernel_rfl) (by kernel_rfl) (by kernel_rfl) (by exact fun _ _ _ h => h) (by rfl) (by assumption) ?_
          try simp only [Act.put, List.setIfInBounds_toArray, List.set_cons_zero, List.set_cons_succ]
          refine takeN (i := 6) (by simp only [List.getElem?_toArray, List.getElem?_cons_succ, List.getElem?_cons_zero]; exact rfl) (by kernel_rfl) (by kernel_rfl) (by kernel_rfl) (by exact fun _ _ _ h => h) (by rfl) (by assumption) ?_
          try simp only [Act.put, List.setIfInBounds_toArray, List.set_cons_zero, List.set_cons_succ]
          refine takeN (i := 7) (by simp only [List.getElem?_toArray, List.getElem?_cons_succ, List.getElem?_cons_zero]; exact rfl) (by kernel_rfl) (by kernel_rfl) (by kernel_rfl) (by exact fun _ _ _ h => h) (by rfl) (by assumption) ?_
          try simp only [Act.put, List.setIfInBounds_toArray, List.set_cons_zero, List.set_cons_succ]
          refine takeN (i := 8) (by simp only [List.getElem?_toArray, List.getElem?_cons_succ, List.getElem?_cons_zero]; exact rfl) (by kernel_rfl) (by kernel_rfl) (by kernel_rfl) (by exact fun _ _ _ h => h) (by rfl) (by assumption) ?_
          try simp only [Act.put, List.setIfInBounds_toArray, List.set_cons_zero, List.set_cons_succ]
          refine takeN (i := 9) (by simp only [List.getElem?_toArray, List.getElem?_cons_succ, List.getElem?_cons_zero]; exact rfl) (by kernel_rfl) (by kernel_rfl) (by kernel_rfl) (by exact fun _ _ _ h => h) (by rfl) (by assumption) ?_
          try simp only [Act.put, List.setIfInBounds_toArray, List.set_cons_zero, List.set_cons_succ]
          refine takeN (i := 10) (by simp only [List.getElem?_toArray, List.getElem?_cons_succ, List.getElem?_cons_zero]; exact rfl) (by kernel_rfl) (by kernel_rfl) (by kernel_rfl) (by exact fun _ _ _ h => h) (by rfl) (by assumption) ?_
          try simp only [Act.put, List.setIfInBounds_toArray, List.set_cons_zero, List.set_cons_succ]
          refine takeN (i := 11) (by simp only [List.getElem?_toArray, List.getElem?_cons_succ, List.getElem?_cons_zero]; exact rfl) (by kernel_rfl) (by kernel_rfl) (by kernel_rfl) (by exact fun _ _ _ h => h) (by rfl) (by assumption) ?_
          try simp only [Act.put, List.setIfInBounds_toArray, List.set_cons_zero, List.set_cons_succ]
          refine takeN (i := 12) (by simp only [List.getElem?_toArray, List.getElem?_cons_succ, List.getElem?_cons_zero]; exact rfl) (by kernel_rfl) (by kernel_rfl) (by kernel_rfl) (by exact fun _ _ _ h => h) (by rfl) (by assumption) ?_
          try simp only [Act.put, List.setIfInBounds_toArray, List.set_cons_zero, List.set_cons_succ]
          refine takeW (i := 13) (by simp only [List.getElem?_toArray, List.getElem?_cons_succ, List.getElem?_cons_zero]; exact rfl) (by kernel_rfl) (by kernel_rfl) (by kernel_rfl) (by exact fun _ _ _ h => h) (by rfl) (by intro wq hSw; go_simp <;> with_reducible rfl) (by assumption) ?_
          try simp only [Act.put, List.setIfInBounds_toArray, List.set_cons_zero, List.set_cons_succ]
          refine wpAnyH_done (by kernel_rfl) ?_ _
          clear N MD
          go_wp2
          go_roundw
          case rel => exact ⟨i + 1, M, .inr (by omega), by omega, by go_num, MN, MP, F, R9, G9⟩
          case measure => simp [intOf]; omega
        · have hkn : k + 1 < M.length := by rw [MN.out]; omega
          obtain ⟨q, rfl, g1, _⟩ := R.out.at2 (j := k + 1) hkn
          have g0 := R.out.at' (j := k) (by omega)
          have hz : wrap64 (((k + 1 : Nat) : Int) - 1) = (k : Int) := by unfold wrap64; omega
          have e1 : ((k + 1 : Nat) : Int) - 1 = (k : Int) := by omega
          have hw : IntKind.i64.wrap (k : Int) = (k : Int) := by rw [IntKind.wrap_i64]; omega
          have hlk : (k : Int) < (n : Int) := by have := MN.out; omega
          have hlk2 : (k : Int) + 1 < (n : Int) := by have := MN.out; omega
          have e2 : ((k + 1 : Nat) : Int) = (k : Int) + 1 := by omega
          have hk0 : (0 : Int) ≤ (k : Int) + 1 := by omega
          have hk1 : (0 : Int) < (k : Int) + 1 := by omega
          go_wp2_with fail
          have N : wi.drew.cell? ⟨q, k, none⟩ = some (.int .i64 (gI M k)) ∧ wi.drew.cell? ⟨q, k + 1, none⟩ = some (.int .i64 (gI M (k + 1))) := ⟨g0, g1⟩
          refine wp_region_held_drew (S := fun w' => w'.cell? ⟨q, k, none⟩ = some (.int .i64 (gI M k)) ∧ w'.cell? ⟨q, k + 1, none⟩ = some (.int .i64 (gI M (k + 1)))) (by kernel_rfl) N (fun hHeld => ?_)
          clear hHeld
          have R9 : Hid (RowI base wi.drew (.slice (some ⟨q, 0, none⟩) M.length c) M) := R.out.below (Below.refl _ _).drew
          have G9 : w.grownBy wi.drew (Value.slice (some ⟨q, 0, none⟩) n c).ownBlock := grownBy_drewN G 1
          clear R G g0 g1
          generalize wi.drew = ww0 at *
          refine takeW (i := 0) (by simp only [List.getElem?_toArray, List.getElem?_cons_zero]; exact rfl) (by kernel_rfl) (by kernel_rfl) (by kernel_rfl) (by exact fun _ _ _ h => h) (by rfl) (by intro wq hSw; go_simp <;> with_reducible rfl) (by assumption) ?_
          try simp only [Act.put, List.setIfInBounds_toArray, List.set_cons_zero, List.set_cons_succ]
          refine takeW (i := 1) (by simp only [List.getElem?_toArray, List.getElem?_cons_succ, List.getElem?_cons_zero]; exact rfl) (by kernel_rfl) (by kernel_rfl) (by kernel_rfl) (by exact fun _ _ _ h => h) (by rfl) (by intro wq hSw; go_simp <;> with_reducible rfl) (by assumption) ?_
          try simp only [Act.put, List.setIfInBounds_toArray, List.set_cons_zero, List.set_cons_succ]
          refine takeW (i := 2) (by simp only [List.getElem?_toArray, List.getElem?_cons_succ, List.getElem?_cons_zero]; exact rfl) (by kernel_rfl) (by kernel_rfl) (by kernel_rfl) (by exact fun _ _ _ h => h) (by rfl) (by intro wq hSw; go_simp <;> with_reducible rfl) (by assumption) ?_
          try simp only [Act.put, List.setIfInBounds_toArray, List.set_cons_zero, List.set_cons_succ]
          refine takeW (i := 3) (by simp only [List.getElem?_toArray, List.getElem?_cons_succ, List.getElem?_cons_zero]; exact rfl) (by kernel_rfl) (by kernel_rfl) (by kernel_rfl) (by exact fun _ _ _ h => h) (by rfl) (by intro wq hSw; go_simp <;> with_reducible rfl) (by assumption) ?_
          try simp only [Act.put, List.setIfInBounds_toArray, List.set_cons_zero, List.set_cons_succ]
          refine takeW (i := 4) (by simp only [List.getElem?_toArray, List.getElem?_cons_succ, List.getElem?_cons_zero]; exact rfl) (by kernel_rfl) (by kernel_rfl) (by kernel_rfl) (by exact fun _ _ _ h => h) (by rfl) (by intro wq hSw; go_simp <;> with_reducible rfl) (by assumption) ?_
          try simp only [Act.put, List.setIfInBounds_toArray, List.set_cons_zero, List.set_cons_succ]
          refine takeW (i := 5) (by simp only [List.getElem?_toArray, List.getElem?_cons_succ, List.getElem?_cons_zero]; exact rfl) (by kernel_rfl) (by kernel_rfl) (by kernel_rfl) (by exact fun _ _ _ h => h) (by rfl) (by intro wq hSw; go_simp <;> with_reducible rfl) (by assumption) ?_
          try simp only [Act.put, List.setIfInBounds_toArray, List.set_cons_zero, List.set_cons_succ]
          refine takeW (i := 6) (by simp only [List.getElem?_toArray, List.getElem?_cons_succ, List.getElem?_cons_zero]; exact rfl) (by kernel_rfl) (by kernel_rfl) (by kernel_rfl) (by exact fun _ _ _ h => h) (by rfl) (by intro wq hSw; go_simp <;> with_reducible rfl) (by assumption) ?_
          try simp only [Act.put, List.setIfInBounds_toArray, List.set_cons_zero, List.set_cons_succ]
          refine takeW (i := 7) (by simp only [List.getElem?_toArray, List.getElem?_cons_succ, List.getElem?_cons_zero]; exact rfl) (by kernel_rfl) (by kernel_rfl) (by kernel_rfl) (by exact fun _ _ _ h => h) (by rfl) (by intro wq hSw; obtain ⟨y1, y2⟩ := hSw; go_simp <;> with_reducible rfl) (by assumption) ?_
          try simp only [Act.put, List.setIfInBounds_toArray, List.set_cons_zero, List.set_cons_succ]
          refine takeW (i := 8) (by simp only [List.getElem?_toArray, List.getElem?_cons_succ, List.getElem?_cons_zero]; exact rfl) (by kernel_rfl) (by kernel_rfl) (by kernel_rfl) (by exact fun _ _ _ h => h) (by rfl) (by intro wq hSw; go_simp <;> with_reducible rfl) (by assumption) ?_
          try simp only [Act.put, List.setIfInBounds_toArray, List.set_cons_zero, List.set_cons_succ]
          refine takeW (i := 9) (by simp only [List.getElem?_toArray, List.getElem?_cons_succ, List.getElem?_cons_zero]; exact rfl) (by kernel_rfl) (by kernel_rfl) (by kernel_rfl) (by exact fun _ _ _ h => h) (by rfl) (by intro wq hSw; go_simp <;> with_reducible rfl) (by assumption) ?_
          try simp only [Act.put, List.setIfInBounds_toArray, List.set_cons_zero, List.set_cons_succ]
          refine takeW (i := 10) (by simp only [List.getElem?_toArray, List.getElem?_cons_succ, List.getElem?_cons_zero]; exact rfl) (by kernel_rfl) (by kernel_rfl) (by kernel_rfl) (by exact fun _ _ _ h => h) (by rfl) (by intro wq hSw; go_simp <;> with_reducible rfl) (by assumption) ?_
          try simp only [Act.put, List.setIfInBounds_toArray, List.set_cons_zero, List.set_cons_succ]
          refine takeW (i := 11) (by simp only [List.getElem?_toArray, List.getElem?_cons_succ, List.getElem?_cons_zero]; exact rfl) (by kernel_rfl) (by kernel_rfl) (by kernel_rfl) (by exact fun _ _ _ h => h) (by rfl) (by intro wq hSw; obtain ⟨y1, y2⟩ := hSw; go_simp <;> with_reducible rfl) (by assumption) ?_
          try simp only [Act.put, List.setIfInBounds_toArray, List.set_cons_zero, List.set_cons_succ]
          refine takeW (i := 12) (by simp only [List.getElem?_toArray, List.getElem?_cons_succ, List.getElem?_cons_zero]; exact rfl) (by kernel_rfl) (by kernel_rfl) (by kernel_rfl) (by exact fun _ _ _ h => h) (by rfl) (by intro wq hSw; go_simp <;> with_reducible rfl) (by assumption) ?_
          try simp only [Act.put, List.setIfInBounds_toArray, List.set_cons_zero, List.set_cons_succ]
          refine takeW (i := 13) (by simp only [List.getElem?_toArray, List.getElem?_cons_succ, List.getElem?_cons_zero]; exact rfl) (by kernel_rfl) (by kernel_rfl) (by kernel_rfl) (by exact fun _ _ _ h => h) (by rfl) (by intro wq hSw; go_simp <;> with_reducible rfl) (by assumption) ?_
          try simp only [Act.put, List.setIfInBounds_toArray, List.set_cons_zero, List.set_cons_succ]
          refine wpAnyH_done (by kernel_rfl) ?_ _
          obtain ⟨g0, g1⟩ := N
          have f0 := R9.out.frozenAt k
          have f1 := R9.out.frozenAt (k + 1)
          by_cases hg : gI M (k + 1) < gI M k
          · have M2 : Hid (Mid (swp M (k + 1)) i k) := MD.out.swp (by omega) hk (by rw [MN.out]; exact hlt) hg
            have P2 : Hid ((swp M (k + 1)).Perm ds) := (swp_perm (by omega) hkn).trans MP.out
            have N2 : Hid ((swp M (k + 1)).length = n) := by show _ = _; rw [swp_len]; exact MN.out
            have R2 : Hid (RowI base _ (.slice (some ⟨q, 0, none⟩) (swp M (k + 1)).length c) (swp M (k + 1))) := R9.out.swp (k + 1)
            have G2 := grownBy_setCell (grownBy_setCell G9 (p := ⟨q, k + 1, none⟩) rfl (.int .i64 (gI M k))) (p := ⟨q, k, none⟩) rfl (.int .i64 (gI M (k + 1)))
            simp only [Nat.add_sub_cancel] at R2
            clear MD R9 G9
            go_wp2
            go_roundw
            case rel => exact ⟨k, swp M (k + 1), by omega, by go_num, N2, P2, M2, R2, G2⟩
            case measure => simp [intOf]
          · have F : Hid (Asc M (i + 1)) := MD.out.asc (.inr (by rw [Nat.add_sub_cancel]; omega))
            have hg' : gI M k ≤ gI M (k + 1) := by omega
            clear MD g0 g1 f0 f1
            go_wp2
            go_roundw
            case rel => exact ⟨i + 1, M, .inr (by omega), by omega, by go_num, MN, MP, F, R9, G9⟩
            case measure => simp [intOf]; omega
    · go_wp2
      go_ret
      exact ⟨rfl, ⟨L, R.out, LN.out, LP.out, Asc.pairwise (by rw [LN.out]; intro p q h1 h2; exact LA.out p q h1 (by omega))⟩, G⟩
end Go.Proofs.YtdkhaghcnijilaaGreat
