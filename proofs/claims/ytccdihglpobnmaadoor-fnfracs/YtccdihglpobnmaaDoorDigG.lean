/- The program's groups of nine digits: impl.digitGroups. -/
import Derived.Test.YtccdihglpobnmaaDoorGrp
import Derived.Test.YtccdihglpobnmaaDoorDivI
import Derived.Test.YtccdihglpobnmaaDoorSText
namespace Go.Proofs.YtccdihglpobnmaaDoor
open Go.RowKit

theorem info8 : (Tryd.prog.info? 58).map (fun i => (i.zero, i.size, i.bytes)) = some (some (.int .u64 0), 1, 8) := by kernel_rfl
/-- Groups in a row of the call's own. -/
def RowG (base : Nat) (w : World) (v : Value) (gs : List Int) : Prop := w.ownsRow base 58 1 v gs.length (gs.map (Value.int .u64))
theorem ones64 (ys : List Int) : ∀ u ∈ ys.map (Value.int .u64), u.oneCell' = true := by
  intro u hu
  obtain ⟨y, _, rfl⟩ := List.mem_map.1 hu
  rfl
theorem one_new64 (w : World) (e : TypeId) (y : Int) : ∀ j u, ([y].map (Value.int .u64))[j]? = some u → (w.alloc (.cells #[.int .u64 y] e)).cell? ((⟨w.heap.size, 0, none⟩ : Addr).add j) = some u := by
  intro j u hu
  cases j with
  | zero =>
    simp at hu
    subst hu
    exact cell_new w #[.int .u64 y] e 0 rfl
  | succ j => simp at hu
theorem RowG.snoc {base n : Nat} {w : World} {v : Value} {gs : List Int} {y : Int} (h : w.ownsRow base 58 1 v (gs.length + 1) (gs.map (Value.int .u64) ++ [y].map (Value.int .u64))) (_ : n = 0) : RowG base w v (gs ++ [y]) := by
  unfold RowG
  rw [List.map_append, List.length_append]
  exact h
theorem RowG.below {base : Nat} {w w' : World} {v : Value} {gs : List Int} (h : RowG base w v gs) (hb : Below w.heap.size w w') : RowG base w' v gs := owns_below h hb
theorem RowG.shape {base : Nat} {w : World} {v : Value} {gs : List Int} (h : RowG base w v gs) (hn : gs ≠ []) : ∃ q cap, v = .slice (some ⟨q, 0, none⟩) gs.length cap ∧ base ≤ q ∧ q < w.heap.size := by
  have hp : 0 < gs.length := List.length_pos_iff.2 hn
  rcases h.2 with ⟨_, h0⟩ | ⟨q, cap, cur, hv, hb, hh, _⟩
  · omega
  · refine ⟨q, cap, hv, hb, ?_⟩
    rcases Nat.lt_or_ge q w.heap.size with h1 | h1
    · exact h1
    · rw [Array.getElem?_eq_none h1] at hh; cases hh
theorem RowG.at' {base q cap : Nat} {w : World} {gs : List Int} (h : RowG base w (.slice (some ⟨q, 0, none⟩) gs.length cap) gs) {j : Nat} (hj : j < gs.length) : w.cell? ⟨q, j, none⟩ = some (.int .u64 (gs[j]?.getD 0)) := by
  rw [h.cellAt j (by omega), List.getElem?_map, List.getElem?_eq_getElem hj]
  rfl
theorem lit1G (w : World) (e : TypeId) (x : Int) (hx : 0 ≤ x ∧ x < 4294967296) :
    Own w.heap.size (w.alloc (.cells #[.int .u32 x] e)) (some ⟨w.heap.size, 0, none⟩) 1 [x] := by
  have hh := heap_alloc_new w (.cells #[.int .u32 x] e)
  refine (Own.of_row (n := 1) ⟨rfl, .inr ⟨w.heap.size, 1, #[.int .u32 x], rfl, Nat.le_refl _, hh, Nat.le_refl _, by simp [maxLen], rfl, rfl⟩⟩ (Lim.mk hx Lim.nil)).1

set_option maxRecDepth 20000 in
set_option maxHeartbeats 2000000 in
theorem digitGroupsC (a : Option Addr) (c : Nat) (xs : List Int) (w : World) (h : Sees w a c xs) (hn : Nrm xs) (hl : xs.length ≤ 24) :
    Calls Tryd.prog 36 #[.slice a xs.length c] w fun e w' => ∃ v, e = .returned v ∧ RowG w.heap.size w' v (grp (val xs).toNat) ∧ Below w.heap.size w w' := by
  obtain ⟨i8, hi8, hy0, hy1, hy2⟩ := info_parts info8
  have LX : Hid (Lim xs) := h.lim
  have HN : Hid (Nrm xs ∧ xs.length ≤ 24) := ⟨hn, hl⟩
  have R0 : RowG w.heap.size w (.slice none 0 0) [] := ⟨rfl, .inl ⟨rfl, rfl⟩⟩
  clear hn hl
  go_enter Tryd.func36, Tryd.ntmps36
  go_wp2
  go_loopg [0, 3] (val xs).toNat (fun kk s0 s3 wr => ∃ am cm us gs v3, v3 = s3 ∧ s0 = .slice am us.length cm ∧ Sees wr am cm us ∧ RowG w.heap.size wr v3 gs ∧ Hid (Nrm us ∧ us.length ≤ 24 ∧ kk = (val us).toNat ∧ GrpAt (val xs) gs (val us)) ∧ Below w.heap.size w wr)
  case atStart => exact ⟨a, c, xs, [], _, rfl, rfl, h, R0, ⟨HN.out.1, HN.out.2, rfl, GrpAt.start (val_nonneg LX.out)⟩, Below.refl _ _⟩
  case round =>
    obtain ⟨am, cm, us, gs, v3, rfl, rfl, hO, hR, hI, hB⟩ := hrel
    clear R0 h
    by_cases hu : us = []
    · subst hu
      have hz2 : (([] : List Int).length : Int) = 0 := rfl
      have ED : gs = grp (val xs).toNat := hI.out.2.2.2.done
      rw [ED] at hR
      clear hI
      obtain ⟨a9, n9, c9, rfl⟩ : ∃ a9 n9 c9, v3 = .slice a9 n9 c9 := by
        rcases hR.2 with ⟨hv, _⟩ | ⟨q, cap, cur, hv, _⟩
        · exact ⟨_, _, _, hv⟩
        · exact ⟨_, _, _, hv⟩
      go_wp2
      go_ret
      exact ⟨_, rfl, hR, hB⟩
    · have hpu : (0 : Int) < us.length := by have := List.length_pos_iff.2 hu; omega
      have LU : Hid (Lim us) := hO.lim
      have VU : Hid (0 < val us) := val_pos LU.out hI.out.1 hu
      have D := lit1G wr 59 1000000000 (by decide)
      have O1 := hO.below (below1 wr (.cells #[.int .u32 1000000000] 59))
      have R1 := hR.below (below1 wr (.cells #[.int .u32 1000000000] 59))
      have B1 := hB.alloc hB.size (.cells #[.int .u32 1000000000] 59)
      have sz0 := hB.size
      have low : Hid (∀ b, v3.ownBlock = some b → b < wr.heap.size) := fun b e => (World.ownsRow.lt hR b e).2
      clear hO hR hB
      go_wp2_with fail
      refine (divMagC am (some ⟨wr.heap.size, 0, none⟩) cm 1 us [1000000000] _ O1 D.toSees hI.out.1 (by simp [Nrm]) (by simp) (by have := hI.out.2.1; omega) (by simp)).mono ?_
      rintro e w2 ⟨a1, c1, a2, c2, qs, rs, rfl, hq, hr, nq, nr, vq, vr, _, hb2⟩
      have v9 : val [1000000000] = 1000000000 := by simp [val]
      rw [v9] at vq vr
      have R2 := R1.below hb2
      have B2 := B1.trans (hb2.mono (by simp; omega))
      have hq0 := val_nonneg hq.lim
      have hr0 := val_nonneg hr.lim
      have lr : rs.length ≤ 1 := len_le hr.lim nr (by have := Int.emod_lt_of_pos (val us) (show (0 : Int) < 1000000000 by decide); omega)
      have NI : Hid (Nrm qs ∧ qs.length ≤ 24 ∧ (val qs).toNat < gk ∧ GrpAt (val xs) (gs ++ [val rs]) (val qs)) := by
        refine ⟨nq, ?_, by have := hI.out.2.2.1; have := VU.out; omega, by rw [vq, vr]; exact hI.out.2.2.2.step VU.out⟩
        have h1 := val_lt LU.out
        have h2 := p_mono us.length (24 - us.length)
        have h4 := hI.out.2.1
        rw [show us.length + (24 - us.length) = 24 by omega] at h2
        have h3 := VU.out
        exact len_le hq.lim nq (by omega)
      have gl : gs.length ≤ 26 := hI.out.2.2.2.len (val_groups LX.out HN.out.2)
      have ap : Hid (∀ b off, a1 = some ⟨b, off, none⟩ → qs ≠ [] → v3.ownBlock ≠ some b) := by
        intro b off ha hn e
        have h1 := (hq.new b off ha hn).1
        have h2 := low.out b e
        simp at h1
        omega
      have sz2 := B2.size
      have QO : Hid (Own (wr.heap.size + 1) w2 a1 c1 qs) := by show Own (wr.heap.size + 1) w2 a1 c1 qs; simpa using hq
      clear R1 B1 D O1 hb2 vq nr hq nq hI LU VU v9 hq0
      rcases rs with _ | ⟨x, _ | ⟨y, t⟩⟩
      · have hz2 : (([] : List Int).length : Int) = 0 := rfl
        have vx : val ([] : List Int) = 0 := rfl
        rw [vx] at NI
        clear hr lr vr hr0 vx
        go_wp2_with (at_builtin; refine wpList_append_own _ rfl (.tmp 23) (.tmp 25) 63 rfl w.heap.size 58 i8 (.int .u64 0) 1 8 Tryd.underlying63 hi8 hy0 hy1 hy2 rfl (by decide) v3 gs.length (gs.map (Value.int .u64)) rfl (World.ownsRow.alloc R2 _) ⟨w2.heap.size, 0, none⟩ 1 _ ([0].map (Value.int .u64)) rfl rfl (one_new64 _ _ _) (ones64 _) (by unfold maxLen; omega) (by omega) (by simp <;> omega) ?_)
        intro v' w5 hown' hgrow' hiff
        clear hiff
        have B5 : Below w.heap.size w w5 := (B2.alloc sz2 _).grown hgrow' (by simp <;> omega) (fun q hq => (World.ownsRow.lt R2 q hq).1)
        have R5 := RowG.snoc (n := 0) hown' rfl
        have S5 := ((QO.out.below (below1 w2 (.cells #[.int .u64 0] 58))).kept hgrow' ap.out).toSees
        clear hown' hgrow' R2 B2
        go_wp2
        go_roundg (val qs).toNat
        case measure => exact NI.out.2.2.1
        case rel => exact ⟨a1, c1, qs, gs ++ [0], _, rfl, rfl, S5, R5, ⟨NI.out.1, NI.out.2.1, rfl, NI.out.2.2.2⟩, B5⟩
      · have hz2 : (0 : Int) < (([x] : List Int).length : Int) := by simp
        have vx : val [x] = x := by simp [val]
        rw [vx] at NI
        obtain ⟨b9, o9, rfl, hc9⟩ := hr.cells (by simp)
        have g9 : w2.cell? ⟨b9, o9, none⟩ = some (.int .u32 x) := hc9 0 (by simp)
        have x0 : 0 ≤ x := by rw [← vx]; exact hr0
        have x1 : x < 4294967296 := by rw [← vx, vr]; omega
        clear hr lr vr hr0 vx hc9
        go_wp2_with (at_builtin; refine wpList_append_own _ rfl (.tmp 23) (.tmp 25) 63 rfl w.heap.size 58 i8 (.int .u64 0) 1 8 Tryd.underlying63 hi8 hy0 hy1 hy2 rfl (by decide) v3 gs.length (gs.map (Value.int .u64)) rfl (World.ownsRow.alloc R2 _) ⟨w2.heap.size, 0, none⟩ 1 _ ([x].map (Value.int .u64)) rfl rfl (one_new64 _ _ _) (ones64 _) (by unfold maxLen; omega) (by omega) (by simp <;> omega) ?_)
        intro v' w5 hown' hgrow' hiff
        clear hiff
        have B5 : Below w.heap.size w w5 := (B2.alloc sz2 _).grown hgrow' (by simp <;> omega) (fun q hq => (World.ownsRow.lt R2 q hq).1)
        have R5 := RowG.snoc (n := 0) hown' rfl
        have S5 := ((QO.out.below (below1 w2 (.cells #[.int .u64 x] 58))).kept hgrow' ap.out).toSees
        clear hown' hgrow' R2 B2
        go_wp2
        go_roundg (val qs).toNat
        case measure => exact NI.out.2.2.1
        case rel => exact ⟨a1, c1, qs, gs ++ [x], _, rfl, rfl, S5, R5, ⟨NI.out.1, NI.out.2.1, rfl, NI.out.2.2.2⟩, B5⟩
      · simp at lr
end Go.Proofs.YtccdihglpobnmaaDoor
