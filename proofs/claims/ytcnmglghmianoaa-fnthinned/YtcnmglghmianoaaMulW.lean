import Derived.Test.YtcnmglghmianoaaBase
import Derived.Test.YtcnmglghmianoaaAddI
import Derived.Test.YtcnmglghmianoaaEq
import Derived.Deep.RegionHeld3
/- The program's products of limbs: impl.mulMag. -/
namespace Go.Proofs.Ytcnmglghmianoaa
open Go.RowKit

/-- What holds of the row ahead of row i of a product. -/
def MulAt (xs ys : List Int) (i : Nat) (zs : List Int) : Prop :=
  zs.length = xs.length + ys.length ∧ val zs = val (xs.take i) * val ys ∧ ∀ q, i + ys.length ≤ q → zs[q]?.getD 0 = 0
/-- .. and within row i, ahead of place j. -/
def MulIn (xs ys : List Int) (i j : Nat) (cr : Int) (zs : List Int) : Prop :=
  zs.length = xs.length + ys.length ∧ val zs + 4294967296 ^ (i + j) * cr = val (xs.take i) * val ys + 4294967296 ^ i * (xs[i]?.getD 0 * val (ys.take j)) ∧ ∀ q, i + ys.length ≤ q → zs[q]?.getD 0 = 0

theorem MulAt.start (xs ys : List Int) : MulAt xs ys 0 (List.replicate (xs.length + ys.length) 0) := by
  refine ⟨by simp, by rw [val_zeros]; simp [val], fun q _ => ?_⟩
  rw [List.getElem?_replicate]
  split <;> rfl
theorem MulAt.into {xs ys zs : List Int} {i : Nat} (h : MulAt xs ys i zs) : MulIn xs ys i 0 0 zs :=
  ⟨h.1, by rw [h.2.1]; simp [val], h.2.2⟩
theorem MulIn.step {xs ys zs : List Int} {i j : Nat} {cr s : Int} (h : MulIn xs ys i j cr zs) (hi : i < xs.length) (hj : j < ys.length)
    (hs : s = xs[i]?.getD 0 * (ys[j]?.getD 0) + zs[i + j]?.getD 0 + cr) : MulIn xs ys i (j + 1) (s / 4294967296) (zs.set (i + j) (s % 4294967296)) := by
  refine ⟨by rw [List.length_set]; exact h.1, mul_round (by rw [h.1]; omega) h.2.1 hs, fun q hq => ?_⟩
  rw [get_set_ne (by omega)]
  exact h.2.2 q hq
theorem MulIn.out {xs ys zs : List Int} {i : Nat} {cr : Int} (h : MulIn xs ys i ys.length cr zs) (hi : i < xs.length) : MulAt xs ys (i + 1) (zs.set (i + ys.length) cr) := by
  refine ⟨by rw [List.length_set]; exact h.1, ?_, fun q hq => ?_⟩
  · rw [mul_row (by rw [h.1]; omega) (h.2.2 _ (Nat.le_refl _)) h.2.1]
    exact mul_next xs ys i _ rfl
  · rw [get_set_ne (by omega)]
    exact h.2.2 q (by omega)

set_option maxHeartbeats 2000000 in
theorem mulMagC (a b : Option Addr) (c d : Nat) (xs ys : List Int) (w : World) (h : Sees w a c xs) (k : Sees w b d ys) (hx : xs.length + ys.length ≤ 1048576) :
    Calls Try.prog 57 #[.slice a xs.length c, .slice b ys.length d] w fun e w' => ∃ a' c' zs, e = .returned (.slice a' zs.length c') ∧ Own w.heap.size w' a' c' zs ∧ Nrm zs ∧ val zs = val xs * val ys ∧ zs.length ≤ xs.length + ys.length ∧ Below w.heap.size w w' := by
  obtain ⟨i0, hi, hz0, hz1, hz2⟩ := info_parts infoU
  have HX : Hid (xs.length + ys.length ≤ 1048576) := hx
  have mx : xs.length ≤ 4611686018427387900 := by omega
  have my : ys.length ≤ 4611686018427387900 := by omega
  clear hx
  go_enter Try.func57, Try.ntmps57
  go_wp2_with (at_make; refine wpList_make_full _ rfl _ _ 33 rfl w.heap.size 74 i0 (.int .u32 0) 1 Try.underlying33 hi hz0 hz1 .i64 .i64 _ _ (xs.length + ys.length) rfl rfl ?m1 ?m2 ?b2 ?b3 (Nat.le_refl _) ?_; (case m1 => omega); (case m2 => omega); (case b2 => rw [hz2]; have := HX.out; omega); (case b3 => have := HX.out; unfold maxLen; omega); intro w0 hown0 hgrow0; rw [made_list] at hown0; have ho := (Own.of_row (xs := List.replicate (xs.length + ys.length) 0) (by rw [List.map_replicate]; exact hown0) (Lim.zeros _)).1; have hb0 : Below w.heap.size w w0 := ((Below.refl _ _).grown hgrow0 (Nat.le_refl _) (fun k h => by cases h)); clear hown0 hgrow0)
  have HN : Hid (xs.length + ys.length ≤ maxLen) := by have := HX.out; show _ ≤ _; unfold maxLen; omega
  have LX : Hid (Lim xs) := h.lim
  have LY : Hid (Lim ys) := k.lim
  clear hi hz0 hz1 hz2
  go_loopw [19] (fun s wr => ∃ (i : Nat) (zs : List Int), i ≤ xs.length ∧ s = .int .i64 i ∧ Own w.heap.size wr (some ⟨w.heap.size, 0, none⟩) (xs.length + ys.length) zs ∧ Hid (MulAt xs ys i zs) ∧ Below w.heap.size w wr) (fun s _ => xs.length - (intOf s).toNat)
  case atStart => exact ⟨0, _, Nat.zero_le _, rfl, ho, MulAt.start xs ys, hb0⟩
  case round =>
    obtain ⟨i, zs, hil, rfl, hown, hat, hB⟩ := hrel
    clear ho hb0
    by_cases hlt : i < xs.length
    · have hxs := h.below hB
      obtain ⟨b1, o1, rfl, hc1⟩ := hxs.cells (by intro e; simp [e] at hlt)
      have g1 := hc1 i hlt
      have hxb := LX.out.get i
      have HIN : Hid (MulIn xs ys i 0 0 zs) := hat.out.into
      clear hc1 hxs hat
      obtain ⟨x, hxe⟩ : ∃ x, Hid (xs[i]?.getD 0 = x) := ⟨_, rfl⟩
      rw [hxe.out] at g1 hxb
      obtain ⟨x0, x1⟩ := hxb
      go_wp2
      go_loopw [8, 26] (fun q s wi => ∃ (j : Nat) (cr : Int) (zs' : List Int), j ≤ ys.length ∧ s = .int .i64 j ∧ q = .int .u64 cr ∧ 0 ≤ cr ∧ cr < 4294967296 ∧ Own w.heap.size wi (some ⟨w.heap.size, 0, none⟩) (xs.length + ys.length) zs' ∧ Hid (MulIn xs ys i j cr zs') ∧ Below w.heap.size w wi) (fun _ s _ => ys.length - (intOf s).toNat)
      case atStart => exact ⟨0, 0, zs, Nat.zero_le _, rfl, rfl, by decide, by decide, hown, HIN, hB⟩
      case round =>
        obtain ⟨j, cr, zs', hjl, rfl, rfl, c0, c1, hown', hin, hB'⟩ := hrel
        clear hown HIN hB g1
        have hne : zs' ≠ [] := by intro e; have := hin.out.1; rw [e] at this; simp at this; omega
        obtain ⟨b2, o2, e2, hc⟩ := hown'.cells hne
        simp only [Option.some.injEq, Addr.mk.injEq] at e2
        obtain ⟨rfl, rfl, _⟩ := e2
        have hlen : Hid (zs'.length = xs.length + ys.length) := hin.out.1
        by_cases hjt : j < ys.length
        · have hys := k.below hB'
          obtain ⟨b3, o3, rfl, hc3⟩ := hys.cells (by intro e; simp [e] at hjt)
          have g3 := hc3 j hjt
          have g4 := hc (i + j) (by rw [hlen.out]; omega)
          have g5 := (hown'.new _ _ rfl hne).2 (i + j) (by rw [hlen.out]; omega)
          simp only [Nat.zero_add] at g4 g5
          have hyb := LY.out.get j
          have hzb := hown'.lim.get (i + j)
          have HST := fun s hs => hin.out.step (s := s) hlt hjt hs
          rw [hxe.out] at HST
          have hst := fun v hv => hown'.store (j := i + j) rfl (by rw [hlen.out]; omega) (v := v) hv
          simp only [Nat.zero_add] at hst
          have hbs := fun u => hB'.setCell (p := ⟨w.heap.size, i + j, none⟩) (Nat.le_refl _) u
          have LM := mul_limb ⟨x0, x1⟩ hyb hzb ⟨c0, c1⟩
          clear hc hc3 hys hin hown' hB' hne h k hlen
          generalize ys[j]?.getD 0 = y at *
          generalize zs'[i + j]?.getD 0 = z at *
          obtain ⟨y0, y1⟩ := hyb
          obtain ⟨z0, z1⟩ := hzb
          obtain ⟨l0, l1, l2, l3⟩ := LM
          have hs2 : cr + (x * y + z) = x * y + z + cr := by omega
          have l2' : 0 ≤ (cr + (x * y + z)) / 4294967296 := by rw [hs2]; exact l2
          have l3' : (cr + (x * y + z)) / 4294967296 < 4294967296 := by rw [hs2]; exact l3
          have M1 : Hid (MulIn xs ys i (j + 1) ((cr + (x * y + z)) / 4294967296) (zs'.set (i + j) ((cr + (x * y + z)) % 4294967296))) := HST _ hs2
          have O1 := hst ((cr + (x * y + z)) % 4294967296) (by omega)
          have B1 := hbs (.int .u32 ((cr + (x * y + z)) % 4294967296))
          clear HST hst hbs hs2 l2 l3
          go_wp2
          go_roundw
          case rel => exact ⟨j + 1, _, _, by omega, by go_num, rfl, l2', l3', O1, M1, B1⟩
          case measure => simp [intOf]; omega
        · obtain rfl : j = ys.length := by omega
          have g4 := hc (i + ys.length) (by rw [hlen.out]; omega)
          have g5 := (hown'.new _ _ rfl hne).2 (i + ys.length) (by rw [hlen.out]; omega)
          simp only [Nat.zero_add] at g4 g5
          have O1 := hown'.store (j := i + ys.length) rfl (by rw [hlen.out]; omega) (v := cr) ⟨c0, c1⟩
          simp only [Nat.zero_add] at O1
          have B1 := hB'.setCell (p := ⟨w.heap.size, i + ys.length, none⟩) (Nat.le_refl _) (.int .u32 cr)
          have M1 : Hid (MulAt xs ys (i + 1) (zs'.set (i + ys.length) cr)) := hin.out.out hlt
          clear hc hin hown' hB' hne h k hlen
          generalize zs'[i + ys.length]?.getD 0 = z at *
          go_wp2
          go_roundw
          case rel => exact ⟨i + 1, _, by omega, by go_num, O1, M1, B1⟩
          case measure => simp [intOf]; omega
    · obtain rfl : i = xs.length := by omega
      have HL : Hid (zs.length = xs.length + ys.length) := hat.out.1
      go_wp2_with fail
      have hq := trimmedC w.heap.size _ _ zs wr hown
      rw [HL.out] at hq
      refine hq.mono ?_
      clear hq
      rintro e w3 ⟨rfl, a3, j, rfl, hj, ha, hn, hv⟩
      have HJ : Hid (val (zs.take j) = val zs) := hv
      clear hv
      go_wp2
      go_ret
      have hl2 : (zs.take j).length = j := by rw [List.length_take, HL.out]; omega
      refine ⟨a3, j, zs.take j, by rw [hl2]; rfl, hown.cut (by rw [HL.out]; exact hj) ha, hn, ?_, by rw [hl2]; exact hj, hB⟩
      rw [HJ.out, hat.out.2.1, List.take_length]
end Go.Proofs.Ytcnmglghmianoaa

/- The program's products of numbers of any size: impl.product. -/
namespace Go.Proofs.Ytcnmglghmianoaa
open Go.RowKit

theorem sg_mul (g g' : Bool) (v u : Int) : sg (g != g') (v * u) = sg g v * sg g' u := by
  cases g <;> cases g' <;> simp [sg, Int.mul_neg, Int.neg_mul]

set_option maxRecDepth 20000 in
set_option maxHeartbeats 4000000 in
theorem productC (g g' : Bool) (a b : Option Addr) (c d : Nat) (xs ys : List Int) (w : World) (h : Sees w a c xs) (k : Sees w b d ys) (hs : xs.length + ys.length ≤ 1048576) :
    Calls Try.prog 41 #[.agg #[.bool g, .slice a xs.length c], .agg #[.bool g', .slice b ys.length d]] w fun e w' => ∃ v, e = .returned v ∧ IsNum w.heap.size w' v (sg (g != g') (val xs * val ys)) ∧ Below w.heap.size w w' := by
  have HS : Hid (xs.length + ys.length ≤ 1048576) := hs
  clear hs
  go_enter Try.func41, Try.ntmps41
  go_wp2_with fail
  go_region_held3 (fun w' => w'.cell? ⟨w.heap.size, 0, none⟩ = some (.bool g) ∧ w'.cell? ⟨w.heap.size, 1, none⟩ = some (.slice a xs.length c) ∧ w'.cell? ⟨w.heap.size + 1, 0, none⟩ = some (.bool g') ∧ w'.cell? ⟨w.heap.size + 1, 1, none⟩ = some (.slice b ys.length d))
    (first | exact k1 | exact k2 | exact ⟨(cell_put (by omega)).trans k2.1, (cell_put (by omega)).trans k2.2.1, (cell_put (by omega)).trans k2.2.2.1, (cell_put (by omega)).trans k2.2.2.2⟩ | (simp [go_sem, World.cell?_alloc_past]))
    (first
    | (go_at_call 57; refine (mulMagC a b c d xs ys _ ?_ ?_ HS.out).mono ?_; exact h.below (below3 _ _ _ _).drew; exact k.below (below3 _ _ _ _).drew; rintro e w1 ⟨a1, c1, zs, rfl, ho1, hn1, hv1, hl1, hb1⟩; have B1 := (below3 w _ _ _).drew.trans (hb1.mono (by simp <;> omega)); obtain ⟨q1, _⟩ := at_block hb1 (b := w.heap.size) (by simp <;> omega); obtain ⟨q2, _⟩ := at_block hb1 (b := w.heap.size + 1) (by simp <;> omega); obtain ⟨q3, q4⟩ := at_block hb1 (b := w.heap.size + 2) (by simp); have z1 : w.heap.size + 2 < w1.heap.size := (by have := hb1.size; simp at this; omega); have k1 : w1.cell? ⟨w.heap.size, 0, none⟩ = some (.bool g) ∧ w1.cell? ⟨w.heap.size, 1, none⟩ = some (.slice a xs.length c) ∧ w1.cell? ⟨w.heap.size + 1, 0, none⟩ = some (.bool g') ∧ w1.cell? ⟨w.heap.size + 1, 1, none⟩ = some (.slice b ys.length d) := (by simp [q1, q2, go_sem, World.cell?_alloc_past]); have E : Hid (sg (g != g') (val zs) = sg (g != g') (val xs * val ys)) := (by rw [hv1]; exact rfl); have ho2 := ho1.base_le (show w.heap.size + 3 ≤ _ by simp); clear hb1 q1 q2 hv1 hn1 hl1 ho1)
    | (go_at_call 55; refine (signedC (w.heap.size + 3) (g != g') a1 c1 zs _ ho2).mono ?_; rintro e w2 ⟨v, rfl, hI, hb2⟩; have B2 := B1.trans (hb2.mono B1.size); have k2 : w2.cell? ⟨w.heap.size, 0, none⟩ = some (.bool g) ∧ w2.cell? ⟨w.heap.size, 1, none⟩ = some (.slice a xs.length c) ∧ w2.cell? ⟨w.heap.size + 1, 0, none⟩ = some (.bool g') ∧ w2.cell? ⟨w.heap.size + 1, 1, none⟩ = some (.slice b ys.length d) := ⟨bat hb2 k1.1, bat hb2 k1.2.1, bat hb2 k1.2.2.1, bat hb2 k1.2.2.2⟩; have qa2 := (fun o => (hb2.cell (p := ⟨w.heap.size + 2, o, none⟩) z1).trans (q3 o)); have qb2 := (fun o => (hb2.frozen (p := ⟨w.heap.size + 2, o, none⟩) z1).trans (q4 o)); have z2 : w.heap.size + 2 < w2.heap.size := (by have := hb2.size; omega); have hJ := hI.eq E.out; obtain ⟨g5, a5, l5, c5, rfl⟩ := hI.shape; clear hb2 q3 q4))
  all_goals
    go_wp2
    exact bodyPost_ret (v := .agg #[.bool g5, .slice a5 l5 c5]) (by simp [results, Try.results41, go_sem, qa2]) rfl ⟨_, rfl, hJ.put' (by omega) (by omega), below_put' B2 (by omega) _ _⟩
end Go.Proofs.Ytcnmglghmianoaa
