/- The specification's products of limbs: l1MulMag. -/
import Derived.Test.YtcnmglghmianoaaMulW
namespace Go.Proofs.Ytcnmglghmianoaa
open Go.RowKit

set_option maxHeartbeats 2000000 in
theorem l1MulMagC (a b : Option Addr) (c d : Nat) (xs ys : List Int) (w : World) (h : Sees w a c xs) (k : Sees w b d ys) (hx : xs.length + ys.length ≤ 1048576) :
    Calls Try.prog 72 #[.slice a xs.length c, .slice b ys.length d] w fun e w' => ∃ a' c' zs, e = .returned (.slice a' zs.length c') ∧ Own w.heap.size w' a' c' zs ∧ val zs = val xs * val ys ∧ zs.length = xs.length + ys.length ∧ Below w.heap.size w w' := by
  obtain ⟨i0, hi, hz0, hz1, hz2⟩ := info_parts infoU
  have HX : Hid (xs.length + ys.length ≤ 1048576) := hx
  have mx : xs.length ≤ 4611686018427387900 := by omega
  have my : ys.length ≤ 4611686018427387900 := by omega
  clear hx
  go_enter Try.func72, Try.ntmps72
  go_wp2_with (at_make; refine wpList_make_full _ rfl _ _ 33 rfl w.heap.size 74 i0 (.int .u32 0) 1 Try.underlying33 hi hz0 hz1 .i64 .i64 _ _ (xs.length + ys.length) rfl rfl ?m1 ?m2 ?b2 ?b3 (Nat.le_refl _) ?_; (case m1 => omega); (case m2 => omega); (case b2 => rw [hz2]; have := HX.out; omega); (case b3 => have := HX.out; unfold maxLen; omega); intro w0 hown0 hgrow0; rw [made_list] at hown0; have ho := (Own.of_row (xs := List.replicate (xs.length + ys.length) 0) (by rw [List.map_replicate]; exact hown0) (Lim.zeros _)).1; have hb0 : Below w.heap.size w w0 := ((Below.refl _ _).grown hgrow0 (Nat.le_refl _) (fun k h => by cases h)); clear hown0 hgrow0)
  have HN : Hid (xs.length + ys.length ≤ maxLen) := by have := HX.out; show _ ≤ _; unfold maxLen; omega
  have LX : Hid (Lim xs) := h.lim
  have LY : Hid (Lim ys) := k.lim
  clear hi hz0 hz1 hz2
  go_loopw [6] (fun s wr => ∃ (i : Nat) (zs : List Int), i ≤ xs.length ∧ s = .int .i64 i ∧ Own w.heap.size wr (some ⟨w.heap.size, 0, none⟩) (xs.length + ys.length) zs ∧ Hid (MulAt xs ys i zs) ∧ Below w.heap.size w wr) (fun s _ => xs.length - (intOf s).toNat)
  case atStart => exact ⟨0, _, Nat.zero_le _, rfl, ho, MulAt.start xs ys, hb0⟩
  case round =>
    obtain ⟨i, zs, hil, rfl, hown, hat, hB⟩ := hrel
    clear ho hb0
    by_cases hlt : i < xs.length
    · have hxs := h.below hB
      obtain ⟨b1, o1, rfl, hc1⟩ := hxs.cells (by intro e; simp [e] at hlt)
      have g1 := hc1 i hlt
      have hxb := LX.out.get i
      have HIN : Hid (MulIn xs ys i 0 0 zs) := hat.out.into
      clear hc1 hxs hat
      obtain ⟨x, hxe⟩ : ∃ x, Hid (xs[i]?.getD 0 = x) := ⟨_, rfl⟩
      rw [hxe.out] at g1 hxb
      obtain ⟨x0, x1⟩ := hxb
      go_wp2
      go_loopw [7, 8] (fun q s wi => ∃ (j : Nat) (cr : Int) (zs' : List Int), j ≤ ys.length ∧ s = .int .i64 j ∧ q = .int .u64 cr ∧ 0 ≤ cr ∧ cr < 4294967296 ∧ Own w.heap.size wi (some ⟨w.heap.size, 0, none⟩) (xs.length + ys.length) zs' ∧ Hid (MulIn xs ys i j cr zs') ∧ Below w.heap.size w wi) (fun _ s _ => ys.length - (intOf s).toNat)
      case atStart => exact ⟨0, 0, zs, Nat.zero_le _, rfl, rfl, by decide, by decide, hown, HIN, hB⟩
      case round =>
        obtain ⟨j, cr, zs', hjl, rfl, rfl, c0, c1, hown', hin, hB'⟩ := hrel
        clear hown HIN hB g1
        have hne : zs' ≠ [] := by intro e; have := hin.out.1; rw [e] at this; simp at this; omega
        obtain ⟨b2, o2, e2, hc⟩ := hown'.cells hne
        simp only [Option.some.injEq, Addr.mk.injEq] at e2
        obtain ⟨rfl, rfl, _⟩ := e2
        have hlen : Hid (zs'.length = xs.length + ys.length) := hin.out.1
        by_cases hjt : j < ys.length
        · have hys := k.below hB'
          obtain ⟨b3, o3, rfl, hc3⟩ := hys.cells (by intro e; simp [e] at hjt)
          have g3 := hc3 j hjt
          have g4 := hc (i + j) (by rw [hlen.out]; omega)
          have g5 := (hown'.new _ _ rfl hne).2 (i + j) (by rw [hlen.out]; omega)
          simp only [Nat.zero_add] at g4 g5
          have g6 : wr.cell? ⟨b1, o1 + i, none⟩ = some (.int .u32 x) := by
            obtain ⟨bb, oo, ee, hcc⟩ := (h.below hB').cells (by intro e; simp [e] at hlt)
            simp only [Option.some.injEq, Addr.mk.injEq] at ee
            obtain ⟨rfl, rfl, _⟩ := ee
            have := hcc i hlt
            rw [hxe.out] at this
            exact this
          have hyb := LY.out.get j
          have hzb := hown'.lim.get (i + j)
          have HST := fun s hs => hin.out.step (s := s) hlt hjt hs
          rw [hxe.out] at HST
          have hst := fun v hv => hown'.store (j := i + j) rfl (by rw [hlen.out]; omega) (v := v) hv
          simp only [Nat.zero_add] at hst
          have hbs := fun u => hB'.setCell (p := ⟨w.heap.size, i + j, none⟩) (Nat.le_refl _) u
          have LM := mul_limb ⟨x0, x1⟩ hyb hzb ⟨c0, c1⟩
          clear hc hc3 hys hin hown' hB' hne h k hlen
          generalize ys[j]?.getD 0 = y at *
          generalize zs'[i + j]?.getD 0 = z at *
          obtain ⟨y0, y1⟩ := hyb
          obtain ⟨z0, z1⟩ := hzb
          obtain ⟨l0, l1, l2, l3⟩ := LM
          have M1 : Hid (MulIn xs ys i (j + 1) ((x * y + z + cr) / 4294967296) (zs'.set (i + j) ((x * y + z + cr) % 4294967296))) := HST _ rfl
          have O1 := hst ((x * y + z + cr) % 4294967296) (by omega)
          have B1 := hbs (.int .u32 ((x * y + z + cr) % 4294967296))
          clear HST hst hbs
          go_wp2
          go_quiet (fail)
          go_wp2
          go_roundw
          case rel => exact ⟨j + 1, _, _, by omega, by go_num, rfl, l2, l3, O1.below (below_drewN (Below.refl _ _) nq), M1, below_drewN B1 nq⟩
          case measure => simp [intOf]; omega
        · obtain rfl : j = ys.length := by omega
          have g4 := hc (i + ys.length) (by rw [hlen.out]; omega)
          have g5 := (hown'.new _ _ rfl hne).2 (i + ys.length) (by rw [hlen.out]; omega)
          simp only [Nat.zero_add] at g4 g5
          have O1 := hown'.store (j := i + ys.length) rfl (by rw [hlen.out]; omega) (v := cr) ⟨c0, c1⟩
          simp only [Nat.zero_add] at O1
          have B1 := hB'.setCell (p := ⟨w.heap.size, i + ys.length, none⟩) (Nat.le_refl _) (.int .u32 cr)
          have M1 : Hid (MulAt xs ys (i + 1) (zs'.set (i + ys.length) cr)) := hin.out.out hlt
          clear hc hin hown' hB' hne h k hlen
          generalize zs'[i + ys.length]?.getD 0 = z at *
          go_wp2
          go_roundw
          case rel => exact ⟨i + 1, _, by omega, by go_num, O1, M1, B1⟩
          case measure => simp [intOf]; omega
    · obtain rfl : i = xs.length := by omega
      have HL : Hid (zs.length = xs.length + ys.length) := hat.out.1
      go_wp2
      go_ret
      refine ⟨_, _, zs, by rw [HL.out]; rfl, hown, ?_, HL.out, hB⟩
      rw [hat.out.2.1, List.take_length]
end Go.Proofs.Ytcnmglghmianoaa
