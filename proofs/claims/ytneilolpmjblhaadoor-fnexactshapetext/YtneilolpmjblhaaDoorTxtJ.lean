/- The text of a shape, of the program: listText, rowText, ShapeText. -/
import Derived.Test.YtneilolpmjblhaaDoorTxtI
import Derived.Test.YtneilolpmjblhaaDoorGoodI
namespace Go.Proofs.YtneilolpmjblhaaDoor
open Go.RowKit

set_option maxRecDepth 20000 in
set_option maxHeartbeats 4000000 in
theorem listText_pt (a : Option Addr) (c : Nat) (ps : List (Int × Int)) (w : World) (h : SeesP w a c ps) (h0 : 0 < ps.length) (h1 : ps.length ≤ 60) (ok : okL ps = true) (HT0 : ∀ w', Below w.heap.size w w' → PowT w') :
    Calls Tryd.prog 25 #[.slice a ps.length c, .func (Fn.func 26) #[] #[]] w fun e w' => e = .returned (.string (lsT (ps.map ptT))) ∧ Below w.heap.size w w' := by
  obtain ⟨iT, hiT, hT0, hT1, hT2⟩ := info_parts infoT
  have hm := h.max
  have hf := h.fits
  unfold maxLen at hm
  have HT : Hid (∀ w', Below w.heap.size w w' → PowT w') := HT0
  have TSZ : Hid (∀ t ∈ ps.map ptT, t.size ≤ 43) := fun t ht => by
    obtain ⟨p, hp, rfl⟩ := List.mem_map.1 ht
    exact ptT_size (ok_at ok hp)
  have TL : Hid ((ps.map ptT).length = ps.length) := List.length_map ..
  have JZ : Hid ((jn (ps.map ptT) ps.length).size ≤ ps.length * (43 + 2)) := jn_size TSZ.out _
  have OK : Hid (okL ps = true) := ok
  clear ok
  clear HT0
  go_enter Tryd.func25, Tryd.ntmps25
  go_wp2
  go_loopw [5, 10] (fun s5 s10 wr => ∃ j : Nat, j ≤ ps.length ∧ s10 = .int .i64 j ∧ RowT w.heap.size wr s5 ((ps.map ptT).take j) ∧ Below w.heap.size w wr) (fun _ s10 _ => ps.length - (intOf s10).toNat)
  case atStart => exact ⟨0, Nat.zero_le _, rfl, by simpa using RowT.nil _ _, Below.refl _ _⟩
  case round =>
    obtain ⟨j, hj, rfl, RR, B⟩ := hrel
    rename World => wr
    by_cases hlt : j < ps.length
    · have TK : Hid ((ps.map ptT).take (j + 1) = (ps.map ptT).take j ++ [ptT (ptA ps j)]) := by
        show _ = _
        rw [List.take_add_one, List.getElem?_map, List.getElem?_eq_getElem hlt]
        unfold ptA
        rw [List.getElem?_eq_getElem hlt]
        rfl
      have LL : ((ps.map ptT).take j).length ≤ 100 := by rw [List.length_take]; omega
      obtain ⟨b, off, rfl, hc⟩ := (h.below B).cells (by intro e; simp [e] at h0)
      obtain ⟨g1, g2⟩ := hc j hlt
      have bd := ok_at OK.out (p := ps[j]?.getD (0, 0)) (by rw [List.getElem?_eq_getElem hlt]; exact List.getElem_mem hlt)
      have g3 : wr.cell? ⟨b, off + j * 2, none⟩ = some (.int .i64 (ptA ps j).1) := g1
      have g4 : wr.cell? ⟨b, off + j * 2 + 1, none⟩ = some (.int .i64 (ptA ps j).2) := g2
      have bd2 : (-10000000 ≤ (ptA ps j).1 ∧ (ptA ps j).1 ≤ 10000000) ∧ -10000000 ≤ (ptA ps j).2 ∧ (ptA ps j).2 ≤ 10000000 := bd
      generalize hpp : ptA ps j = p at *
      obtain ⟨x, y⟩ := p
      simp only at g3 g4 bd2
      obtain ⟨tt, HTT⟩ : ∃ t, Hid (ptT (x, y) = t) := ⟨_, rfl⟩
      have b0 := below1 wr (.cells #[.int .i64 x, .int .i64 y] 55)
      have B1 := B.trans (b0.mono B.size)
      have RR1 := RR.below b0
      have k0 := cell_new wr #[.int .i64 x, .int .i64 y] 55 0 rfl
      have k1 := cell_new wr #[.int .i64 x, .int .i64 y] 55 1 rfl
      clear hc g1 g2 bd b0
      go_upto_region 5 with fail
      generalize wr.alloc (.cells #[.int .i64 x, .int .i64 y] 55) = W1 at *
      go_wp2_with fail
      refine (pointText_any x y _ bd2.1 bd2.2 (fun w' q => HT.out w' (B1.trans (q.mono B1.size)))).mono ?_
      rintro e w2 ⟨rfl, b2⟩
      rw [HTT.out]
      have RR2 := RR1.below b2
      have B2 := B1.trans (b2.mono B1.size)
      clear RR1 b2 k0 k1
      generalize HL : (ps.map ptT).take j = L at *
      go_simp
      have bn := below1 w2 (.cells #[.string tt] 9)
      have R3 := RR2.below bn
      have B3 := B2.trans (bn.mono B2.size)
      have NW := str_new w2 9 tt
      have hz3 := B3.size
      go_wp2_with (at_builtin; refine wpList_append_own _ rfl (.tmp 14) (.tmp 18) 51 rfl w.heap.size 9 iT (.string ⟨#[]⟩) 1 16 Tryd.underlying51 hiT hT0 hT1 hT2 rfl (by decide) u5 L.length (L.map Value.string) rfl R3 ⟨w2.heap.size, 0, none⟩ 1 _ [Value.string tt] rfl rfl NW (by intro u hu; simp at hu; subst hu; rfl) (by unfold maxLen; omega) (by omega) hz3 ?_; intro v7 w7 R7 G7 _; have B7 : Below w.heap.size w w7 := B3.grown G7 hz3 (fun k hk => (World.ownsRow.lt R3 k hk).1); replace R7 : RowT w.heap.size w7 v7 (L ++ [tt]) := RowT.snoc R7; clear G7)
      go_roundw
      case rel => exact ⟨j + 1, by omega, by go_num, (by rw [TK.out, HTT.out]; exact R7), B7⟩
      case measure => simp [intOf]; omega
    · obtain rfl : j = ps.length := by omega
      rw [List.take_of_length_le (Nat.le_of_eq TL.out)] at RR
      have l0 : 0 < (ps.map ptT).length := by rw [TL.out]; exact h0
      have l1 : (ps.map ptT).length ≤ 60 := by rw [TL.out]; omega
      go_wp2_with fail
      refine (join_any u5 (ps.map ptT) 43 _ RR l0 l1 (by omega) TSZ.out).mono ?_
      rintro e w3 ⟨rfl, b3⟩
      have B3 := B.trans (b3.mono B.size)
      rw [TL.out]
      have jz := JZ.out
      have E : Hid (⟨#[40]⟩ ++ jn (ps.map ptT) ps.length ++ ⟨#[41]⟩ = lsT (ps.map ptT)) := by show _ = _; unfold lsT; rw [TL.out]
      generalize jn (ps.map ptT) ps.length = u at *
      have uz : u.size ≤ 200000 := by omega
      have n0 : 1 + u.size ≤ 9223372036854775807 := by omega
      have e1 : (⟨#[40]⟩ ++ u : ByteArray).size = 1 + u.size := by rw [ByteArray.size_append]; rfl
      have n1 : 1 + u.size + 1 ≤ 9223372036854775807 := by omega
      go_wp2
      go_ret
      exact ⟨ret_str E.out, B3⟩

theorem rowText_any (a : Option Addr) (c : Nat) (ps : List (Int × Int)) (w : World) (h : SeesP w a c ps) (h0 : 0 < ps.length) (h1 : ps.length ≤ 60) (ok : okL ps = true) (HT0 : ∀ w', Below w.heap.size w w' → PowT w') :
    Calls Tryd.prog 16 #[.slice a ps.length c] w fun e w' => e = .returned (.string (rwT ps)) ∧ Below w.heap.size w w' := by
  go_enter Tryd.func16, Tryd.ntmps16
  go_wp2_with fail
  refine (listText_pt a c ps _ h h0 h1 ok HT0).mono ?_
  rintro e w3 ⟨rfl, b3⟩
  go_wp2
  go_ret
  exact ⟨rfl, b3⟩

set_option maxRecDepth 20000 in
set_option maxHeartbeats 4000000 in
theorem listText_row (a : Option Addr) (c : Nat) (ps : List (List (Int × Int))) (w : World) (h : SeesS w a c ps) (h0 : 0 < ps.length) (h1 : ps.length ≤ 12) (hl : ∀ i, i < ps.length → 0 < (rowA ps i).length ∧ (rowA ps i).length ≤ 60) (ok : ∀ i, i < ps.length → okL (rowA ps i) = true) (HT0 : ∀ w', Below w.heap.size w w' → PowT w') :
    Calls Tryd.prog 15 #[.slice a ps.length c, .func (Fn.func 16) #[] #[]] w fun e w' => e = .returned (.string (lsT (ps.map rwT))) ∧ Below w.heap.size w w' := by
  obtain ⟨iT, hiT, hT0, hT1, hT2⟩ := info_parts infoT
  have hm := h.max
  have hf := h.fits
  unfold maxLen at hm
  have HT : Hid (∀ w', Below w.heap.size w w' → PowT w') := HT0
  have TSZ : Hid (∀ t ∈ ps.map rwT, t.size ≤ 2702) := fun t ht => by
    obtain ⟨p, hp, rfl⟩ := List.mem_map.1 ht
    obtain ⟨i, hi, rfl⟩ := List.getElem_of_mem hp
    rw [show ps[i] = rowA ps i by unfold rowA; rw [List.getElem?_eq_getElem hi]; rfl]
    exact rwT_size (ok i hi) (hl i hi).2
  have TL : Hid ((ps.map rwT).length = ps.length) := List.length_map ..
  have JZ : Hid ((jn (ps.map rwT) ps.length).size ≤ ps.length * (2702 + 2)) := jn_size TSZ.out _
  have OK : Hid (∀ i, i < ps.length → okL (rowA ps i) = true) := ok
  have HLL : Hid (∀ i, i < ps.length → 0 < (rowA ps i).length ∧ (rowA ps i).length ≤ 60) := hl
  clear ok hl
  clear HT0
  go_enter Tryd.func15, Tryd.ntmps15
  go_wp2
  go_loopw [5, 10] (fun s5 s10 wr => ∃ j : Nat, j ≤ ps.length ∧ s10 = .int .i64 j ∧ RowT w.heap.size wr s5 ((ps.map rwT).take j) ∧ Below w.heap.size w wr) (fun _ s10 _ => ps.length - (intOf s10).toNat)
  case atStart => exact ⟨0, Nat.zero_le _, rfl, by simpa using RowT.nil _ _, Below.refl _ _⟩
  case round =>
    obtain ⟨j, hj, rfl, RR, B⟩ := hrel
    rename World => wr
    by_cases hlt : j < ps.length
    · have TK : Hid ((ps.map rwT).take (j + 1) = (ps.map rwT).take j ++ [rwT (rowA ps j)]) := by
        show _ = _
        rw [List.take_add_one, List.getElem?_map, List.getElem?_eq_getElem hlt]
        unfold rowA
        rw [List.getElem?_eq_getElem hlt]
        rfl
      have LL : ((ps.map rwT).take j).length ≤ 100 := by rw [List.length_take]; omega
      obtain ⟨b, off, rfl, hc⟩ := (h.below B).cells (by intro e; simp [e] at h0)
      obtain ⟨a', c', g1, PP⟩ := hc j hlt
      obtain ⟨l0, l1⟩ := HLL.out j hlt
      have o := OK.out j hlt
      obtain ⟨tt, HTT⟩ : ∃ t, Hid (rwT (rowA ps j) = t) := ⟨_, rfl⟩
      have PM := PP.max
      have PF := PP.fits
      unfold maxLen at PM
      clear hc
      go_wp2_with fail
      refine (rowText_any a' c' (rowA ps j) _ PP l0 l1 o (fun w' q => HT.out w' (B.trans (q.mono B.size)))).mono ?_
      rintro e w2 ⟨rfl, b2⟩
      rw [HTT.out]
      have RR2 := RR.below b2
      have B2 := B.trans (b2.mono B.size)
      clear b2
      generalize HL : (ps.map rwT).take j = L at *
      go_simp
      have bn := below1 w2 (.cells #[.string tt] 9)
      have R3 := RR2.below bn
      have B3 := B2.trans (bn.mono B2.size)
      have NW := str_new w2 9 tt
      have hz3 := B3.size
      go_wp2_with (at_builtin; refine wpList_append_own _ rfl (.tmp 14) (.tmp 18) 51 rfl w.heap.size 9 iT (.string ⟨#[]⟩) 1 16 Tryd.underlying51 hiT hT0 hT1 hT2 rfl (by decide) u5 L.length (L.map Value.string) rfl R3 ⟨w2.heap.size, 0, none⟩ 1 _ [Value.string tt] rfl rfl NW (by intro u hu; simp at hu; subst hu; rfl) (by unfold maxLen; omega) (by omega) hz3 ?_; intro v7 w7 R7 G7 _; have B7 : Below w.heap.size w w7 := B3.grown G7 hz3 (fun k hk => (World.ownsRow.lt R3 k hk).1); replace R7 : RowT w.heap.size w7 v7 (L ++ [tt]) := RowT.snoc R7; clear G7)
      go_roundw
      case rel => exact ⟨j + 1, by omega, by go_num, (by rw [TK.out, HTT.out]; exact R7), B7⟩
      case measure => simp [intOf]; omega
    · obtain rfl : j = ps.length := by omega
      rw [List.take_of_length_le (Nat.le_of_eq TL.out)] at RR
      have l0 : 0 < (ps.map rwT).length := by rw [TL.out]; exact h0
      have l1 : (ps.map rwT).length ≤ 60 := by rw [TL.out]; omega
      go_wp2_with fail
      refine (join_any u5 (ps.map rwT) 2702 _ RR l0 l1 (by omega) TSZ.out).mono ?_
      rintro e w3 ⟨rfl, b3⟩
      have B3 := B.trans (b3.mono B.size)
      rw [TL.out]
      have jz := JZ.out
      have E : Hid (⟨#[40]⟩ ++ jn (ps.map rwT) ps.length ++ ⟨#[41]⟩ = lsT (ps.map rwT)) := by show _ = _; unfold lsT; rw [TL.out]
      generalize jn (ps.map rwT) ps.length = u at *
      have uz : u.size ≤ 200000 := by omega
      have n0 : 1 + u.size ≤ 9223372036854775807 := by omega
      have e1 : (⟨#[40]⟩ ++ u : ByteArray).size = 1 + u.size := by rw [ByteArray.size_append]; rfl
      have n1 : 1 + u.size + 1 ≤ 9223372036854775807 := by omega
      go_wp2
      go_ret
      exact ⟨ret_str E.out, B3⟩

theorem hasRows_any (k : Int) (w : World) :
    Calls Tryd.prog 14 #[.int .i64 k] w fun e w' => e = .returned (.bool (decide (k = 4) || decide (k = 5))) ∧ w' = w := by
  by_cases h4 : k = 4
  · subst h4
    go_enter Tryd.func14, Tryd.ntmps14
    go_wp2
    go_ret
    exact ⟨rfl, rfl⟩
  · by_cases h5 : k = 5
    · subst h5
      go_enter Tryd.func14, Tryd.ntmps14
      go_wp2
      go_ret
      exact ⟨rfl, rfl⟩
    · have e4 : (k == 4) = false := by simp [h4]
      have e5 : (k == 5) = false := by simp [h5]
      go_enter Tryd.func14, Tryd.ntmps14
      go_wp2
      go_ret
      exact ⟨by rw [decide_eq_false h4, decide_eq_false h5]; rfl, rfl⟩
end Go.Proofs.YtneilolpmjblhaaDoor
