/- The text of a shape, of the program: pointText, strings.Join. -/
import Derived.Test.YtneilolpmjblhaaDoorShelf
import Derived.Test.YtneilolpmjblhaaDoorTxtU
import Derived.Test.YtneilolpmjblhaaDoorRowPt
import Derived.Lib.ItoaMem
import Derived.Lib.AppendIntMem
namespace Go.Proofs.YtneilolpmjblhaaDoor
open Go.RowKit

/-- The library's powers of ten stand in the table that it reads. -/
abbrev PowT (w : World) : Prop := Lib.TabIs Tryd.prog w "internal/strconv.uint64pow10" .u64 Lib.pow10Tab
theorem itoa_any (n : Int) (w : World) (h0 : -9223372036854775808 ≤ n) (h1 : n ≤ 9223372036854775807) (ht : PowT w) :
    Calls Tryd.prog 39 #[.int .i64 n] w fun e w' => e = .returned (.string (numT n)) ∧ Below w.heap.size w w' := by
  refine (Tryd.strconv_Itoa n h0 h1 w ht).mono ?_
  rintro e w' ⟨rfl, k, os, rfl⟩
  exact ⟨by rw [itoa_numT], Lib.below_grow w.heap.size w (Nat.le_refl _) k os⟩

set_option maxRecDepth 20000 in
set_option maxHeartbeats 2000000 in
theorem pointText_any (x y : Int) (w : World) (hx : -10000000 ≤ x ∧ x ≤ 10000000) (hy : -10000000 ≤ y ∧ y ≤ 10000000) (HT0 : ∀ w', Below w.heap.size w w' → PowT w') :
    Calls Tryd.prog 26 #[.agg #[.int .i64 x, .int .i64 y]] w fun e w' => e = .returned (.string (ptT (x, y))) ∧ Below w.heap.size w w' := by
  have B0 := below1 w (.cells #[.int .i64 x, .int .i64 y] 55)
  have V0 := Box2.new w (lo := w.heap.size) (Nat.le_refl _) (.int .i64 x) (.int .i64 y) 55
  have HT : Hid (∀ w', Below w.heap.size w w' → PowT w') := HT0
  have nx := numT_size20 (n := x) (by omega) (by omega)
  have ny := numT_size20 (n := y) (by omega) (by omega)
  have E : Hid (ptT (x, y) = numT x ++ ⟨#[32]⟩ ++ numT y) := rfl
  rw [E.out]
  obtain ⟨tx, HX⟩ : ∃ t, Hid (numT x = t) := ⟨_, rfl⟩
  obtain ⟨ty, HY⟩ : ∃ t, Hid (numT y = t) := ⟨_, rfl⟩
  rw [HX.out] at nx ⊢
  rw [HY.out] at ny ⊢
  have e2 : (tx ++ ⟨#[32]⟩).size = tx.size + 1 := by rw [ByteArray.size_append]; rfl
  clear HT0 E
  go_enter Tryd.func26, Tryd.ntmps26
  go_upto_region 1 with fail
  generalize w.alloc (.cells #[.int .i64 x, .int .i64 y] 55) = W0 at *
  have hW := B0.size
  obtain ⟨t0, t1, _, _⟩ := id V0
  have N := ((Below.refl W0.heap.size W0).drew : Below W0.heap.size W0 _)
  refine wp_region_held_drew (S := Below W0.heap.size W0) (by kernel_rfl) N (fun hHeld => ?_)
  clear hHeld
  revert N
  generalize W0.drew = ww0
  intro N
  refine takeW (i := 0) (by simp only [List.getElem?_toArray, List.getElem?_cons_zero]; exact rfl) (by kernel_rfl) (by kernel_rfl) (by kernel_rfl) (by exact fun _ _ _ h => h) (by rfl) (by intro wq hSw; go_simp <;> with_reducible rfl) (by assumption) ?_
  try simp only [Act.put, List.setIfInBounds_toArray, List.set_cons_zero, List.set_cons_succ]
  refine takeW (i := 1) (by simp only [List.getElem?_toArray, List.getElem?_cons_succ, List.getElem?_cons_zero]; exact rfl) (by kernel_rfl) (by kernel_rfl) (by kernel_rfl) (by exact fun _ _ _ h => h) (by rfl) (by intro wq hSw; have z0 := bat hSw t0; have z1 := bat hSw t1; go_simp <;> with_reducible rfl) (by assumption) ?_
  try simp only [Act.put, List.setIfInBounds_toArray, List.set_cons_zero, List.set_cons_succ]
  refine takeW (i := 4) (by simp only [List.getElem?_toArray, List.getElem?_cons_succ, List.getElem?_cons_zero]; exact rfl) (by kernel_rfl) (by kernel_rfl) (by kernel_rfl) (by exact fun _ _ _ h => h) (by rfl) (by intro wq hSw; go_simp <;> with_reducible rfl) (by assumption) ?_
  try simp only [Act.put, List.setIfInBounds_toArray, List.set_cons_zero, List.set_cons_succ]
  refine takeW (i := 5) (by simp only [List.getElem?_toArray, List.getElem?_cons_succ, List.getElem?_cons_zero]; exact rfl) (by kernel_rfl) (by kernel_rfl) (by kernel_rfl) (by exact fun _ _ _ h => h) (by rfl) (by intro wq hSw; have z0 := bat hSw t0; have z1 := bat hSw t1; go_simp <;> with_reducible rfl) (by assumption) ?_
  try simp only [Act.put, List.setIfInBounds_toArray, List.set_cons_zero, List.set_cons_succ]
  refine wpAnyH_ready (rs := [2]) (by kernel_rfl) (by simp) (AllReadyH.cons (by simp only [List.getElem?_toArray, List.getElem?_cons_succ, List.getElem?_cons_zero]; exact rfl) (fun K hK => ?_) AllReadyH.nil)
  go_simp
  go_at_call 39
  refine (itoa_any x _ (by omega) (by omega) (HT.out _ (B0.trans (N.mono hW)))).mono ?_
  rintro e q1 ⟨rfl, b1⟩
  rw [HX.out]
  have N1 := N.trans (b1.mono N.size)
  refine hK.out _ _ N1 (fun hHeld => ?_)
  clear hK K hHeld b1
  try simp only [Act.put, List.setIfInBounds_toArray, List.set_cons_zero, List.set_cons_succ]
  refine takeW (i := 3) (by simp only [List.getElem?_toArray, List.getElem?_cons_succ, List.getElem?_cons_zero]; exact rfl) (by kernel_rfl) (by kernel_rfl) (by kernel_rfl) (by exact fun _ _ _ h => h) (by rfl) (by intro wq hSw; go_simp <;> (first | with_reducible rfl | rw [if_neg (by omega)])) (by assumption) ?_
  try simp only [Act.put, List.setIfInBounds_toArray, List.set_cons_zero, List.set_cons_succ]
  refine wpAnyH_ready (rs := [6]) (by kernel_rfl) (by simp) (AllReadyH.cons (by simp only [List.getElem?_toArray, List.getElem?_cons_succ, List.getElem?_cons_zero]; exact rfl) (fun K hK => ?_) AllReadyH.nil)
  go_simp
  go_at_call 39
  refine (itoa_any y _ (by omega) (by omega) (HT.out _ (B0.trans (N1.mono hW)))).mono ?_
  rintro e q2 ⟨rfl, b2⟩
  rw [HY.out]
  have N2 := N1.trans (b2.mono N1.size)
  refine hK.out _ _ N2 (fun hHeld => ?_)
  clear hK K hHeld b2
  try simp only [Act.put, List.setIfInBounds_toArray, List.set_cons_zero, List.set_cons_succ]
  refine takeW (i := 7) (by simp only [List.getElem?_toArray, List.getElem?_cons_succ, List.getElem?_cons_zero]; exact rfl) (by kernel_rfl) (by kernel_rfl) (by kernel_rfl) (by exact fun _ _ _ h => h) (by rfl) (by intro wq hSw; go_simp <;> (first | with_reducible rfl | rw [if_neg (by omega)])) (by assumption) ?_
  try simp only [Act.put, List.setIfInBounds_toArray, List.set_cons_zero, List.set_cons_succ]
  refine takeW (i := 8) (by simp only [List.getElem?_toArray, List.getElem?_cons_succ, List.getElem?_cons_zero]; exact rfl) (by kernel_rfl) (by kernel_rfl) (by kernel_rfl) (by exact fun _ _ _ h => h) (by rfl) (by intro wq hSw; go_simp <;> with_reducible rfl) (by assumption) ?_
  try simp only [Act.put, List.setIfInBounds_toArray, List.set_cons_zero, List.set_cons_succ]
  refine wpAnyH_done (by kernel_rfl) ?_ _
  go_wp2
  go_ret
  exact ⟨rfl, B0.trans (N2.mono hW)⟩

theorem infoT : (Tryd.prog.info? 9).map (fun i => (i.zero, i.size, i.bytes)) = some (some (.string ⟨#[]⟩), 1, 16) := by kernel_rfl
/-- Texts in a row of their own. -/
def RowT (base : Nat) (w : World) (v : Value) (ts : List ByteArray) : Prop := w.ownsRow base 9 1 v ts.length (ts.map Value.string)
theorem RowT.nil (base : Nat) (w : World) : RowT base w (.slice none 0 0) [] := ⟨rfl, .inl ⟨rfl, rfl⟩⟩
theorem RowT.below {base : Nat} {w w' : World} {v : Value} {ts : List ByteArray} (h : RowT base w v ts) (hb : Below w.heap.size w w') : RowT base w' v ts := owns_below h hb
theorem RowT.shape {base : Nat} {w : World} {v : Value} {ts : List ByteArray} (h : RowT base w v ts) (hn : 0 < ts.length) : ∃ q cap, v = .slice (some ⟨q, 0, none⟩) ts.length cap ∧ base ≤ q ∧ q < w.heap.size ∧ ts.length ≤ cap ∧ cap ≤ maxLen ∧ ∀ j, j < ts.length → w.cell? ⟨q, j, none⟩ = some (.string (ts[j]?.getD ⟨#[]⟩)) := by
  have h' := h
  rcases h.2 with ⟨_, h0⟩ | ⟨q, cap, cur, hv, hb, hh, hf, hm, _⟩
  · omega
  · subst hv
    refine ⟨q, cap, rfl, hb, ?_, hf, hm, fun j hj => ?_⟩
    · rcases Nat.lt_or_ge q w.heap.size with h1 | h1
      · exact h1
      · rw [Array.getElem?_eq_none h1] at hh; cases hh
    · rw [World.ownsRow.cellAt h' j (by omega), List.getElem?_map, List.getElem?_eq_getElem hj]
      rfl
theorem RowT.snoc {base : Nat} {w : World} {v : Value} {ts : List ByteArray} {t : ByteArray} (h : w.ownsRow base 9 1 v (ts.length + 1) (ts.map Value.string ++ [Value.string t])) : RowT base w v (ts ++ [t]) := by
  unfold RowT
  rw [List.map_append, List.length_append]
  exact h
theorem str_new (w : World) (e : TypeId) (t : ByteArray) : ∀ j u, ([Value.string t])[j]? = some u → (w.alloc (.cells #[.string t] e)).cell? ((⟨w.heap.size, 0, none⟩ : Addr).add j) = some u := by
  intro j u hu
  cases j with
  | zero =>
    simp at hu
    subst hu
    exact cell_new w #[.string t] e 0 rfl
  | succ j => simp at hu

set_option maxRecDepth 100000 in
set_option maxHeartbeats 2000000 in
theorem join_any {base : Nat} (v : Value) (ts : List ByteArray) (S : Nat) (w : World) (h : RowT base w v ts) (h0 : 0 < ts.length) (h1 : ts.length ≤ 60) (hS : S ≤ 3000) (hs : ∀ t ∈ ts, t.size ≤ S) :
    Calls Tryd.prog 24 #[v, .string ⟨#[44, 32]⟩] w fun e w' => e = .returned (.string (jn ts ts.length)) ∧ Below w.heap.size w w' := by
  obtain ⟨q, cap, rfl, hq0, hq, hf, hm, hc⟩ := h.shape h0
  unfold maxLen at hm
  have HC : Hid (∀ j, j < ts.length → w.cell? ⟨q, j, none⟩ = some (.string (ts[j]?.getD ⟨#[]⟩))) := hc
  have JS : Hid (∀ j, (jn ts j).size ≤ j * (S + 2)) := jn_size hs
  have TS : Hid (∀ j, (ts[j]?.getD (⟨#[]⟩ : ByteArray)).size ≤ S) := getD_size hs
  clear hc hs h
  by_cases hone : ts.length = 1
  · have c0 := HC.out 0 h0
    have E : Hid (jn ts ts.length = ts[0]?.getD ⟨#[]⟩) := by show _ = _; rw [hone]; rfl
    rw [E.out]
    generalize ts[0]?.getD ⟨#[]⟩ = t0 at *
    rw [hone] at *
    go_enter Tryd.func24, Tryd.ntmps24
    go_wp2
    go_ret
    exact ⟨rfl, Below.refl _ _⟩
  · obtain ⟨n, hn⟩ : ∃ n : Nat, ts.length = n + 2 := ⟨ts.length - 2, by omega⟩
    have HN : Hid (ts.length = n + 2) := hn
    rw [hn] at h1 hf ⊢
    clear hone h0
    have hq1 : ∀ d : Int, 0 < d → d ≤ 61 → ¬ (9223372036854775807 : Int) / d ≤ 2 := fun d d0 d1 => by
      have : 3 ≤ (9223372036854775807 : Int) / d := Int.le_ediv_of_mul_le d0 (by omega)
      omega
    have hq2 := hq1 ((n : Int) + 2 - 1) (by omega) (by omega)
    have hq3 := hq1 ((n : Int) + 1) (by omega) (by omega)
    clear hq1
    go_enter Tryd.func24, Tryd.ntmps24
    go_wp2
    clear hq2 hq3
    go_loopw [5, 41] (fun s5 s41 wr => ∃ j m : Nat, j ≤ n + 2 ∧ s41 = .int .i64 j ∧ s5 = .int .i64 m ∧ m ≤ 200 + 3000 * j ∧ Hid (wr = w)) (fun _ s41 _ => n + 2 - (intOf s41).toNat)
    case atStart => exact ⟨0, 2 * (n + 1), Nat.zero_le _, rfl, (by congr 1; push_cast; omega), by omega, rfl⟩
    case round =>
      obtain ⟨j, m, hj, rfl, rfl, hm5, hw⟩ := hrel
      have hw' := hw.out
      subst hw'
      by_cases hlt : j < n + 2
      · have c0 := HC.out j (by rw [HN.out]; exact hlt)
        have tz := TS.out j
        generalize ts[j]?.getD (⟨#[]⟩ : ByteArray) = t at *
        have m1 : m ≤ 200000 := by omega
        have HM : Hid (m ≤ 200 + 3000 * j) := hm5
        clear hm5
        go_wp2
        go_roundw
        case rel => exact ⟨j + 1, m + t.size, by omega, by go_num, (by first | rfl | go_num), (by have := HM.out; omega), (by first | exact trivial | exact rfl)⟩
        case measure => simp [intOf]; omega
      · obtain rfl : j = n + 2 := by omega
        rename World => w
        have hk : (w.alloc (.cells #[.pointer none, .slice none 0 0] 78)).heap[w.heap.size]? = some (.cells #[.pointer none, .slice none 0 0] 78 (0, 0)) := heap_alloc_new _ _
        have B0 := below1 w (.cells #[.pointer none, .slice none 0 0] 78)
        have m1 : m ≤ 200000 := by omega
        clear hm5 hw
        go_wp2_with fail
        generalize w.alloc (.cells #[.pointer none, .slice none 0 0] 78) = W1 at *
        refine (Tryd.Builder_Grow_fresh w.heap.size w.heap.size m _ (Nat.le_refl _) hk B0.size (by omega)).mono ?_
        rintro e w2 ⟨rfl, BA, b2⟩
        have B2 : Below w.heap.size w w2 := B0.trans b2
        have I2 : IsB w.heap.size w.heap.size [] w2 := .inr BA
        have c0 := bat B2 (HC.out 0 (by rw [HN.out]; omega))
        have t0 := TS.out 0
        have E1 : Hid ([] ++ Lib.strCells (ts[0]?.getD (⟨#[]⟩ : ByteArray)) = Lib.strCells (jn ts 1)) := rfl
        have zB := B2.size
        clear BA b2 hk B0
        generalize ts[0]?.getD (⟨#[]⟩ : ByteArray) = t at *
        go_wp2_with fail
        refine (writeStringC w.heap.size w.heap.size [] t _ I2 (by simp; omega) zB).mono ?_
        rintro e w3 ⟨rfl, I3, b3⟩
        rw [E1.out] at I3
        have B3 : Below w.heap.size w w3 := B2.trans b3
        clear I2 b3 c0 B2 E1
        go_wp2
        go_loopw [65] (fun s65 wr => ∃ j : Nat, j ≤ n + 1 ∧ s65 = .int .i64 j ∧ IsB w.heap.size w.heap.size (Lib.strCells (jn ts (j + 1))) wr ∧ Below w.heap.size w wr) (fun s65 _ => n + 1 - (intOf s65).toNat)
        case atStart => exact ⟨0, Nat.zero_le _, rfl, I3, B3⟩
        case round =>
          clear I3 B3
          obtain ⟨j, hj, rfl, I, B⟩ := hrel
          rename World => wr
          have zr := B.size
          have js := JS.out (j + 1)
          by_cases hlt : j < n + 1
          · have c0 := bat B (HC.out (j + 1) (by rw [HN.out]; omega))
            have c1 := c0
            rw [Nat.add_comm j 1] at c1
            have tz := TS.out (j + 1)
            have EJ : Hid (jn ts (j + 1 + 1) = jn ts (j + 1) ++ ⟨#[44, 32]⟩ ++ ts[j + 1]?.getD (⟨#[]⟩ : ByteArray)) := rfl
            have jb : (jn ts (j + 1)).size ≤ 200000 := Nat.le_trans js (Nat.le_trans (Nat.mul_le_mul (show j + 1 ≤ 60 by omega) (show S + 2 ≤ 3002 by omega)) (by decide))
            rw [show (ts[1 + j]?) = ts[j + 1]? by rw [Nat.add_comm]] at c1
            generalize ts[j + 1]?.getD (⟨#[]⟩ : ByteArray) = t at *
            generalize jn ts (j + 1) = u at *
            clear js
            go_wp2_with fail
            refine (writeStringC w.heap.size w.heap.size _ ⟨#[44, 32]⟩ _ I (by rw [Lib.strCells_length]; show u.size + 2 ≤ 1048576; omega) zr).mono ?_
            rintro e w4 ⟨rfl, I4, b4⟩
            have B4 : Below w.heap.size w w4 := B.trans b4
            have z4 := B4.size
            rw [← strCells_append] at I4
            go_wp2_with fail
            refine (writeStringC w.heap.size w.heap.size _ t _ I4 (by rw [Lib.strCells_length, ByteArray.size_append]; show u.size + 2 + t.size ≤ 1048576; omega) z4).mono ?_
            rintro e w5 ⟨rfl, I5, b5⟩
            have B5 : Below w.heap.size w w5 := B4.trans b5
            rw [← strCells_append, ← EJ.out] at I5
            clear I I4 B B4 b4 b5 c0 c1
            go_wp2
            go_roundw
            case rel => exact ⟨j + 1, by omega, by go_num, I5, B5⟩
            case measure => simp [intOf]; omega
          · obtain rfl : j = n + 1 := by omega
            have I' : Lib.IsBuilder 78 5 w.heap.size w.heap.size (Lib.byteCells (jn ts (n + 1 + 1)).data.toList) wr := I
            go_wp2_with fail
            refine (Tryd.Builder_String_any w.heap.size w.heap.size _ _ I' zr).mono ?_
            rintro e w6 ⟨rfl, b6⟩
            have B6 : Below w.heap.size w w6 := B.trans b6
            go_wp2
            go_ret
            exact ⟨ret_str rfl, B6⟩
end Go.Proofs.YtneilolpmjblhaaDoor
