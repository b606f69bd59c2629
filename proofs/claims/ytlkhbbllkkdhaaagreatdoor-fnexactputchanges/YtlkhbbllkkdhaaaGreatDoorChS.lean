/- Changes in memory: the laws' helpers on lists of them (sizes, copies, whether two lists are equal, marks). -/
import Derived.Test.YtlkhbbllkkdhaaaGreatDoorPtsL
import Derived.Test.YtlkhbbllkkdhaaaGreatDoorChL
namespace Go.Proofs.YtlkhbbllkkdhaaaGreatDoor
open Go.RowKit

/-- A change: its kind, its Id, its shape's kind and rows. -/
abbrev Cn := Int × Int × Int × List (List (Int × Int))
def cnA (es : List Cn) (i : Nat) : Cn := es[i]?.getD (0, 0, 0, [])
/-- Entries that lie in memory. -/
structure SeesCn (w : World) (a : Option Addr) (cap : Nat) (es : List Cn) : Prop where
  fits : es.length ≤ cap
  max : cap ≤ maxLen
  cells : es ≠ [] → ∃ b off, a = some ⟨b, off, none⟩ ∧ ∀ i, i < es.length → w.cell? ⟨b, off + i * 4, none⟩ = some (.int .i64 (cnA es i).1) ∧ w.cell? ⟨b, off + i * 4 + 1, none⟩ = some (.int .i64 (cnA es i).2.1) ∧ w.cell? ⟨b, off + i * 4 + 2, none⟩ = some (.int .i64 (cnA es i).2.2.1) ∧ ∃ a' c', w.cell? ⟨b, off + i * 4 + 3, none⟩ = some (.slice a' (cnA es i).2.2.2.length c') ∧ SeesS w a' c' (cnA es i).2.2.2
theorem SeesCn.below {w w' : World} {a : Option Addr} {cap : Nat} {es : List Cn} (h : SeesCn w a cap es) (hb : Below w.heap.size w w') : SeesCn w' a cap es :=
  ⟨h.fits, h.max, fun hn => by
    obtain ⟨b, off, ha, hc⟩ := h.cells hn
    exact ⟨b, off, ha, fun i hi => by obtain ⟨h0, h1, h9, a', c', h2, h3⟩ := hc i hi; exact ⟨bat hb h0, bat hb h1, bat hb h9, a', c', bat hb h2, h3.below hb⟩⟩⟩
/-- How many entries, rows and points there are, up to an entry. -/
def uptoC (es : List Cn) : Nat → Nat
  | 0 => es.length
  | j + 1 => uptoC es j + upto (cnA es j).2.2.2 (cnA es j).2.2.2.length
theorem uptoC_le (es : List Cn) (j d : Nat) : uptoC es j ≤ uptoC es (j + d) := by
  induction d with
  | zero => exact Nat.le_refl _
  | succ d ih => rw [← Nat.add_assoc]; simp only [uptoC]; omega
theorem cnRow_le (es : List Cn) {i n : Nat} (h : i < n) : upto (cnA es i).2.2.2 (cnA es i).2.2.2.length + es.length ≤ uptoC es n := by
  have h1 := uptoC_le es (i + 1) (n - (i + 1))
  rw [show i + 1 + (n - (i + 1)) = n by omega] at h1
  have h2 := uptoC_le es 0 i
  simp only [uptoC, Nat.zero_add] at h1 h2
  omega

set_option maxRecDepth 20000 in
set_option maxHeartbeats 1000000 in
theorem szChanges (a : Option Addr) (c : Nat) (es : List Cn) (left : Int) (w : World) (h : SeesCn w a c es) (hl : 0 ≤ left ∧ left ≤ 1048576) :
    Calls Tryz.prog 4 #[.slice a es.length c, .int .i64 left] w fun e w' => ∃ z : Int, e = .returned (.int .i64 z) ∧ (z = -1 ∨ (0 ≤ z ∧ z + (uptoC es es.length : Nat) = left)) ∧ Below w.heap.size w w' := by
  obtain ⟨h1, h2⟩ := hl
  have hm := h.max
  have hf := h.fits
  unfold maxLen at hm
  by_cases hc : left - es.length < 0
  · go_enter Tryz.func4, Tryz.ntmps4
    go_wp2
    go_ret
    exact ⟨-1, rfl, .inl rfl, Below.refl _ _⟩
  · have hc' : 0 ≤ left - es.length := by omega
    go_enter Tryz.func4, Tryz.ntmps4
    go_wp2
    go_loopw [1, 5] (fun s1 s5 wr => ∃ (j : Nat) (z : Int), j ≤ es.length ∧ s5 = .int .i64 j ∧ s1 = .int .i64 z ∧ 0 ≤ z ∧ z ≤ 1048576 ∧ Hid (z + (uptoC es j : Nat) = left) ∧ Below w.heap.size w wr) (fun _ s5 _ => es.length - (intOf s5).toNat)
    case atStart => exact ⟨0, _, Nat.zero_le _, rfl, rfl, hc', by omega, (by show _ = _; simp only [uptoC]; omega), Below.refl _ _⟩
    case round =>
      obtain ⟨j, z, hj, rfl, rfl, z0, z1, he, B⟩ := hrel
      rename World => wr
      by_cases hlt : j < es.length
      · obtain ⟨b, off, rfl, hc⟩ := (h.below B).cells (by intro e; simp [e] at hlt)
        obtain ⟨g0, g1, g9, a', c', g2, sp⟩ := hc j hlt
        have HE : Hid (uptoC es (j + 1) = uptoC es j + upto (cnA es j).2.2.2 (cnA es j).2.2.2.length) := rfl
        clear hc
        generalize cnA es j = en at *
        obtain ⟨kd, ix, k, rs⟩ := en
        dsimp only at g0 g1 g9 g2 sp HE
        go_wp2_with fail
        refine (szChange_any kd ix k a' c' rs z _ sp ⟨z0, z1⟩).mono ?_
        rintro e w2 ⟨y, rfl, hy, hb⟩
        replace B := B.trans (hb.mono B.size)
        clear hb g0 g1 g9 g2 sp
        rcases hy with rfl | ⟨y0, hy⟩
        · go_wp2
          go_ret
          exact ⟨-1, rfl, .inl rfl, B⟩
        · have HY : Hid (y + (uptoC es (j + 1) : Nat) = left) := by have := he.out; have := HE.out; show _ = _; omega
          have y1 : y ≤ 1048576 := by omega
          have yn : ¬ y < 0 := by omega
          clear hy he HE
          go_wp2
          go_roundw
          case rel => exact ⟨j + 1, y, by omega, by go_num, rfl, y0, y1, HY, B⟩
          case measure => simp [intOf]; omega
      · obtain rfl : j = es.length := by omega
        have HE := he
        clear he
        go_wp2
        go_ret
        exact ⟨z, rfl, .inr ⟨z0, HE.out⟩, B⟩

theorem infoCn : (Tryz.prog.info? 44).map (fun i => (i.zero, i.size, i.bytes)) = some (some (.agg #[.int .i64 0, .int .i64 0, .int .i64 0, .slice none 0 0]), 4, 48) := by kernel_rfl
/-- Entries that are being copied into block g: the first j are there; entry i's rows' list lies in block gb i, its points in blocks up to below tp i. -/
structure RowCn (w : World) (g n j : Nat) (es : List Cn) (gb tp : Nat → Nat) : Prop where
  c : ∀ i, i < j → w.cell? ⟨g, i * 4, none⟩ = some (.int .i64 (cnA es i).1) ∧ w.cell? ⟨g, i * 4 + 1, none⟩ = some (.int .i64 (cnA es i).2.1) ∧ w.cell? ⟨g, i * 4 + 2, none⟩ = some (.int .i64 (cnA es i).2.2.1) ∧ w.cell? ⟨g, i * 4 + 3, none⟩ = some (.slice (some ⟨gb i, 0, none⟩) (cnA es i).2.2.2.length (cnA es i).2.2.2.length) ∧ OwnS (gb i) w (some ⟨gb i, 0, none⟩) (cnA es i).2.2.2.length (cnA es i).2.2.2 ∧ Somes w (some ⟨gb i, 0, none⟩) (cnA es i).2.2.2.length ∧ MarkS (gb i + 1) (tp i) w (gb i) 0 (cnA es i).2.2.2
  o : ∀ i, i < j → g < gb i ∧ gb i < tp i ∧ tp i ≤ w.heap.size
  p : ∀ i k, i < k → k < j → tp i ≤ gb k
  u : ∀ i, j ≤ i → i < n → (∃ v, w.cell? ⟨g, i * 4, none⟩ = some v) ∧ (∃ v, w.cell? ⟨g, i * 4 + 1, none⟩ = some v) ∧ (∃ v, w.cell? ⟨g, i * 4 + 2, none⟩ = some v) ∧ ∃ v, w.cell? ⟨g, i * 4 + 3, none⟩ = some v
  fr : ∀ o, w.frozen? ⟨g, o, none⟩ = false
  lt : g < w.heap.size
theorem RowCn.below {w w' : World} {g n j : Nat} {es : List Cn} {gb tp : Nat → Nat} (h : RowCn w g n j es gb tp) (hb : Below w.heap.size w w') : RowCn w' g n j es gb tp := by
  obtain ⟨q, r⟩ := at_block hb h.lt
  refine ⟨fun i hi => ?_, fun i hi => ?_, h.p, fun i h1 h2 => ?_, fun o => (r o).trans (h.fr o), Nat.lt_of_lt_of_le h.lt hb.size⟩
  · obtain ⟨h0, h1, h9, h2, h3, h4, h5⟩ := h.c i hi
    exact ⟨(q _).trans h0, (q _).trans h1, (q _).trans h9, (q _).trans h2, h3.below hb, h4.below hb, h5.below hb⟩
  · obtain ⟨o1, o2, o3⟩ := h.o i hi
    exact ⟨o1, o2, Nat.le_trans o3 hb.size⟩
  · obtain ⟨⟨v0, e0⟩, ⟨v1, e1⟩, ⟨v9, e9⟩, ⟨v2, e2⟩⟩ := h.u i h1 h2
    exact ⟨⟨v0, (q _).trans e0⟩, ⟨v1, (q _).trans e1⟩, ⟨v9, (q _).trans e9⟩, ⟨v2, (q _).trans e2⟩⟩
theorem RowCn.start {w : World} {base e g n : Nat} {xs : List Value} (es : List Cn) (h : w.ownsRow base e 4 (.slice (some ⟨g, 0, none⟩) n n) n xs) : RowCn w g n 0 es (fun _ => 0) (fun _ => 0) := by
  obtain ⟨h1, h2⟩ := h
  rcases h2 with ⟨h2, _⟩ | ⟨g', cap', cur, hv, hb, hh, hc, hm, hs, ht⟩
  · cases h2
  simp only [Value.slice.injEq, Option.some.injEq, Addr.mk.injEq, and_true] at hv
  obtain ⟨rfl, _, rfl⟩ := hv
  have get : ∀ k, k < n * 4 → ∃ v, w.cell? ⟨g, k, none⟩ = some v := fun k hk => by
    rw [cell_of_row w g k cur e (0, 0) hh]
    exact ⟨cur[k]'(by omega), Array.getElem?_eq_getElem (by omega)⟩
  refine ⟨fun i hi => absurd hi (by omega), fun i hi => absurd hi (by omega), fun i k _ hk => absurd hk (by omega), fun k _ hk => ⟨get _ (by omega), get _ (by omega), get _ (by omega), get _ (by omega)⟩, fun o => by simp [World.frozen?, hh], ?_⟩
  rcases Nat.lt_or_ge g w.heap.size with k | k
  · exact k
  · rw [Array.getElem?_eq_none k] at hh
    cases hh
theorem RowCn.step {w : World} {g n j b : Nat} {es : List Cn} {gb tp : Nat → Nat} (h : RowCn w g n j es gb tp) (hj : j < n) (ho : OwnS b w (some ⟨b, 0, none⟩) (cnA es j).2.2.2.length (cnA es j).2.2.2) (hs : Somes w (some ⟨b, 0, none⟩) (cnA es j).2.2.2.length) (hb : g < b) (hl : b < w.heap.size) (ht : ∀ i, i < j → tp i ≤ b) :
    RowCn ((((w.setCell ⟨g, j * 4, none⟩ (.int .i64 (cnA es j).1)).setCell ⟨g, j * 4 + 1, none⟩ (.int .i64 (cnA es j).2.1)).setCell ⟨g, j * 4 + 2, none⟩ (.int .i64 (cnA es j).2.2.1)).setCell ⟨g, j * 4 + 3, none⟩ (.slice (some ⟨b, 0, none⟩) (cnA es j).2.2.2.length (cnA es j).2.2.2.length)) g n (j + 1) es (fun i => if i = j then b else gb i) (fun i => if i = j then w.heap.size else tp i) := by
  obtain ⟨⟨v0, e0⟩, ⟨v1, e1⟩, ⟨v9, e9⟩, ⟨v2, e2⟩⟩ := h.u j (Nat.le_refl _) hj
  have far : ∀ o, o ≠ j * 4 → o ≠ j * 4 + 1 → o ≠ j * 4 + 2 → o ≠ j * 4 + 3 → ∀ v, w.cell? ⟨g, o, none⟩ = some v → ((((w.setCell ⟨g, j * 4, none⟩ (.int .i64 (cnA es j).1)).setCell ⟨g, j * 4 + 1, none⟩ (.int .i64 (cnA es j).2.1)).setCell ⟨g, j * 4 + 2, none⟩ (.int .i64 (cnA es j).2.2.1)).setCell ⟨g, j * 4 + 3, none⟩ (.slice (some ⟨b, 0, none⟩) (cnA es j).2.2.2.length (cnA es j).2.2.2.length)).cell? ⟨g, o, none⟩ = some v := fun o n0 n1 n9 n2 v hv =>
    (cell_other (.inr (Ne.symm n2)) _).trans ((cell_other (.inr (Ne.symm n9)) _).trans ((cell_other (.inr (Ne.symm n1)) _).trans ((cell_other (.inr (Ne.symm n0)) _).trans hv)))
  refine ⟨fun i hi => ?_, fun i hi => ?_, fun i k h1 h2 => ?_, fun i h1 h2 => ?_, fun o => ?_, by simpa using h.lt⟩
  · by_cases e : i = j
    · subst e
      simp only [if_pos]
      exact ⟨(cell_other (.inr (by omega)) _).trans ((cell_other (.inr (by omega)) _).trans ((cell_other (.inr (by omega)) _).trans (cell_same e0 _))), (cell_other (.inr (by omega)) _).trans ((cell_other (.inr (by omega)) _).trans (cell_same ((cell_other (.inr (by omega)) _).trans e1) _)), (cell_other (.inr (by omega)) _).trans (cell_same ((cell_other (.inr (by omega)) _).trans ((cell_other (.inr (by omega)) _).trans e9)) _), cell_same ((cell_other (.inr (by omega)) _).trans ((cell_other (.inr (by omega)) _).trans ((cell_other (.inr (by omega)) _).trans e2))) _,
        (((ho.put hb _ _).put hb _ _).put hb _ _).put hb _ _, (((hs.put (by omega) _ _).put (by omega) _ _).put (by omega) _ _).put (by omega) _ _, (((ho.mark.far (by omega)).far (by omega)).far (by omega)).far (by omega)⟩
    · simp only [if_neg e]
      obtain ⟨h0, h1, h9, h2, h3, h4, h5⟩ := h.c i (by omega)
      obtain ⟨o1, o2, o3⟩ := h.o i (by omega)
      exact ⟨far _ (by omega) (by omega) (by omega) (by omega) _ h0, far _ (by omega) (by omega) (by omega) (by omega) _ h1, far _ (by omega) (by omega) (by omega) (by omega) _ h9, far _ (by omega) (by omega) (by omega) (by omega) _ h2, (((h3.put o1 _ _).put o1 _ _).put o1 _ _).put o1 _ _, (((h4.put (by omega) _ _).put (by omega) _ _).put (by omega) _ _).put (by omega) _ _, (((h5.far (by omega)).far (by omega)).far (by omega)).far (by omega)⟩
  · by_cases e : i = j
    · subst e
      simp only [if_pos]
      exact ⟨hb, hl, by simp⟩
    · simp only [if_neg e]
      obtain ⟨o1, o2, o3⟩ := h.o i (by omega)
      exact ⟨o1, o2, by simpa using o3⟩
  · have ei : i ≠ j := by omega
    simp only [if_neg ei]
    by_cases e : k = j
    · subst e
      simp only [if_pos]
      exact ht i h1
    · simp only [if_neg e]
      exact h.p i k h1 (by omega)
  · obtain ⟨⟨v0, e0⟩, ⟨v1, e1⟩, ⟨v9, e9⟩, ⟨v2, e2⟩⟩ := h.u i (by omega) h2
    exact ⟨⟨v0, far _ (by omega) (by omega) (by omega) (by omega) _ e0⟩, ⟨v1, far _ (by omega) (by omega) (by omega) (by omega) _ e1⟩, ⟨v9, far _ (by omega) (by omega) (by omega) (by omega) _ e9⟩, ⟨v2, far _ (by omega) (by omega) (by omega) (by omega) _ e2⟩⟩
  · exact (World.frozen?_setCell ..).trans ((World.frozen?_setCell ..).trans ((World.frozen?_setCell ..).trans ((World.frozen?_setCell ..).trans (h.fr o))))
theorem RowCn.sees {w : World} {g n : Nat} {es : List Cn} {gb tp : Nat → Nat} (h : RowCn w g n es.length es gb tp) (hm : es.length ≤ maxLen) : SeesCn w (some ⟨g, 0, none⟩) es.length es :=
  ⟨Nat.le_refl _, hm, fun _ => ⟨g, 0, rfl, fun i hi => by
    obtain ⟨h0, h1, h9, h2, h3, _, _⟩ := h.c i hi
    simp only [Nat.zero_add]
    exact ⟨h0, h1, h9, _, _, h2, h3.sees⟩⟩⟩

set_option maxRecDepth 20000 in
set_option maxHeartbeats 1000000 in
theorem toChanges (a : Option Addr) (cap : Nat) (es : List Cn) (w : World) (h : SeesCn w a cap es) (hs : uptoC es es.length ≤ 1048576) :
    Calls Tryz.prog 6 #[.slice a es.length cap] w fun e w' => e = .returned (.slice (some ⟨w.heap.size, 0, none⟩) es.length es.length) ∧ (∃ gb tp, RowCn w' w.heap.size es.length es.length es gb tp) ∧ Below w.heap.size w w' := by
  obtain ⟨i0, hi, hz0, hz1, hz2⟩ := info_parts infoCn
  have hrl : es.length ≤ 1048576 := by have := uptoC_le es 0 es.length; simp only [uptoC, Nat.zero_add] at this; omega
  have HS : Hid (uptoC es es.length ≤ 1048576) := hs
  clear hs
  go_enter Tryz.func6, Tryz.ntmps6
  go_wp2_with (at_make; refine wpList_make_full _ rfl _ _ 26 rfl w.heap.size 44 i0 (.agg #[.int .i64 0, .int .i64 0, .int .i64 0, .slice none 0 0]) 4 Tryz.underlying26 hi hz0 hz1 .i64 .i64 _ _ es.length rfl rfl rfl rfl ?b2 ?b3 (Nat.le_refl _) ?_)
  case b2 => rw [hz2]; omega
  case b3 => unfold maxLen; omega
  intro w0 hown0 hgrow0
  have R := RowCn.start es hown0
  have hb0 : Below w.heap.size w w0 := (Below.refl _ _).grown hgrow0 (Nat.le_refl _) (fun k h => by cases h)
  have hm := h.max
  have hf := h.fits
  unfold maxLen at hm
  clear hown0 hgrow0 hi hz0 hz1 hz2
  go_wp2
  go_loopw [4] (fun i wr => ∃ j : Nat, j ≤ es.length ∧ i = .int .i64 j ∧ Hid (∃ gb tp, RowCn wr w.heap.size es.length j es gb tp) ∧ Below w.heap.size w wr) (fun i _ => es.length - (intOf i).toNat)
  case atStart => exact ⟨0, Nat.zero_le _, rfl, ⟨_, _, R⟩, hb0⟩
  case round =>
    clear R hb0
    obtain ⟨j, hj, rfl, RH, B⟩ := hrel
    rename World => wr
    by_cases hlt : j < es.length
    · obtain ⟨gb, tp, R⟩ := RH.out
      obtain ⟨b1, o1, rfl, hc⟩ := (h.below B).cells (by intro e; simp [e] at hlt)
      obtain ⟨g0, g1, g9, a', c', g2, sp⟩ := hc j hlt
      have hrow := cnRow_le es hlt
      have HR : Hid (upto (cnA es j).2.2.2 (cnA es j).2.2.2.length ≤ 1048576) := by show _ ≤ _; have := HS.out; omega
      have ht : Hid (∀ i, i < j → tp i ≤ wr.heap.size + 6) := fun i hi => by have := (R.o i hi).2.2; omega
      have hgw : w.heap.size < wr.heap.size := R.lt
      clear hc hrow RH
      generalize hen : cnA es j = en at *
      obtain ⟨kd, ix, k, rs⟩ := en
      dsimp only at g0 g1 g9 g2 sp HR
      go_wp2_with fail
      refine (toChangeE kd ix k a' c' rs _ sp HR.out).mono ?_
      rintro e w3 ⟨rfl, O3, hb, M3, L3⟩
      replace R := R.below hb
      replace B := B.trans (hb.mono B.size)
      obtain ⟨⟨v0, e0⟩, ⟨v1, e1⟩, ⟨v9, e9⟩, ⟨v2, e2⟩⟩ := R.u j (Nat.le_refl _) hlt
      have cf := R.fr
      have RN := R.step hlt (b := wr.heap.size + 6) (by rw [hen]; exact O3) (by rw [hen]; exact M3) (by omega) L3 ht.out
      rw [hen] at RN
      have RH : Hid (∃ gb tp, RowCn _ w.heap.size es.length (j + 1) es gb tp) := ⟨_, _, RN⟩
      replace B := (((B.setCell (p := ⟨w.heap.size, j * 4, none⟩) (Nat.le_refl _) (.int .i64 kd)).setCell (p := ⟨w.heap.size, j * 4 + 1, none⟩) (Nat.le_refl _) (.int .i64 ix)).setCell (p := ⟨w.heap.size, j * 4 + 2, none⟩) (Nat.le_refl _) (.int .i64 k)).setCell (p := ⟨w.heap.size, j * 4 + 3, none⟩) (Nat.le_refl _) (.slice (some ⟨wr.heap.size + 6, 0, none⟩) rs.length rs.length)
      clear hb g0 g1 g9 g2 RN R O3 M3 L3 sp HR ht
      generalize rs.length = m at *
      go_wp2_with fail
      go_roundw
      case rel => exact ⟨j + 1, by omega, by go_num, RH, B⟩
      case measure => simp [intOf]; omega
    · have hje : j = es.length := by omega
      subst hje
      go_wp2
      go_ret
      exact ⟨rfl, RH.out, B⟩

set_option maxRecDepth 20000 in
set_option maxHeartbeats 2000000 in
theorem eqChanges (a b : Option Addr) (c d : Nat) (es : List Cn) (w : World) (h : SeesCn w a c es) (k : SeesCn w b d es) :
    Calls Tryz.prog 9 #[.slice a es.length c, .slice b es.length d] w fun e w' => e = .returned (.bool true) ∧ Below w.heap.size w w' := by
  have hm := h.max
  have hf := h.fits
  unfold maxLen at hm
  have hne : ((es.length : Int) != (es.length : Int)) = false := by simp
  go_enter Tryz.func9, Tryz.ntmps9
  go_wp2
  go_loopw [5] (fun i wr => ∃ j : Nat, j ≤ es.length ∧ i = .int .i64 j ∧ Below w.heap.size w wr) (fun i _ => es.length - (intOf i).toNat)
  case atStart => exact ⟨0, Nat.zero_le _, rfl, Below.refl _ _⟩
  case round =>
    obtain ⟨j, hj, rfl, B⟩ := hrel
    rename World => wr
    by_cases hlt : j < es.length
    · obtain ⟨b1, o1, rfl, hc⟩ := (h.below B).cells (by intro e; simp [e] at hlt)
      obtain ⟨b2, o2, rfl, hd⟩ := (k.below B).cells (by intro e; simp [e] at hlt)
      obtain ⟨g0, g1, g9, a3, c3, g2, p1⟩ := hc j hlt
      obtain ⟨d0, d1, d9, a4, c4, d2, p2⟩ := hd j hlt
      clear hc hd
      generalize cnA es j = en at *
      obtain ⟨kd, ix, n, rs⟩ := en
      dsimp only at g0 g1 g9 g2 p1 d0 d1 d9 d2 p2
      go_wp2_with fail
      have k0 : wr.cell? ⟨b1, o1 + j * 4, none⟩ = some (.int .i64 kd) ∧ wr.cell? ⟨b1, o1 + j * 4 + 1, none⟩ = some (.int .i64 ix) ∧ wr.cell? ⟨b1, o1 + j * 4 + 2, none⟩ = some (.int .i64 n) ∧ wr.cell? ⟨b1, o1 + j * 4 + 3, none⟩ = some (.slice a3 rs.length c3) ∧ wr.cell? ⟨b2, o2 + j * 4, none⟩ = some (.int .i64 kd) ∧ wr.cell? ⟨b2, o2 + j * 4 + 1, none⟩ = some (.int .i64 ix) ∧ wr.cell? ⟨b2, o2 + j * 4 + 2, none⟩ = some (.int .i64 n) ∧ wr.cell? ⟨b2, o2 + j * 4 + 3, none⟩ = some (.slice a4 rs.length c4) := ⟨g0, g1, g9, g2, d0, d1, d9, d2⟩
      have B1 : Below wr.heap.size wr wr := Below.refl _ _
      go_region_held3 (fun w' => w'.cell? ⟨b1, o1 + j * 4, none⟩ = some (.int .i64 kd) ∧ w'.cell? ⟨b1, o1 + j * 4 + 1, none⟩ = some (.int .i64 ix) ∧ w'.cell? ⟨b1, o1 + j * 4 + 2, none⟩ = some (.int .i64 n) ∧ w'.cell? ⟨b1, o1 + j * 4 + 3, none⟩ = some (.slice a3 rs.length c3) ∧ w'.cell? ⟨b2, o2 + j * 4, none⟩ = some (.int .i64 kd) ∧ w'.cell? ⟨b2, o2 + j * 4 + 1, none⟩ = some (.int .i64 ix) ∧ w'.cell? ⟨b2, o2 + j * 4 + 2, none⟩ = some (.int .i64 n) ∧ w'.cell? ⟨b2, o2 + j * 4 + 3, none⟩ = some (.slice a4 rs.length c4))
        (first | exact k0 | exact ⟨bat B1 k0.1, bat B1 k0.2.1, bat B1 k0.2.2.1, bat B1 k0.2.2.2.1, bat B1 k0.2.2.2.2.1, bat B1 k0.2.2.2.2.2.1, bat B1 k0.2.2.2.2.2.2.1, bat B1 k0.2.2.2.2.2.2.2⟩)
        ((go_at_call 21; refine (eqChange_any kd ix n a3 a4 c3 c4 rs _ (p1.below B1.drew) (p2.below B1.drew)).mono ?_; rintro e w5 ⟨rfl, hb⟩; replace B1 := B1.drew.trans (hb.mono B1.drew.size)))
      replace B := B.trans (B1.mono B.size)
      go_wp2_with fail
      go_roundw
      case rel => exact ⟨j + 1, by omega, by go_num, B⟩
      case measure => simp [intOf]; omega
    · go_wp2
      go_ret
      exact ⟨rfl, B⟩
/-- Entries that may be marked. -/
structure MkCn (w : World) (g : Nat) (es : List Cn) (gb tp : Nat → Nat) : Prop where
  c : ∀ i, i < es.length → (∃ v, w.cell? ⟨g, i * 4, none⟩ = some v) ∧ (∃ v, w.cell? ⟨g, i * 4 + 1, none⟩ = some v) ∧ (∃ v, w.cell? ⟨g, i * 4 + 2, none⟩ = some v) ∧ w.cell? ⟨g, i * 4 + 3, none⟩ = some (.slice (some ⟨gb i, 0, none⟩) (cnA es i).2.2.2.length (cnA es i).2.2.2.length) ∧ MarkS (gb i + 1) (tp i) w (gb i) 0 (cnA es i).2.2.2
  o : ∀ i, i < es.length → g < gb i ∧ gb i < tp i
  p : ∀ i k, i < k → k < es.length → tp i ≤ gb k
  fr : ∀ o, w.frozen? ⟨g, o, none⟩ = false
  lt : g < w.heap.size
theorem RowCn.marks {w : World} {g : Nat} {es : List Cn} {gb tp : Nat → Nat} (h : RowCn w g es.length es.length es gb tp) : MkCn w g es gb tp :=
  ⟨fun i hi => by obtain ⟨h0, h1, h9, h2, _, _, h5⟩ := h.c i hi; exact ⟨⟨_, h0⟩, ⟨_, h1⟩, ⟨_, h9⟩, h2, h5⟩, fun i hi => ⟨(h.o i hi).1, (h.o i hi).2.1⟩, h.p, h.fr, h.lt⟩
theorem MkCn.below {w w' : World} {g : Nat} {es : List Cn} {gb tp : Nat → Nat} (h : MkCn w g es gb tp) (hb : Below w.heap.size w w') : MkCn w' g es gb tp := by
  obtain ⟨q, r⟩ := at_block hb h.lt
  exact ⟨fun i hi => by obtain ⟨⟨v0, h0⟩, ⟨v1, h1⟩, ⟨v9, h9⟩, h2, h5⟩ := h.c i hi; exact ⟨⟨v0, (q _).trans h0⟩, ⟨v1, (q _).trans h1⟩, ⟨v9, (q _).trans h9⟩, (q _).trans h2, h5.below hb⟩, h.o, h.p, fun o => (r o).trans (h.fr o), Nat.lt_of_lt_of_le h.lt hb.size⟩
theorem MkCn.put {w : World} {g o : Nat} {es : List Cn} {gb tp : Nat → Nat} {u : Value} (h : MkCn w g es gb tp) (ho : o % 4 ≠ 3) : MkCn (w.setCell ⟨g, o, none⟩ u) g es gb tp := by
  have any : ∀ k, (∃ v, w.cell? ⟨g, k, none⟩ = some v) → ∃ v, (w.setCell ⟨g, o, none⟩ u).cell? ⟨g, k, none⟩ = some v := fun k ⟨v, hv⟩ => by
    by_cases e : o = k
    · subst e; exact ⟨u, cell_same hv u⟩
    · exact ⟨v, (cell_other (.inr e) u).trans hv⟩
  exact ⟨fun i hi => by
    obtain ⟨h0, h1, h9, h2, h5⟩ := h.c i hi
    have := (h.o i hi).1
    exact ⟨any _ h0, any _ h1, any _ h9, (cell_other (.inr (by omega)) u).trans h2, h5.far (by omega)⟩, h.o, h.p, fun i => (World.frozen?_setCell ..).trans (h.fr i), by simpa using h.lt⟩
theorem MkCn.puts {w w' : World} {g j : Nat} {es : List Cn} {gb tp : Nat → Nat} (h : MkCn w g es gb tp) (hj : j < es.length) (P : Puts (gb j + 1) (tp j) w w') : MkCn w' g es gb tp := by
  refine P (fun W => MkCn W g es gb tp) (fun W b o u h1 h2 q => ?_) h
  have oj := q.o j hj
  refine ⟨fun i hi => ?_, q.o, q.p, fun i => (World.frozen?_setCell ..).trans (q.fr i), by simpa using q.lt⟩
  obtain ⟨⟨v0, e0⟩, ⟨v1, e1⟩, ⟨v9, e9⟩, e2, e5⟩ := q.c i hi
  refine ⟨⟨v0, (cell_other (.inl (by omega)) u).trans e0⟩, ⟨v1, (cell_other (.inl (by omega)) u).trans e1⟩, ⟨v9, (cell_other (.inl (by omega)) u).trans e9⟩, (cell_other (.inl (by omega)) u).trans e2, e5.far ?_⟩
  have oi := q.o i hi
  rcases Nat.lt_trichotomy i j with k | k | k
  · have := q.p i j k hj; omega
  · subst k; omega
  · have := q.p j i k hi; omega

set_option maxRecDepth 20000 in
set_option maxHeartbeats 2000000 in
theorem markChanges (g hi : Nat) (es : List Cn) (gb tp : Nat → Nat) (w : World) (h : MkCn w g es gb tp) (hh : ∀ i, i < es.length → tp i ≤ hi) (hg : g < hi) (hs : uptoC es es.length ≤ 1048576) :
    Calls Tryz.prog 10 #[.slice (some ⟨g, 0, none⟩) es.length es.length, .int .i64 1] w fun e w' => ∃ k : Int, e = .returned (.int .i64 k) ∧ 0 ≤ k ∧ Puts g hi w w' := by
  have HS : Hid (uptoC es es.length ≤ 1048576) := hs
  have hm : es.length ≤ 1048576 := by have := uptoC_le es 0 es.length; simp only [uptoC, Nat.zero_add] at this; omega
  have HH : Hid (∀ i, i < es.length → tp i ≤ hi) := hh
  clear hs hh
  go_enter Tryz.func10, Tryz.ntmps10
  go_wp2
  go_loopw [1, 5] (fun s1 i wr => ∃ (j : Nat) (k : Int), j ≤ es.length ∧ i = .int .i64 j ∧ s1 = .int .i64 k ∧ 0 ≤ k ∧ Hid (k ≤ 1 + 3 * (j : Int) + 2 * (uptoC es j : Int)) ∧ Hid (MkCn wr g es gb tp) ∧ Hid (Puts g hi w wr)) (fun _ i _ => es.length - (intOf i).toNat)
  case atStart => exact ⟨0, 1, Nat.zero_le _, rfl, rfl, by omega, (by show _ ≤ _; omega), h, Puts.refl _ _ _⟩
  case round =>
    obtain ⟨j, k, hj, rfl, rfl, k0, k1, M, P⟩ := hrel
    rename World => wr
    by_cases hlt : j < es.length
    · have M1 := M.out.put (o := j * 4) (u := .int .i64 k) (by omega)
      have M9 := M1.put (o := j * 4 + 1) (u := .int .i64 (k + 1)) (by omega)
      have M2 := M9.put (o := j * 4 + 2) (u := .int .i64 (k + 1 + 1)) (by omega)
      obtain ⟨⟨v0, c0⟩, _, _, _, _⟩ := M.out.c j hlt
      obtain ⟨_, ⟨v1, c1⟩, _, _, _⟩ := M1.c j hlt
      obtain ⟨_, _, ⟨v9, c9⟩, _, _⟩ := M9.c j hlt
      obtain ⟨_, _, _, c2, MS⟩ := M2.c j hlt
      have f0 := M.out.fr
      have f1 := M1.fr
      have f9 := M9.fr
      have P2 : Hid (Puts g hi w (((wr.setCell ⟨g, j * 4, none⟩ (.int .i64 k)).setCell ⟨g, j * 4 + 1, none⟩ (.int .i64 (k + 1))).setCell ⟨g, j * 4 + 2, none⟩ (.int .i64 (k + 1 + 1)))) := ((P.out.put (Nat.le_refl g) hg (j * 4) (.int .i64 k)).put (Nat.le_refl g) hg (j * 4 + 1) (.int .i64 (k + 1))).put (Nat.le_refl g) hg (j * 4 + 2) (.int .i64 (k + 1 + 1))
      have M2' : Hid (MkCn (((wr.setCell ⟨g, j * 4, none⟩ (.int .i64 k)).setCell ⟨g, j * 4 + 1, none⟩ (.int .i64 (k + 1))).setCell ⟨g, j * 4 + 2, none⟩ (.int .i64 (k + 1 + 1))) g es gb tp) := M2
      have oj := M.out.o j hlt
      have hrow := cnRow_le es hlt
      have HR : Hid (upto (cnA es j).2.2.2 (cnA es j).2.2.2.length ≤ 1048576) := by show _ ≤ _; have := HS.out; omega
      have HE : Hid (uptoC es (j + 1) = uptoC es j + upto (cnA es j).2.2.2 (cnA es j).2.2.2.length) := rfl
      have kb : k ≤ 50000000 := by
        have a1 := k1.out
        have a2 := uptoC_le es j (es.length - j)
        rw [show j + (es.length - j) = es.length by omega] at a2
        have := HS.out
        omega
      have HT := HH.out j hlt
      have hgb : g ≤ gb j + 1 := by omega
      have HTP : Hid (tp j ≤ hi) := HT
      have HRL : (cnA es j).2.2.2.length ≤ maxLen := by
        have a1 := upto_le (cnA es j).2.2.2 0 (cnA es j).2.2.2.length
        simp only [upto, Nat.zero_add] at a1
        have := HR.out
        unfold maxLen
        omega
      clear M1 M9 M2 M P hrow HT oj
      have MSH : Hid (MarkS (gb j + 1) (tp j) (((wr.setCell ⟨g, j * 4, none⟩ (.int .i64 k)).setCell ⟨g, j * 4 + 1, none⟩ (.int .i64 (k + 1))).setCell ⟨g, j * 4 + 2, none⟩ (.int .i64 (k + 1 + 1))) (gb j) 0 (cnA es j).2.2.2) := MS
      have HRH : Hid ((cnA es j).2.2.2.length ≤ maxLen) := HRL
      clear MS HRL
      generalize (cnA es j).2.2.2 = rs at *
      go_wp2_with fail
      refine (markRowsK (gb j) 0 rs.length (gb j + 1) (tp j) rs (k + 1 + 1 + 1) _ MSH.out (by omega) HRH.out (Nat.le_refl _) HR.out (by omega) (by omega)).mono ?_
      rintro e w3 ⟨k3, rfl, k30, k31, P3⟩
      have P4 : Hid (Puts g hi w w3) := P2.out.trans (P3.wider hgb HTP.out)
      have M4 : Hid (MkCn w3 g es gb tp) := M2'.out.puts hlt P3
      have K4 : Hid (k3 ≤ 1 + 3 * ((j + 1 : Nat) : Int) + 2 * (uptoC es (j + 1) : Int)) := by show _ ≤ _; rw [HE.out]; have := k1.out; push_cast; omega
      clear P3 MSH P2 M2' c0 c1 c9 c2 f0 f1 f9 k31
      go_wp2
      go_roundw
      case rel => exact ⟨j + 1, k3, by omega, by go_num, rfl, k30, K4, M4, P4⟩
      case measure => simp [intOf]; omega
    · obtain rfl : j = es.length := by omega
      go_wp2
      go_ret
      exact ⟨_, rfl, k0, P.out⟩
end Go.Proofs.YtlkhbbllkkdhaaaGreatDoor
