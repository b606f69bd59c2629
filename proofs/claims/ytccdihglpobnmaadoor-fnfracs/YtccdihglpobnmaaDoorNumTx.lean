/- The program's NumText (written by numtx.py). -/
import Derived.Test.YtccdihglpobnmaaDoorDigG
import Derived.Test.YtccdihglpobnmaaDoorBldr
import Derived.Test.YtccdihglpobnmaaDoorFmtu
import Derived.Test.YtccdihglpobnmaaDoorSNum
import Derived.Lib.ItoaLen
namespace Go.Proofs.YtccdihglpobnmaaDoor
open Go.RowKit

theorem IsB.below {B b : Nat} {bs : List Value} {w w' : World} (h : IsB B b bs w) (hb : Below w.heap.size w w') : IsB B b bs w' := by
  rcases h with ⟨h1, v, h2, h3, h4⟩ | ⟨h1, v, h2, h3, h4⟩
  · exact .inl ⟨h1, v, (hb.block b (lt_of_heap h2)).trans h2, owns_below h3 hb, h4⟩
  · exact .inr ⟨h1, v, (hb.block b (lt_of_heap h2)).trans h2, owns_below h3 hb, h4⟩
theorem putBox {w : World} {p : Nat} {u0 u1 x0 x1 : Value} (h0 : w.cell? ⟨p, 0, none⟩ = some x0) (h1 : w.cell? ⟨p, 1, none⟩ = some x1) :
    ((w.setCell ⟨p, 0, none⟩ u0).setCell ⟨p, 1, none⟩ u1).cell? ⟨p, 0, none⟩ = some u0 ∧ ((w.setCell ⟨p, 0, none⟩ u0).setCell ⟨p, 1, none⟩ u1).cell? ⟨p, 1, none⟩ = some u1 := by
  have e : (⟨p, 0, none⟩ : Addr) ≠ ⟨p, 1, none⟩ := by simp
  have e' : (⟨p, 1, none⟩ : Addr) ≠ ⟨p, 0, none⟩ := by simp
  refine ⟨?_, ?_⟩
  · rw [World.cell?_setCell_other _ _ _ _ e', World.cell?_setCell_same _ _ _ h0]
  · exact World.cell?_setCell_same _ _ _ ((World.cell?_setCell_other _ _ _ _ e).trans h1)
theorem dec_len {n k : Nat} (h0 : 0 < n) (h : n < 10 ^ k) : (Lib.decDigits n).length ≤ k := by
  rw [dec_digB n h0, List.length_map, List.length_reverse]
  exact digB_len h
theorem dec_len20 {n : Nat} (h : n < 18446744073709551616) : (Lib.decDigits n).length ≤ 20 := by
  rw [Lib.decDigits_length]
  exact Lib.nDigits_le20 n h
theorem sgB_len (g : Bool) : (sgB g).length ≤ 1 := by cases g <;> simp [sgB]
theorem tail1 (l : List UInt8) : (⟨l.toArray⟩ : ByteArray).extract 1 l.length = ⟨(l.drop 1).toArray⟩ := by
  apply ByteArray.ext
  rw [ByteArray.data_extract]
  apply Array.toList_inj.1
  rw [Array.toList_extract]
  simp only [List.extract]
  exact List.take_of_length_le (by simp)
theorem tail_size (l : List UInt8) : (⟨l.toArray⟩ : ByteArray).size = l.length := by simp [ByteArray.size]

set_option maxRecDepth 20000 in
set_option maxHeartbeats 2000000 in
theorem implNumText0 (g : Bool) (a : Option Addr) (c : Nat) (xs : List Int) (w : World) (h : Sees w a c xs) (h0 : tkL g xs = []) :
    Calls Tryd.prog 10 #[.agg #[.bool g, .slice a xs.length c]] w fun e w' => e = .returned (.string (numT (tk g xs))) ∧ Below w.heap.size w w' := by
  have E : Hid (numT (tk g xs) = { data := #[48] }) := by
    show _ = _
    unfold tk
    rw [h0]
    have : sg (tkG g xs) (val []) = 0 := by cases tkG g xs <;> rfl
    rw [this]
    rfl
  rw [E.out]
  have H0 : Hid (tkL g xs = []) := h0
  clear h0 E
  go_enter Tryd.func10, Tryd.ntmps10
  go_wp2_with fail
  refine (takenA g a c xs _ (h.below (below1 _ _))).mono ?_
  rintro e w1 ⟨a1, c1, rfl, _, hb⟩
  rw [H0.out]
  obtain ⟨q1, q2⟩ := at_block hb (b := w.heap.size) (by simp)
  have B1 := (below1 w _).trans (hb.mono (by simp))
  have x0 : w1.cell? ⟨w.heap.size, 0, none⟩ = some (.bool g) := by simp [q1, go_sem]
  have x1 : w1.cell? ⟨w.heap.size, 1, none⟩ = some (.slice a xs.length c) := by simp [q1, go_sem]
  have f0 : w1.frozen? ⟨w.heap.size, 0, none⟩ = false := by simp [q2, go_sem]
  have f1 : w1.frozen? ⟨w.heap.size, 1, none⟩ = false := by simp [q2, go_sem]
  have hz : (([] : List Int).length : Int) = 0 := rfl
  have BF := below_put' B1 (Nat.le_refl _) (.bool (tkG g xs)) (.slice a1 ([] : List Int).length c1)
  clear hb q1 q2 B1
  generalize tkG g xs = t at *
  go_wp2
  go_ret
  exact ⟨rfl, BF⟩

set_option maxRecDepth 20000 in
set_option maxHeartbeats 4000000 in
theorem implNumText1 (g : Bool) (a : Option Addr) (c : Nat) (xs : List Int) (w : World) (h : Sees w a c xs) (h0 : tkL g xs ≠ []) (HT : ∀ w', Below w.heap.size w w' → Pow10 w') :
    Calls Tryd.prog 10 #[.agg #[.bool g, .slice a xs.length c]] w fun e w' => e = .returned (.string (numT (tk g xs))) ∧ Below w.heap.size w w' := by
  obtain ⟨eg, el⟩ := okB_of h0
  obtain ⟨_, tn, t24, _⟩ := tk_facts g xs h.lim
  rw [el] at tn t24
  have hne : xs ≠ [] := by rw [← el]; exact h0
  have vp := val_pos h.lim tn hne
  obtain ⟨V, hV⟩ : ∃ V : Nat, (val xs).toNat = V := ⟨_, rfl⟩
  have V0 : 0 < V := by omega
  have VD : Hid (V < 10 ^ 232) := by show _ < _; rw [← hV]; exact val_digits h.lim t24
  have VG : Hid (V < 1000000000 ^ 26) := by show _ < _; rw [← hV]; exact val_groups h.lim t24
  have E : Hid (numT (tk g xs) = ⟨(sgB g ++ Lib.decDigits V).toArray⟩) := by
    show _ = _
    unfold tk
    rw [eg, el, show val xs = (V : Int) by omega]
    exact numT_dec V0
  rw [E.out]
  have EG : Hid (tkG g xs = g ∧ tkL g xs = xs) := ⟨eg, el⟩
  have NE : Hid (tkL g xs ≠ []) := h0
  have HV : Hid ((val xs).toNat = V) := hV
  have H0 : Hid (0 < V) := V0
  have HN : Hid (Nrm xs ∧ xs.length ≤ 24) := ⟨tn, t24⟩
  have hp : (0 : Int) < xs.length := by have := List.length_pos_iff.2 hne; omega
  have he0 : ((xs.length : Int) == 0) = false := by rw [beq_eq_false_iff_ne]; omega
  have HTB : Hid (∀ w', Below w.heap.size w w' → Pow10 w') := HT
  clear eg el h0 E vp V0 hV tn t24 HT hne
  go_enter Tryd.func10, Tryd.ntmps10
  go_wp2_with fail
  refine (takenA g a c xs _ (h.below (below1 _ _))).mono ?_
  rintro e w1 ⟨a1, c1, rfl, ha, hb⟩
  obtain ⟨rfl, rfl⟩ := ha.out NE.out
  rw [EG.out.1, EG.out.2]
  obtain ⟨q1, q2⟩ := at_block hb (b := w.heap.size) (by simp)
  have B1 := (below1 w _).trans (hb.mono (by simp))
  have x0 : w1.cell? ⟨w.heap.size, 0, none⟩ = some (.bool g) := by simp [q1, go_sem]
  have x1 : w1.cell? ⟨w.heap.size, 1, none⟩ = some (.slice a1 xs.length c1) := by simp [q1, go_sem]
  have f0 : w1.frozen? ⟨w.heap.size, 0, none⟩ = false := by simp [q2, go_sem]
  have f1 : w1.frozen? ⟨w.heap.size, 1, none⟩ = false := by simp [q2, go_sem]
  have BF := below_put' B1 (Nat.le_refl _) (.bool g) (.slice a1 xs.length c1)
  have hlt : w.heap.size < w1.heap.size := by have := hb.size; simp at this; omega
  obtain ⟨y0, y1⟩ := putBox (u0 := .bool g) (u1 := .slice a1 xs.length c1) x0 x1
  have S := h.below BF
  clear hb q1 q2 B1 ha h
  go_wp2_with fail
  have hlt2 : w.heap.size < ((w1.setCell ⟨w.heap.size, 0, none⟩ (.bool g)).setCell ⟨w.heap.size, 1, none⟩ (.slice a1 xs.length c1)).heap.size := by rw [World.size_setCell, World.size_setCell]; exact hlt
  clear x0 x1 f0 f1 hlt
  generalize (w1.setCell ⟨w.heap.size, 0, none⟩ (.bool g)).setCell ⟨w.heap.size, 1, none⟩ (.slice a1 xs.length c1) = W at *
  refine (digitGroupsC a1 c1 xs W S HN.out.1 HN.out.2).mono ?_
  rintro e w2 ⟨v, rfl, hR, hb2⟩
  rw [HV.out] at hR
  obtain ⟨q, cap, rfl, hq1, hq2⟩ := hR.shape (grp_ne H0.out)
  have GT := grp_top V H0.out
  have GL := grp_len 26 V VG.out
  have GC : ∀ w', Below w2.heap.size w2 w' → ∀ i, i < (grp V).length → w'.cell? ⟨q, i, none⟩ = some (.int .u64 ((V / 1000000000 ^ i % 1000000000 : Nat) : Int)) := by
    intro w' hw i hi
    have := (hR.below hw).at' hi
    rw [grp_get] at this
    exact this
  have hgl : 0 < (grp V).length := List.length_pos_iff.2 (grp_ne H0.out)
  generalize (grp V).length = L at *
  obtain ⟨m, rfl⟩ : ∃ m, L = m + 1 := ⟨L - 1, by omega⟩
  rw [Nat.add_sub_cancel] at GT
  have GTT : Hid (0 < V / 1000000000 ^ m ∧ V / 1000000000 ^ m < 1000000000) := GT
  have GCC : Hid (∀ w', Below w2.heap.size w2 w' → ∀ i, i < m + 1 → w'.cell? ⟨q, i, none⟩ = some (.int .u64 ((V / 1000000000 ^ i % 1000000000 : Nat) : Int))) := GC
  have BW2 := BF.trans (hb2.mono BF.size)
  have z0 := bat hb2 y0
  have hz2 : w.heap.size < w2.heap.size := Nat.lt_of_lt_of_le hlt2 hb2.size
  have m26 : m ≤ 25 := by omega
  clear GT GC hR hb2 y0 y1 S GL hgl BF hlt2 hq1
  cases g
  · have I0 : IsB w2.heap.size w2.heap.size (Lib.byteCells (sgB false)) (w2.alloc (.cells #[.pointer none, .slice none 0 0] 67)) := Lib.fresh_isBuilder _ _ w2
    have B4 : Below w2.heap.size w2 (w2.alloc (.cells #[.pointer none, .slice none 0 0] 67)) := below1 w2 _
    have g1 := GCC.out _ B4 m (by omega)
    rw [Nat.mod_eq_of_lt GTT.out.2] at g1
    obtain ⟨t, ht⟩ : ∃ t, V / 1000000000 ^ m = t := ⟨_, rfl⟩
    rw [ht] at g1
    have TL : Hid (0 < t ∧ t < 1000000000) := by show _ ∧ _; rw [← ht]; exact GTT.out
    have TE : Hid (V / 1000000000 ^ m = t) := ht
    clear ht GTT
    go_wp2_with fail
    generalize w2.alloc (.cells #[.pointer none, .slice none 0 0] 67) = W4 at *
    refine (fmtC t (by have := TL.out.2; omega) W4 (HTB.out _ (BW2.trans (B4.mono (by omega))))).mono ?_
    rintro e W5 ⟨rfl, hb⟩
    replace I0 := I0.below hb
    replace B4 := B4.trans (hb.mono B4.size)
    clear hb g1
    go_wp2_with fail
    refine (writeStringC w2.heap.size w2.heap.size _ ⟨(Lib.decDigits t).toArray⟩ W5 I0 (by have := dec_len20 (n := t) (by have := TL.out.2; omega); have := sgB_len false; rw [Lib.byteCells_length, tail_size]; omega) B4.size).mono ?_
    rintro e W6 ⟨rfl, I6, hb⟩
    replace B4 := B4.trans hb
    have I7 : IsB w2.heap.size w2.heap.size (Lib.byteCells (sgB false ++ Lib.decDigits (V / 1000000000 ^ m))) W6 := by rw [TE.out, Lib.byteCells_append]; exact I6
    clear I6 I0 hb
    go_wp2
    go_loopw [6] (fun s6 wr => ∃ k : Nat, k ≤ m ∧ s6 = .int .i64 ((k : Int) - 1) ∧ IsB w2.heap.size w2.heap.size (Lib.byteCells (sgB false ++ Lib.decDigits (V / 1000000000 ^ k))) wr ∧ Hid (0 < V / 1000000000 ^ k) ∧ Below w2.heap.size w2 wr) (fun s6 _ => (intOf s6 + 1).toNat)
    case atStart => exact ⟨m, Nat.le_refl _, rfl, I7, by show _ < _; rw [TE.out]; exact TL.out.1, B4⟩
    case round =>
      obtain ⟨k, hk, rfl, I8, P8, B8⟩ := hrel
      clear I7 B4
      rcases k with _ | j
      · have I9 : IsB w2.heap.size w2.heap.size (Lib.byteCells (sgB false ++ Lib.decDigits V)) wr := by simpa using I8
        clear I8
        go_wp2_with fail
        refine (Tryd.Builder_String w2.heap.size w2.heap.size _ wr I9 ?_).mono ?_
        · intro e
          have := congrArg List.length e
          rw [List.length_append, Lib.decDigits_length] at this
          have := Lib.nDigits_pos V
          simp at *
          omega
        rintro e W9 ⟨rfl, hb⟩
        have BE := BW2.trans ((B8.trans hb).mono (by omega))
        clear hb
        go_wp2
        go_ret
        exact ⟨rfl, BE⟩
      · have g2 := GCC.out wr B8 j (by omega)
        obtain ⟨r, hr⟩ : ∃ r, V / 1000000000 ^ j % 1000000000 = r := ⟨_, rfl⟩
        rw [hr] at g2
        have r9 : r < 1000000000 := by rw [← hr]; exact Nat.mod_lt _ (by decide)
        have RE : Hid (V / 1000000000 ^ j % 1000000000 = r) := hr
        obtain ⟨u, hu⟩ : ∃ u : Nat, (1000000000 : Int) + (r : Int) = u := ⟨1000000000 + r, by omega⟩
        have UE : Hid (1000000000 + r = u) := by show _ = _; omega
        have u9 : u < 2000000000 := by omega
        have hj : ((j + 1 : Nat) : Int) - 1 = j := by omega
        rw [hj]
        clear hr
        go_wp2_with fail
        refine (fmtC u (by omega) wr (HTB.out _ (BW2.trans (B8.mono (by omega))))).mono ?_
        rintro e W5 ⟨rfl, hb⟩
        have I9 := I8.below hb
        have B9 := B8.trans (hb.mono B8.size)
        have l1 : 1 ≤ (⟨(Lib.decDigits u).toArray⟩ : ByteArray).size := by rw [tail_size, Lib.decDigits_length]; exact Lib.nDigits_pos u
        clear hb g2 I8 B8
        go_wp2_with fail
        rw [tail1 (Lib.decDigits u)]
        refine (writeStringC w2.heap.size w2.heap.size _ ⟨((Lib.decDigits u).drop 1).toArray⟩ W5 I9 (by have h1 := dec_len20 (n := u) (by omega); have h2 := sgB_len false; have h3 := dec_len P8.out (Nat.lt_of_le_of_lt (Nat.div_le_self V (1000000000 ^ (j + 1))) VD.out); rw [Lib.byteCells_length, tail_size, List.length_append, List.length_drop]; omega) B9.size).mono ?_
        rintro e W6 ⟨rfl, I6, hb⟩
        have P9 : Hid (0 < V / 1000000000 ^ j) := by
          show _ < _
          have e : V / 1000000000 ^ (j + 1) = V / 1000000000 ^ j / 1000000000 := by rw [Nat.pow_succ, Nat.div_div_eq_div_mul]
          have := P8.out
          rw [e] at this
          omega
        have I7 : IsB w2.heap.size w2.heap.size (Lib.byteCells (sgB false ++ Lib.decDigits (V / 1000000000 ^ j))) W6 := by
          rw [dec_group P8.out, RE.out, UE.out, ← List.append_assoc, Lib.byteCells_append]
          exact I6
        replace B9 := B9.trans hb
        clear I6 I9 hb P8 l1
        go_wp2
        go_roundw
        case rel => exact ⟨j, by omega, by go_num, I7, P9, B9⟩
        case measure => simp [intOf]
  · go_wp2_with fail
    have I0 : IsB w2.heap.size w2.heap.size [] (w2.alloc (.cells #[.pointer none, .slice none 0 0] 67)) := Lib.fresh_isBuilder _ _ w2
    have B4 : Below w2.heap.size w2 (w2.alloc (.cells #[.pointer none, .slice none 0 0] 67)) := below1 w2 _
    generalize w2.alloc (.cells #[.pointer none, .slice none 0 0] 67) = W3 at *
    refine (writeByteC w2.heap.size w2.heap.size [] 45 W3 I0 (by simp) B4.size).mono ?_
    rintro e W4 ⟨rfl, I4, hb⟩
    replace B4 := B4.trans hb
    replace I0 : IsB w2.heap.size w2.heap.size (Lib.byteCells (sgB true)) W4 := I4
    clear I4 hb
    have g1 := GCC.out _ B4 m (by omega)
    rw [Nat.mod_eq_of_lt GTT.out.2] at g1
    obtain ⟨t, ht⟩ : ∃ t, V / 1000000000 ^ m = t := ⟨_, rfl⟩
    rw [ht] at g1
    have TL : Hid (0 < t ∧ t < 1000000000) := by show _ ∧ _; rw [← ht]; exact GTT.out
    have TE : Hid (V / 1000000000 ^ m = t) := ht
    clear ht GTT
    go_wp2_with fail
    refine (fmtC t (by have := TL.out.2; omega) W4 (HTB.out _ (BW2.trans (B4.mono (by omega))))).mono ?_
    rintro e W5 ⟨rfl, hb⟩
    replace I0 := I0.below hb
    replace B4 := B4.trans (hb.mono B4.size)
    clear hb g1
    go_wp2_with fail
    refine (writeStringC w2.heap.size w2.heap.size _ ⟨(Lib.decDigits t).toArray⟩ W5 I0 (by have := dec_len20 (n := t) (by have := TL.out.2; omega); have := sgB_len true; rw [Lib.byteCells_length, tail_size]; omega) B4.size).mono ?_
    rintro e W6 ⟨rfl, I6, hb⟩
    replace B4 := B4.trans hb
    have I7 : IsB w2.heap.size w2.heap.size (Lib.byteCells (sgB true ++ Lib.decDigits (V / 1000000000 ^ m))) W6 := by rw [TE.out, Lib.byteCells_append]; exact I6
    clear I6 I0 hb
    go_wp2
    go_loopw [6] (fun s6 wr => ∃ k : Nat, k ≤ m ∧ s6 = .int .i64 ((k : Int) - 1) ∧ IsB w2.heap.size w2.heap.size (Lib.byteCells (sgB true ++ Lib.decDigits (V / 1000000000 ^ k))) wr ∧ Hid (0 < V / 1000000000 ^ k) ∧ Below w2.heap.size w2 wr) (fun s6 _ => (intOf s6 + 1).toNat)
    case atStart => exact ⟨m, Nat.le_refl _, rfl, I7, by show _ < _; rw [TE.out]; exact TL.out.1, B4⟩
    case round =>
      obtain ⟨k, hk, rfl, I8, P8, B8⟩ := hrel
      clear I7 B4
      rcases k with _ | j
      · have I9 : IsB w2.heap.size w2.heap.size (Lib.byteCells (sgB true ++ Lib.decDigits V)) wr := by simpa using I8
        clear I8
        go_wp2_with fail
        refine (Tryd.Builder_String w2.heap.size w2.heap.size _ wr I9 ?_).mono ?_
        · intro e
          have := congrArg List.length e
          rw [List.length_append, Lib.decDigits_length] at this
          have := Lib.nDigits_pos V
          simp at *
          omega
        rintro e W9 ⟨rfl, hb⟩
        have BE := BW2.trans ((B8.trans hb).mono (by omega))
        clear hb
        go_wp2
        go_ret
        exact ⟨rfl, BE⟩
      · have g2 := GCC.out wr B8 j (by omega)
        obtain ⟨r, hr⟩ : ∃ r, V / 1000000000 ^ j % 1000000000 = r := ⟨_, rfl⟩
        rw [hr] at g2
        have r9 : r < 1000000000 := by rw [← hr]; exact Nat.mod_lt _ (by decide)
        have RE : Hid (V / 1000000000 ^ j % 1000000000 = r) := hr
        obtain ⟨u, hu⟩ : ∃ u : Nat, (1000000000 : Int) + (r : Int) = u := ⟨1000000000 + r, by omega⟩
        have UE : Hid (1000000000 + r = u) := by show _ = _; omega
        have u9 : u < 2000000000 := by omega
        have hj : ((j + 1 : Nat) : Int) - 1 = j := by omega
        rw [hj]
        clear hr
        go_wp2_with fail
        refine (fmtC u (by omega) wr (HTB.out _ (BW2.trans (B8.mono (by omega))))).mono ?_
        rintro e W5 ⟨rfl, hb⟩
        have I9 := I8.below hb
        have B9 := B8.trans (hb.mono B8.size)
        have l1 : 1 ≤ (⟨(Lib.decDigits u).toArray⟩ : ByteArray).size := by rw [tail_size, Lib.decDigits_length]; exact Lib.nDigits_pos u
        clear hb g2 I8 B8
        go_wp2_with fail
        rw [tail1 (Lib.decDigits u)]
        refine (writeStringC w2.heap.size w2.heap.size _ ⟨((Lib.decDigits u).drop 1).toArray⟩ W5 I9 (by have h1 := dec_len20 (n := u) (by omega); have h2 := sgB_len true; have h3 := dec_len P8.out (Nat.lt_of_le_of_lt (Nat.div_le_self V (1000000000 ^ (j + 1))) VD.out); rw [Lib.byteCells_length, tail_size, List.length_append, List.length_drop]; omega) B9.size).mono ?_
        rintro e W6 ⟨rfl, I6, hb⟩
        have P9 : Hid (0 < V / 1000000000 ^ j) := by
          show _ < _
          have e : V / 1000000000 ^ (j + 1) = V / 1000000000 ^ j / 1000000000 := by rw [Nat.pow_succ, Nat.div_div_eq_div_mul]
          have := P8.out
          rw [e] at this
          omega
        have I7 : IsB w2.heap.size w2.heap.size (Lib.byteCells (sgB true ++ Lib.decDigits (V / 1000000000 ^ j))) W6 := by
          rw [dec_group P8.out, RE.out, UE.out, ← List.append_assoc, Lib.byteCells_append]
          exact I6
        replace B9 := B9.trans hb
        clear I6 I9 hb P8 l1
        go_wp2
        go_roundw
        case rel => exact ⟨j, by omega, by go_num, I7, P9, B9⟩
        case measure => simp [intOf]
theorem implNumText (g : Bool) (a : Option Addr) (c : Nat) (xs : List Int) (w : World) (h : Sees w a c xs) (HT : ∀ w', Below w.heap.size w w' → Pow10 w') :
    Calls Tryd.prog 10 #[.agg #[.bool g, .slice a xs.length c]] w fun e w' => e = .returned (.string (numT (tk g xs))) ∧ Below w.heap.size w w' := by
  by_cases h0 : tkL g xs = []
  · exact implNumText0 g a c xs w h h0
  · exact implNumText1 g a c xs w h h0 HT
end Go.Proofs.YtccdihglpobnmaaDoor
