/- The shape of the first entry with an Id: of both sides. -/
import Derived.Test.YtakfjpenpnjlhaaEnL
import Derived.Test.YtakfjpenpnjlhaaTrnI
import Derived.Test.YtakfjpenpnjlhaaCpyS
namespace Go.Proofs.Ytakfjpenpnjlhaa
open Go.RowKit

/-- The kind, the rows, and whether there is such an entry. -/
def fnV (es : List En) (x : Int) : Int × List (List (Int × Int)) × Bool := ((es.find? (fun e => e.1 == x)).map (fun e => (e.2.1, e.2.2, true))).getD (0, [], false)
theorem fnV_hit : ∀ (es : List En) (x : Int) (j : Nat), j < es.length → (∀ i, i < j → (enA es i).1 ≠ x) → (enA es j).1 = x → fnV es x = ((enA es j).2.1, (enA es j).2.2, true)
  | [], _, _, h, _, _ => absurd h (by simp)
  | e :: es, x, 0, _, _, h => by
    have q : e.1 = x := h
    unfold fnV
    rw [List.find?_cons_of_pos (by simpa using q)]
    rfl
  | e :: es, x, j + 1, hj, hn, h => by
    have q : e.1 ≠ x := hn 0 (by omega)
    have ih := fnV_hit es x j (by simpa using hj) (fun i hi => hn (i + 1) (by omega)) h
    unfold fnV at ih ⊢
    rw [List.find?_cons_of_neg (by simpa using q)]
    exact ih
theorem fnV_none : ∀ (es : List En) (x : Int), (∀ i, i < es.length → (enA es i).1 ≠ x) → fnV es x = (0, [], false)
  | [], _, _ => rfl
  | e :: es, x, hn => by
    have q : e.1 ≠ x := hn 0 (by simp)
    have ih := fnV_none es x (fun i hi => hn (i + 1) (by simpa using hi))
    unfold fnV at ih ⊢
    rw [List.find?_cons_of_neg (by simpa using q)]
    exact ih
theorem fnV_upto (es : List En) (x : Int) (hs : uptoE es es.length ≤ 1048576) : upto (fnV es x).2.1 (fnV es x).2.1.length ≤ 1048576 := by
  by_cases h : ∃ j, j < es.length ∧ (enA es j).1 = x
  · obtain ⟨j, hj, hn⟩ : ∃ j, (j < es.length ∧ (enA es j).1 = x) ∧ ∀ i, i < j → (enA es i).1 ≠ x := by
      obtain ⟨j, hj⟩ := h
      induction j using Nat.strongRecOn with
      | ind j ih =>
        by_cases q : ∃ i, i < j ∧ (enA es i).1 = x
        · obtain ⟨i, hi, e⟩ := q
          exact ih i hi ⟨by omega, e⟩
        · exact ⟨j, hj, fun i hi e => q ⟨i, hi, e⟩⟩
    rw [fnV_hit es x j hj.1 hn hj.2]
    have := enRow_le es hj.1
    show upto (enA es j).2.2 (enA es j).2.2.length ≤ _
    omega
  · rw [fnV_none es x (fun i hi e => h ⟨i, hi, e⟩)]
    simp [upto]

set_option maxRecDepth 20000 in
set_option maxHeartbeats 2000000 in
theorem implFind (a : Option Addr) (c : Nat) (es : List En) (x : Int) (w : World) (h : SeesEn w a c es) (hs : uptoE es es.length ≤ 1048576) :
    Calls Try.prog 17 #[.slice a es.length c, .int .i64 x] w fun e w' => ∃ k v vs rs r, e = .returned (.tuple #[.agg #[.int .i64 k, v], .bool r]) ∧ (k, rs, r) = fnV es x ∧ ShR w.heap.size w' v vs rs ∧ Below w.heap.size w w' := by
  have hm := h.max
  have hf := h.fits
  unfold maxLen at hm
  have B0 := below1 w (.cells #[.int .i64 0, .slice none 0 0] 31)
  have V0 := Box2.new w (lo := w.heap.size) (Nat.le_refl _) (.int .i64 0) (.slice none 0 0) 31
  have HS : Hid (uptoE es es.length ≤ 1048576) := hs
  clear hs
  go_enter Try.func17, Try.ntmps17
  go_wp2
  generalize w.alloc (.cells #[.int .i64 0, .slice none 0 0] 31) = W0 at *
  go_loopw [10] (fun s10 wr => ∃ (j : Nat), j ≤ es.length ∧ s10 = .int .i64 j ∧ Hid (∀ i, i < j → (enA es i).1 ≠ x) ∧ Hid (Box2 w.heap.size wr w.heap.size (.int .i64 0) (.slice none 0 0)) ∧ Hid (Below w.heap.size w wr)) (fun s10 _ => es.length - (intOf s10).toNat)
  case atStart => exact ⟨0, Nat.zero_le _, rfl, fun i hi => absurd hi (by omega), V0, B0⟩
  case round =>
    clear V0 B0
    obtain ⟨j, hj, rfl, hn, V, B⟩ := hrel
    rename World => wr
    by_cases hlt : j < es.length
    · obtain ⟨b, off, rfl, hc⟩ := (h.below B.out).cells (by intro e; simp [e] at hlt)
      obtain ⟨g0, g1, a', c', g2, sp⟩ := hc j hlt
      have HH : Hid ((enA es j).1 = x → fnV es x = ((enA es j).2.1, (enA es j).2.2, true)) := fun q => fnV_hit es x j hlt hn.out q
      have HR : Hid (upto (enA es j).2.2 (enA es j).2.2.length ≤ 1048576) := by show _ ≤ _; have := enRow_le es hlt; have := HS.out; omega
      have HM : Hid ((enA es j).1 ≠ x → ∀ i, i < j + 1 → (enA es i).1 ≠ x) := fun q i hi => by
        rcases Nat.lt_or_ge i j with k | k
        · exact hn.out i k
        · rw [show i = j by omega]; exact q
      clear hc hn
      generalize enA es j = en at *
      obtain ⟨ix, n, rs⟩ := en
      dsimp only at g0 g1 g2 sp HH HR HM
      have bn := below1 wr (.cells #[.int .i64 ix, .int .i64 n, .slice a' rs.length c'] 59)
      have k0 := cell_new wr #[.int .i64 ix, .int .i64 n, .slice a' rs.length c'] 59 0 rfl
      have k1 := cell_new wr #[.int .i64 ix, .int .i64 n, .slice a' rs.length c'] 59 1 rfl
      have k2 := cell_new wr #[.int .i64 ix, .int .i64 n, .slice a' rs.length c'] 59 2 rfl
      replace sp := sp.below bn
      replace B := B.out.trans (bn.mono B.out.size)
      replace V := V.out.below bn
      have hlw := V.lt
      by_cases hx : ix = x
      · have F := HH.out hx
        have F' : Hid (fnV es x = (n, rs, true)) := F
        have hxx : (ix == x) = true := by simpa using hx
        clear HH HM F hx bn
        go_wp2_with fail
        generalize wr.alloc (.cells #[.int .i64 ix, .int .i64 n, .slice a' rs.length c'] 59) = W1 at *
        generalize wr.heap.size = q1 at *
        refine (copied_any n a' c' rs _ sp HR.out).mono ?_
        rintro e w1 ⟨v, vs, rfl, R, hb⟩
        obtain ⟨va, vc, rfl, _, _⟩ := R.shape
        have B1 := B.trans (hb.mono B.size)
        have VR := V.below hb
        have gq : w1.grownBy ((w1.setCell ⟨w.heap.size, 0, none⟩ (.int .i64 n)).setCell ⟨w.heap.size, 1, none⟩ (.slice va vs.length vc)) (some w.heap.size) := grownBy_setCell (p := ⟨w.heap.size, 1, none⟩) (grownBy_setCell (p := ⟨w.heap.size, 0, none⟩) (grownBy_refl _ _) rfl _) rfl _
        have RS : Hid (ShR w.heap.size ((w1.setCell ⟨w.heap.size, 0, none⟩ (.int .i64 n)).setCell ⟨w.heap.size, 1, none⟩ (.slice va vs.length vc)) (.slice va vs.length vc) vs rs) := (R.drawn gq (by omega)).base (by omega)
        have E := Box2.chain B1 VR (.int .i64 n) (.slice va vs.length vc)
        have Z := VR.put (.int .i64 n) (.slice va vs.length vc)
        obtain ⟨z0, z1, _, _⟩ := id Z
        obtain ⟨d0, d1, df, _⟩ := id VR
        clear R B V hb B1 gq sp k0 k1 k2 g0 g1 g2
        go_wp2
        refine bodyPost_ret (v := .tuple #[.agg #[.int .i64 n, .slice va vs.length vc], .bool true]) (by simp [results, Try.results17, go_sem, z0, z1]) rfl ?_
        exact ⟨_, _, vs, rs, _, rfl, F'.out.symm, RS.out, E⟩
      · have HN : Hid (∀ i, i < j + 1 → (enA es i).1 ≠ x) := HM.out hx
        have hxx : (ix == x) = false := by simpa using hx
        have BH : Hid (Below w.heap.size w (wr.alloc (.cells #[.int .i64 ix, .int .i64 n, .slice a' rs.length c'] 59))) := B
        have VH : Hid (Box2 w.heap.size (wr.alloc (.cells #[.int .i64 ix, .int .i64 n, .slice a' rs.length c'] 59)) w.heap.size (.int .i64 0) (.slice none 0 0)) := V
        clear HH HM hx bn B V sp k0 k1 k2
        go_wp2
        go_roundw
        case rel => exact ⟨j + 1, by omega, by go_num, HN, VH, BH⟩
        case measure => simp [intOf]; omega
    · obtain rfl : j = es.length := by omega
      have F : Hid (fnV es x = (0, [], false)) := fnV_none es x hn.out
      have VR := V.out
      have BR := B.out
      have E := Box2.chain BR VR (.int .i64 0) (.slice none 0 0)
      have Z := VR.put (.int .i64 0) (.slice none 0 0)
      obtain ⟨z0, z1, _, _⟩ := id Z
      obtain ⟨d0, d1, df, _⟩ := id VR
      clear hn V B
      go_wp2
      refine bodyPost_ret (v := .tuple #[.agg #[.int .i64 0, .slice none 0 0], .bool false]) (by simp [results, Try.results17, go_sem, z0, z1]) rfl ?_
      exact ⟨_, _, [], [], _, rfl, F.out.symm, ShR.nil _ _, E⟩

set_option maxRecDepth 20000 in
set_option maxHeartbeats 2000000 in
theorem specFind (g : Nat) (gb tp : Nat → Nat) (es : List En) (x : Int) (w : World) (h : RowEn w g es.length es.length es gb tp) (hs : uptoE es es.length ≤ 1048576) :
    Calls Try.prog 16 #[.slice (some ⟨g, 0, none⟩) es.length es.length, .int .i64 x] w fun e w' => ∃ k v vs rs r, e = .returned (.tuple #[.agg #[.int .i64 k, v], .bool r]) ∧ (k, rs, r) = fnV es x ∧ ShR w.heap.size w' v vs rs ∧ Below w.heap.size w w' := by
  have hm : es.length ≤ 1048576 := by have := uptoE_le es 0 es.length; simp only [uptoE, Nat.zero_add] at this; omega
  have B0 := below1 w (.cells #[.int .i64 0, .slice none 0 0] 31)
  have V0 := Box2.new w (lo := w.heap.size) (Nat.le_refl _) (.int .i64 0) (.slice none 0 0) 31
  have HS : Hid (uptoE es es.length ≤ 1048576) := hs
  clear hs
  go_enter Try.func16, Try.ntmps16
  go_wp2
  generalize w.alloc (.cells #[.int .i64 0, .slice none 0 0] 31) = W0 at *
  go_loopw [6] (fun s6 wr => ∃ (j : Nat), j ≤ es.length ∧ s6 = .int .i64 j ∧ Hid (∀ i, i < j → (enA es i).1 ≠ x) ∧ Hid (wr = W0)) (fun s6 _ => es.length - (intOf s6).toNat)
  case atStart => exact ⟨0, Nat.zero_le _, rfl, fun i hi => absurd hi (by omega), rfl⟩
  case round =>
    obtain ⟨j, hj, rfl, hn, hw⟩ := hrel
    rename World => wr
    have V : Hid (Box2 w.heap.size wr w.heap.size (.int .i64 0) (.slice none 0 0)) := by show Box2 _ _ _ _ _; rw [hw.out]; exact V0
    have B : Hid (Below w.heap.size w wr) := by show Below _ _ _; rw [hw.out]; exact B0
    by_cases hlt : j < es.length
    · obtain ⟨g0, g1, g2, sp, sm, _⟩ := (h.below B.out).c j hlt
      have HH : Hid ((enA es j).1 = x → fnV es x = ((enA es j).2.1, (enA es j).2.2, true)) := fun q => fnV_hit es x j hlt hn.out q
      have HR : Hid (upto (enA es j).2.2 (enA es j).2.2.length ≤ 1048576) := by show _ ≤ _; have := enRow_le es hlt; have := HS.out; omega
      have HM : Hid ((enA es j).1 ≠ x → ∀ i, i < j + 1 → (enA es i).1 ≠ x) := fun q i hi => by
        rcases Nat.lt_or_ge i j with k | k
        · exact hn.out i k
        · rw [show i = j by omega]; exact q
      clear hn
      generalize enA es j = en at *
      obtain ⟨ix, n, rs⟩ := en
      dsimp only at g0 g1 g2 sp sm HH HR HM
      have hlw := V.out.lt
      generalize gb j = gj at *
      by_cases hx : ix = x
      · have F := HH.out hx
        have F' : Hid (fnV es x = (n, rs, true)) := F
        have hxx : (ix == x) = true := by simpa using hx
        clear HH HM F hx
        go_wp2_with fail
        refine (l5CopyR n _ _ rs _ sp.sees sm HR.out).mono ?_
        rintro e w1 ⟨v, vs, rfl, R, hb⟩
        obtain ⟨va, vc, rfl, _, _⟩ := R.shape
        have B1 := B.out.trans (hb.mono B.out.size)
        have VR := V.out.below hb
        have gq : w1.grownBy ((w1.setCell ⟨w.heap.size, 0, none⟩ (.int .i64 n)).setCell ⟨w.heap.size, 1, none⟩ (.slice va vs.length vc)) (some w.heap.size) := grownBy_setCell (p := ⟨w.heap.size, 1, none⟩) (grownBy_setCell (p := ⟨w.heap.size, 0, none⟩) (grownBy_refl _ _) rfl _) rfl _
        have RS : Hid (ShR w.heap.size ((w1.setCell ⟨w.heap.size, 0, none⟩ (.int .i64 n)).setCell ⟨w.heap.size, 1, none⟩ (.slice va vs.length vc)) (.slice va vs.length vc) vs rs) := (R.drawn gq (by omega)).base (by omega)
        have E := Box2.chain B1 VR (.int .i64 n) (.slice va vs.length vc)
        have Z := VR.put (.int .i64 n) (.slice va vs.length vc)
        obtain ⟨z0, z1, _, _⟩ := id Z
        obtain ⟨d0, d1, df, _⟩ := id VR
        clear R B V hb B1 gq sp sm g0 g1 g2 V0 B0
        go_wp2
        refine bodyPost_ret (v := .tuple #[.agg #[.int .i64 n, .slice va vs.length vc], .bool true]) (by simp [results, Try.results16, go_sem, z0, z1]) rfl ?_
        exact ⟨_, _, vs, rs, _, rfl, F'.out.symm, RS.out, E⟩
      · have HN : Hid (∀ i, i < j + 1 → (enA es i).1 ≠ x) := HM.out hx
        have hxx : (ix == x) = false := by simpa using hx
        clear HH HM hx sp sm
        go_wp2
        go_roundw
        case rel => exact ⟨j + 1, by omega, by go_num, HN, hw⟩
        case measure => simp [intOf]; omega
    · obtain rfl : j = es.length := by omega
      have F : Hid (fnV es x = (0, [], false)) := fnV_none es x hn.out
      have VR := V.out
      have BR := B.out
      have E := Box2.chain BR VR (.int .i64 0) (.slice none 0 0)
      have Z := VR.put (.int .i64 0) (.slice none 0 0)
      obtain ⟨z0, z1, _, _⟩ := id Z
      obtain ⟨d0, d1, df, _⟩ := id VR
      clear hn V B V0 B0
      go_wp2
      refine bodyPost_ret (v := .tuple #[.agg #[.int .i64 0, .slice none 0 0], .bool false]) (by simp [results, Try.results16, go_sem, z0, z1]) rfl ?_
      exact ⟨_, _, [], [], _, rfl, F.out.symm, ShR.nil _ _, E⟩
end Go.Proofs.Ytakfjpenpnjlhaa
