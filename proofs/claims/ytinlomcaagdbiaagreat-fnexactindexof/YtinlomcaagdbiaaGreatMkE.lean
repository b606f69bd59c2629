/- Entries of a call's own are marked. -/
import Derived.Test.YtinlomcaagdbiaaGreatEnL
namespace Go.Proofs.YtinlomcaagdbiaaGreat
open Go.RowKit

set_option maxRecDepth 20000 in
set_option maxHeartbeats 1000000 in
theorem markRowsK (b off c lo hi : Nat) (rs : List (List (Int × Int))) (K : Int) (w : World) (h : MarkS lo hi w b off rs) (hb : b < lo) (hc : c ≤ maxLen) (hf : rs.length ≤ c) (hs : upto rs rs.length ≤ 1048576) (K0 : 0 ≤ K) (K1 : K ≤ 100000000) :
  Calls Tryz.prog 26 #[.slice (some ⟨b, off, none⟩) rs.length c, .int .i64 K] w fun e w' => ∃ k : Int, e = .returned (.int .i64 k) ∧ 0 ≤ k ∧ k ≤ K + 2 * (upto rs rs.length : Int) ∧ Puts lo hi w w' := by
 unfold maxLen at hc
 have HS : Hid (upto rs rs.length ≤ 1048576) := hs
 clear hs
 go_enter Tryz.func26, Tryz.ntmps26
 go_wp2
 go_loopw [1, 5] (fun s1 i wr => ∃ (j : Nat) (k : Int), j ≤ rs.length ∧ i = .int .i64 j ∧ s1 = .int .i64 k ∧ 0 ≤ k ∧ k ≤ K + 2 * (upto rs j : Int) ∧ Hid (Puts lo hi w wr)) (fun _ i _ => rs.length - (intOf i).toNat)
 case atStart => exact ⟨0, K, Nat.zero_le _, rfl, rfl, by omega, by omega, Puts.refl _ _ _⟩
 case round =>
  obtain ⟨j, k, hj, rfl, rfl, k0, k1, P⟩ := hrel
  rename World => wr
  by_cases hlt : j < rs.length
  ·have H := P.out (fun W => MarkS lo hi W b off rs) (fun W b' o u q _ r => r.put hb q) h
   obtain ⟨a', c', g, f1, f2, r⟩ := H j hlt
   have hu : upto rs (j + 1) = upto rs j + (rowA rs j).length := rfl
   have hle := upto_le rs (j + 1) (rs.length - (j + 1))
   rw [show j + 1 + (rs.length - (j + 1)) = rs.length by omega] at hle
   have hsz := HS.out
   have HU : Hid (upto rs (j + 1) = upto rs j + (rowA rs j).length) := hu
   have b1 : upto rs j + (rowA rs j).length ≤ 1048576 := by omega
   clear H hu hle hsz
   generalize upto rs j = uj at *
   generalize (rowA rs j).length = m at *
   rcases r with rfl | ⟨b', off', rfl, l1, l2, HA⟩
   ·go_wp2_with fail
    refine (markNone a' c' k _).mono ?_
    rintro e w3 ⟨rfl, rfl⟩
    go_wp2
    go_roundw
    case rel => exact ⟨j + 1, k, by omega, by go_num, rfl, k0, (by rw [HU.out]; omega), P⟩
    case measure => simp [intOf]; omega
   ·go_wp2_with fail
    refine (markPts b' off' c' m k _ HA (by omega) f2 f1 k0 (by omega)).mono ?_
    rintro e w3 ⟨rfl, P3⟩
    have P4 : Hid (Puts lo hi w w3) := P.out.trans (P3.wider l1 (by omega))
    clear P P3 HA
    go_wp2
    go_roundw
    case rel => exact ⟨j + 1, _, by omega, by go_num, rfl, by omega, (by rw [HU.out]; push_cast; omega), P4⟩
    case measure => simp [intOf]; omega
  ·obtain rfl : j = rs.length := by omega
   go_wp2
   go_ret
   exact ⟨_, rfl, k0, k1, P.out⟩

structure MkEn (w : World) (g : Nat) (es : List En) (gb tp : Nat → Nat) : Prop where
 c : ∀ i, i < es.length → (∃ v, w.cell? ⟨g, i * 3, none⟩ = some v) ∧ (∃ v, w.cell? ⟨g, i * 3 + 1, none⟩ = some v) ∧ w.cell? ⟨g, i * 3 + 2, none⟩ = some (.slice (some ⟨gb i, 0, none⟩) (enA es i).2.2.length (enA es i).2.2.length) ∧ MarkS (gb i + 1) (tp i) w (gb i) 0 (enA es i).2.2
 o : ∀ i, i < es.length → g < gb i ∧ gb i < tp i
 p : ∀ i k, i < k → k < es.length → tp i ≤ gb k
 fr : ∀ o, w.frozen? ⟨g, o, none⟩ = false
 lt : g < w.heap.size
theorem RowEn.marks {w : World} {g : Nat} {es : List En} {gb tp : Nat → Nat} (h : RowEn w g es.length es.length es gb tp) : MkEn w g es gb tp :=
 ⟨fun i hi => by obtain ⟨h0, h1, h2, _, _, h5⟩ := h.c i hi; exact ⟨⟨_, h0⟩, ⟨_, h1⟩, h2, h5⟩, fun i hi => ⟨(h.o i hi).1, (h.o i hi).2.1⟩, h.p, h.fr, h.lt⟩
theorem MkEn.below {w w' : World} {g : Nat} {es : List En} {gb tp : Nat → Nat} (h : MkEn w g es gb tp) (hb : Below w.heap.size w w') : MkEn w' g es gb tp := by
 obtain ⟨q, r⟩ := at_block hb h.lt
 exact ⟨fun i hi => by obtain ⟨⟨v0, h0⟩, ⟨v1, h1⟩, h2, h5⟩ := h.c i hi; exact ⟨⟨v0, (q _).trans h0⟩, ⟨v1, (q _).trans h1⟩, (q _).trans h2, h5.below hb⟩, h.o, h.p, fun o => (r o).trans (h.fr o), Nat.lt_of_lt_of_le h.lt hb.size⟩
theorem MkEn.put {w : World} {g o : Nat} {es : List En} {gb tp : Nat → Nat} {u : Value} (h : MkEn w g es gb tp) (ho : o % 3 ≠ 2) : MkEn (w.setCell ⟨g, o, none⟩ u) g es gb tp := by
 have any : ∀ k, (∃ v, w.cell? ⟨g, k, none⟩ = some v) → ∃ v, (w.setCell ⟨g, o, none⟩ u).cell? ⟨g, k, none⟩ = some v := fun k ⟨v, hv⟩ => by
  by_cases e : o = k
  ·subst e; exact ⟨u, cell_same hv u⟩
  ·exact ⟨v, (cell_other (.inr e) u).trans hv⟩
 exact ⟨fun i hi => by
  obtain ⟨h0, h1, h2, h5⟩ := h.c i hi
  have := (h.o i hi).1
  exact ⟨any _ h0, any _ h1, (cell_other (.inr (by omega)) u).trans h2, h5.far (by omega)⟩, h.o, h.p, fun i => (World.frozen?_setCell ..).trans (h.fr i), by simpa using h.lt⟩
theorem MkEn.puts {w w' : World} {g j : Nat} {es : List En} {gb tp : Nat → Nat} (h : MkEn w g es gb tp) (hj : j < es.length) (P : Puts (gb j + 1) (tp j) w w') : MkEn w' g es gb tp := by
 refine P (fun W => MkEn W g es gb tp) (fun W b o u h1 h2 q => ?_) h
 have oj := q.o j hj
 refine ⟨fun i hi => ?_, q.o, q.p, fun i => (World.frozen?_setCell ..).trans (q.fr i), by simpa using q.lt⟩
 obtain ⟨⟨v0, e0⟩, ⟨v1, e1⟩, e2, e5⟩ := q.c i hi
 refine ⟨⟨v0, (cell_other (.inl (by omega)) u).trans e0⟩, ⟨v1, (cell_other (.inl (by omega)) u).trans e1⟩, (cell_other (.inl (by omega)) u).trans e2, e5.far ?_⟩
 have oi := q.o i hi
 rcases Nat.lt_trichotomy i j with k | k | k
 ·have := q.p i j k hj; omega
 ·subst k; omega
 ·have := q.p j i k hi; omega

set_option maxRecDepth 20000 in
set_option maxHeartbeats 2000000 in
theorem markEntries (g hi : Nat) (es : List En) (gb tp : Nat → Nat) (w : World) (h : MkEn w g es gb tp) (hh : ∀ i, i < es.length → tp i ≤ hi) (hg : g < hi) (hs : uptoE es es.length ≤ 1048576) :
  Calls Tryz.prog 10 #[.slice (some ⟨g, 0, none⟩) es.length es.length, .int .i64 1] w fun e w' => ∃ k : Int, e = .returned (.int .i64 k) ∧ 0 ≤ k ∧ Puts g hi w w' := by
 have HS : Hid (uptoE es es.length ≤ 1048576) := hs
 have hm : es.length ≤ 1048576 := by have := uptoE_le es 0 es.length; simp only [uptoE, Nat.zero_add] at this; omega
 have HH : Hid (∀ i, i < es.length → tp i ≤ hi) := hh
 clear hs hh
 go_enter Tryz.func10, Tryz.ntmps10
 go_wp2
 go_loopw [1, 5] (fun s1 i wr => ∃ (j : Nat) (k : Int), j ≤ es.length ∧ i = .int .i64 j ∧ s1 = .int .i64 k ∧ 0 ≤ k ∧ Hid (k ≤ 1 + 2 * (j : Int) + 2 * (uptoE es j : Int)) ∧ Hid (MkEn wr g es gb tp) ∧ Hid (Puts g hi w wr)) (fun _ i _ => es.length - (intOf i).toNat)
 case atStart => exact ⟨0, 1, Nat.zero_le _, rfl, rfl, by omega, (by show _ ≤ _; omega), h, Puts.refl _ _ _⟩
 case round =>
  obtain ⟨j, k, hj, rfl, rfl, k0, k1, M, P⟩ := hrel
  rename World => wr
  by_cases hlt : j < es.length
  ·have M1 := M.out.put (o := j * 3) (u := .int .i64 k) (by omega)
   have M2 := M1.put (o := j * 3 + 1) (u := .int .i64 (k + 1)) (by omega)
   obtain ⟨⟨v0, c0⟩, _, _, _⟩ := M.out.c j hlt
   obtain ⟨_, ⟨v1, c1⟩, _, _⟩ := M1.c j hlt
   obtain ⟨_, _, c2, MS⟩ := M2.c j hlt
   have f0 := M.out.fr
   have f1 := M1.fr
   have P2 : Hid (Puts g hi w ((wr.setCell ⟨g, j * 3, none⟩ (.int .i64 k)).setCell ⟨g, j * 3 + 1, none⟩ (.int .i64 (k + 1)))) := (P.out.put (Nat.le_refl g) hg (j * 3) (.int .i64 k)).put (Nat.le_refl g) hg (j * 3 + 1) (.int .i64 (k + 1))
   have M2' : Hid (MkEn ((wr.setCell ⟨g, j * 3, none⟩ (.int .i64 k)).setCell ⟨g, j * 3 + 1, none⟩ (.int .i64 (k + 1))) g es gb tp) := M2
   have oj := M.out.o j hlt
   have hrow := enRow_le es hlt
   have HR : Hid (upto (enA es j).2.2 (enA es j).2.2.length ≤ 1048576) := by show _ ≤ _; have := HS.out; omega
   have HE : Hid (uptoE es (j + 1) = uptoE es j + upto (enA es j).2.2 (enA es j).2.2.length) := rfl
   have kb : k ≤ 50000000 := by
    have a1 := k1.out
    have a2 := uptoE_le es j (es.length - j)
    rw [show j + (es.length - j) = es.length by omega] at a2
    have := HS.out
    omega
   have HT := HH.out j hlt
   have hgb : g ≤ gb j + 1 := by omega
   have HTP : Hid (tp j ≤ hi) := HT
   have HRL : (enA es j).2.2.length ≤ maxLen := by
    have a1 := upto_le (enA es j).2.2 0 (enA es j).2.2.length
    simp only [upto, Nat.zero_add] at a1
    have := HR.out
    unfold maxLen
    omega
   clear M1 M2 M P hrow HT oj
   have MSH : Hid (MarkS (gb j + 1) (tp j) ((wr.setCell ⟨g, j * 3, none⟩ (.int .i64 k)).setCell ⟨g, j * 3 + 1, none⟩ (.int .i64 (k + 1))) (gb j) 0 (enA es j).2.2) := MS
   have HRH : Hid ((enA es j).2.2.length ≤ maxLen) := HRL
   clear MS HRL
   generalize (enA es j).2.2 = rs at *
   go_wp2_with fail
   refine (markRowsK (gb j) 0 rs.length (gb j + 1) (tp j) rs (k + 1 + 1) _ MSH.out (by omega) HRH.out (Nat.le_refl _) HR.out (by omega) (by omega)).mono ?_
   rintro e w3 ⟨k3, rfl, k30, k31, P3⟩
   have P4 : Hid (Puts g hi w w3) := P2.out.trans (P3.wider hgb HTP.out)
   have M4 : Hid (MkEn w3 g es gb tp) := M2'.out.puts hlt P3
   have K4 : Hid (k3 ≤ 1 + 2 * ((j + 1 : Nat) : Int) + 2 * (uptoE es (j + 1) : Int)) := by show _ ≤ _; rw [HE.out]; have := k1.out; push_cast; omega
   clear P3 MSH P2 M2' c0 c1 c2 f0 f1 k31
   go_wp2
   go_roundw
   case rel => exact ⟨j + 1, k3, by omega, by go_num, rfl, k30, K4, M4, P4⟩
   case measure => simp [intOf]; omega
  ·obtain rfl : j = es.length := by omega
   go_wp2
   go_ret
   exact ⟨_, rfl, k0, P.out⟩
end Go.Proofs.YtinlomcaagdbiaaGreat
