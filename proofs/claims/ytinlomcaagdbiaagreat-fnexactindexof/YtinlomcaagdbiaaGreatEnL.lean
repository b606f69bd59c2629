import Derived.Test.YtinlomcaagdbiaaGreatShapeM
import Derived.Test.YtinlomcaagdbiaaGreatPtsL
/- Entries in memory: the laws' helpers on them (sizes, copies, whether two lists are equal, marks). -/
namespace Go.Proofs.YtinlomcaagdbiaaGreat
open Go.RowKit

abbrev En := Int × Int × List (List (Int × Int))
def enA (es : List En) (i : Nat) : En := es[i]?.getD (0, 0, [])
structure SeesEn (w : World) (a : Option Addr) (cap : Nat) (es : List En) : Prop where
 fits : es.length ≤ cap
 max : cap ≤ maxLen
 cells : es ≠ [] → ∃ b off, a = some ⟨b, off, none⟩ ∧ ∀ i, i < es.length → w.cell? ⟨b, off + i * 3, none⟩ = some (.int .i64 (enA es i).1) ∧ w.cell? ⟨b, off + i * 3 + 1, none⟩ = some (.int .i64 (enA es i).2.1) ∧ ∃ a' c', w.cell? ⟨b, off + i * 3 + 2, none⟩ = some (.slice a' (enA es i).2.2.length c') ∧ SeesS w a' c' (enA es i).2.2
theorem SeesEn.below {w w' : World} {a : Option Addr} {cap : Nat} {es : List En} (h : SeesEn w a cap es) (hb : Below w.heap.size w w') : SeesEn w' a cap es :=
 ⟨h.fits, h.max, fun hn => by
  obtain ⟨b, off, ha, hc⟩ := h.cells hn
  exact ⟨b, off, ha, fun i hi => by obtain ⟨h0, h1, a', c', h2, h3⟩ := hc i hi; exact ⟨bat hb h0, bat hb h1, a', c', bat hb h2, h3.below hb⟩⟩⟩
def uptoE (es : List En) : Nat → Nat
 | 0 => es.length
 | j + 1 => uptoE es j + upto (enA es j).2.2 (enA es j).2.2.length
theorem uptoE_le (es : List En) (j d : Nat) : uptoE es j ≤ uptoE es (j + d) := by
 induction d with
 | zero => exact Nat.le_refl _
 | succ d ih => rw [← Nat.add_assoc]; simp only [uptoE]; omega
theorem enRow_le (es : List En) {i n : Nat} (h : i < n) : upto (enA es i).2.2 (enA es i).2.2.length + es.length ≤ uptoE es n := by
 have h1 := uptoE_le es (i + 1) (n - (i + 1))
 rw [show i + 1 + (n - (i + 1)) = n by omega] at h1
 have h2 := uptoE_le es 0 i
 simp only [uptoE, Nat.zero_add] at h1 h2
 omega

set_option maxHeartbeats 1000000 in
theorem szEntry_any (id k : Int) (a : Option Addr) (c : Nat) (rs : List (List (Int × Int))) (left : Int) (w : World) (h : SeesS w a c rs) (hl : 0 ≤ left ∧ left ≤ 1048576) :
  Calls Tryz.prog 13 #[.agg #[.int .i64 id, .int .i64 k, .slice a rs.length c], .int .i64 left] w fun e w' => ∃ z : Int, e = .returned (.int .i64 z) ∧ (z = -1 ∨ (0 ≤ z ∧ z + (upto rs rs.length : Nat) = left)) ∧ Below w.heap.size w w' := by
 have bn := below1 w (.cells #[.int .i64 id, .int .i64 k, .slice a rs.length c] 46)
 go_enter Tryz.func13, Tryz.ntmps13
 go_wp2_with fail
 refine (szShape_any k a c rs left _ (h.below bn) hl).mono ?_
 rintro e w1 ⟨z, rfl, hz, hb⟩
 replace bn := bn.trans (hb.mono bn.size)
 have HZ : Hid (z = -1 ∨ (0 ≤ z ∧ z + (upto rs rs.length : Nat) = left)) := hz
 clear hb
 by_cases h0 : z < 0
 ·clear hz
  go_wp2
  go_ret
  exact ⟨-1, rfl, .inl rfl, bn⟩
 ·have h0' : 0 ≤ z := by omega
  clear hz
  go_wp2
  go_ret
  exact ⟨z, rfl, HZ.out, bn⟩

set_option maxRecDepth 20000 in
set_option maxHeartbeats 1000000 in
theorem szEntries (a : Option Addr) (c : Nat) (es : List En) (left : Int) (w : World) (h : SeesEn w a c es) (hl : 0 ≤ left ∧ left ≤ 1048576) :
  Calls Tryz.prog 4 #[.slice a es.length c, .int .i64 left] w fun e w' => ∃ z : Int, e = .returned (.int .i64 z) ∧ (z = -1 ∨ (0 ≤ z ∧ z + (uptoE es es.length : Nat) = left)) ∧ Below w.heap.size w w' := by
 obtain ⟨h1, h2⟩ := hl
 have hm := h.max
 have hf := h.fits
 unfold maxLen at hm
 by_cases hc : left - es.length < 0
 ·go_enter Tryz.func4, Tryz.ntmps4
  go_wp2
  go_ret
  exact ⟨-1, rfl, .inl rfl, Below.refl _ _⟩
 ·have hc' : 0 ≤ left - es.length := by omega
  go_enter Tryz.func4, Tryz.ntmps4
  go_wp2
  go_loopw [1, 5] (fun s1 s5 wr => ∃ (j : Nat) (z : Int), j ≤ es.length ∧ s5 = .int .i64 j ∧ s1 = .int .i64 z ∧ 0 ≤ z ∧ z ≤ 1048576 ∧ Hid (z + (uptoE es j : Nat) = left) ∧ Below w.heap.size w wr) (fun _ s5 _ => es.length - (intOf s5).toNat)
  case atStart => exact ⟨0, _, Nat.zero_le _, rfl, rfl, hc', by omega, (by show _ = _; simp only [uptoE]; omega), Below.refl _ _⟩
  case round =>
   obtain ⟨j, z, hj, rfl, rfl, z0, z1, he, B⟩ := hrel
   rename World => wr
   by_cases hlt : j < es.length
   ·obtain ⟨b, off, rfl, hc⟩ := (h.below B).cells (by intro e; simp [e] at hlt)
    obtain ⟨g0, g1, a', c', g2, sp⟩ := hc j hlt
    have HE : Hid (uptoE es (j + 1) = uptoE es j + upto (enA es j).2.2 (enA es j).2.2.length) := rfl
    clear hc
    generalize enA es j = en at *
    obtain ⟨id, k, rs⟩ := en
    dsimp only at g0 g1 g2 sp HE
    go_wp2_with fail
    refine (szEntry_any id k a' c' rs z _ sp ⟨z0, z1⟩).mono ?_
    rintro e w2 ⟨y, rfl, hy, hb⟩
    replace B := B.trans (hb.mono B.size)
    clear hb g0 g1 g2 sp
    rcases hy with rfl | ⟨y0, hy⟩
    ·go_wp2
     go_ret
     exact ⟨-1, rfl, .inl rfl, B⟩
    ·have HY : Hid (y + (uptoE es (j + 1) : Nat) = left) := by have := he.out; have := HE.out; show _ = _; omega
     have y1 : y ≤ 1048576 := by omega
     have yn : ¬ y < 0 := by omega
     clear hy he HE
     go_wp2
     go_roundw
     case rel => exact ⟨j + 1, y, by omega, by go_num, rfl, y0, y1, HY, B⟩
     case measure => simp [intOf]; omega
   ·obtain rfl : j = es.length := by omega
    have HE := he
    clear he
    go_wp2
    go_ret
    exact ⟨z, rfl, .inr ⟨z0, HE.out⟩, B⟩

set_option maxRecDepth 20000 in
set_option maxHeartbeats 1000000 in
theorem toEntryE (id k : Int) (a : Option Addr) (cap : Nat) (rs : List (List (Int × Int))) (w : World) (h : SeesS w a cap rs) (hs : upto rs rs.length ≤ 1048576) :
  Calls Tryz.prog 17 #[.agg #[.int .i64 id, .int .i64 k, .slice a rs.length cap]] w fun e w' => e = .returned (.agg #[.int .i64 id, .int .i64 k, .slice (some ⟨w.heap.size + 6, 0, none⟩) rs.length rs.length]) ∧ OwnS (w.heap.size + 6) w' (some ⟨w.heap.size + 6, 0, none⟩) rs.length rs ∧ Below w.heap.size w w' ∧ Somes w' (some ⟨w.heap.size + 6, 0, none⟩) rs.length ∧ w.heap.size + 6 < w'.heap.size := by
 have B := below3 w (.cells #[.int .i64 id, .int .i64 k, .slice a rs.length cap] 46) (.cells #[.int .i64 0, .int .i64 0, .slice none 0 0] 52) (.cells #[.int .i64 id, .int .i64 0, .slice none 0 0] 52)
 have HS : Hid (upto rs rs.length ≤ 1048576) := hs
 clear hs
 have zz : (((w.alloc (.cells #[.int .i64 id, .int .i64 k, .slice a rs.length cap] 46)).alloc (.cells #[.int .i64 0, .int .i64 0, .slice none 0 0] 52)).alloc (.cells #[.int .i64 id, .int .i64 0, .slice none 0 0] 52)).heap.size = w.heap.size + 3 := by simp
 have c1 : ∀ i v, (#[Value.int .i64 0, .int .i64 0, .slice none 0 0] : Array Value)[i]? = some v → (((w.alloc (.cells #[.int .i64 id, .int .i64 k, .slice a rs.length cap] 46)).alloc (.cells #[.int .i64 0, .int .i64 0, .slice none 0 0] 52)).alloc (.cells #[.int .i64 id, .int .i64 0, .slice none 0 0] 52)).cell? ⟨w.heap.size + 1, i, none⟩ = some v := fun i v hv => by
  have := bat (below1 ((w.alloc (.cells #[.int .i64 id, .int .i64 k, .slice a rs.length cap] 46)).alloc (.cells #[.int .i64 0, .int .i64 0, .slice none 0 0] 52)) (.cells #[.int .i64 id, .int .i64 0, .slice none 0 0] 52)) (cell_new (w.alloc (.cells #[.int .i64 id, .int .i64 k, .slice a rs.length cap] 46)) #[.int .i64 0, .int .i64 0, .slice none 0 0] 52 i hv)
  simpa using this
 have c2 : ∀ i v, (#[Value.int .i64 id, .int .i64 0, .slice none 0 0] : Array Value)[i]? = some v → (((w.alloc (.cells #[.int .i64 id, .int .i64 k, .slice a rs.length cap] 46)).alloc (.cells #[.int .i64 0, .int .i64 0, .slice none 0 0] 52)).alloc (.cells #[.int .i64 id, .int .i64 0, .slice none 0 0] 52)).cell? ⟨w.heap.size + 2, i, none⟩ = some v := fun i v hv => by
  have := cell_new ((w.alloc (.cells #[.int .i64 id, .int .i64 k, .slice a rs.length cap] 46)).alloc (.cells #[.int .i64 0, .int .i64 0, .slice none 0 0] 52)) #[.int .i64 id, .int .i64 0, .slice none 0 0] 52 i hv
  simpa using this
 have f1 : ∀ o, (((w.alloc (.cells #[.int .i64 id, .int .i64 k, .slice a rs.length cap] 46)).alloc (.cells #[.int .i64 0, .int .i64 0, .slice none 0 0] 52)).alloc (.cells #[.int .i64 id, .int .i64 0, .slice none 0 0] 52)).frozen? ⟨w.heap.size + 1, o, none⟩ = false := fun o => by
  have q := frozen_new (w.alloc (.cells #[.int .i64 id, .int .i64 k, .slice a rs.length cap] 46)) #[.int .i64 0, .int .i64 0, .slice none 0 0] 52 o
  rw [World.size_alloc] at q
  exact ((below1 ((w.alloc (.cells #[.int .i64 id, .int .i64 k, .slice a rs.length cap] 46)).alloc (.cells #[.int .i64 0, .int .i64 0, .slice none 0 0] 52)) (.cells #[.int .i64 id, .int .i64 0, .slice none 0 0] 52)).frozen (p := ⟨w.heap.size + 1, o, none⟩) (by simp)).trans q
 have f2 : ∀ o, (((w.alloc (.cells #[.int .i64 id, .int .i64 k, .slice a rs.length cap] 46)).alloc (.cells #[.int .i64 0, .int .i64 0, .slice none 0 0] 52)).alloc (.cells #[.int .i64 id, .int .i64 0, .slice none 0 0] 52)).frozen? ⟨w.heap.size + 2, o, none⟩ = false := fun o => by
  have := frozen_new ((w.alloc (.cells #[.int .i64 id, .int .i64 k, .slice a rs.length cap] 46)).alloc (.cells #[.int .i64 0, .int .i64 0, .slice none 0 0] 52)) #[.int .i64 id, .int .i64 0, .slice none 0 0] 52 o
  simpa using this
 go_enter Tryz.func17, Tryz.ntmps17
 go_wp2_with fail
 refine (toShapeE k a cap rs _ (h.below B) HS.out).mono ?_
 rintro e w3 ⟨rfl, O3, hb, M3, L3⟩
 have r0 := bat hb (c1 0 _ rfl)
 have r1 := bat hb (c1 1 _ rfl)
 have r2 := bat hb (c1 2 _ rfl)
 have q0 := bat hb (c2 0 _ rfl)
 have q1 := bat hb (c2 1 _ rfl)
 have q2 := bat hb (c2 2 _ rfl)
 have rf := fun o => (hb.frozen (p := ⟨w.heap.size + 1, o, none⟩) (by rw [zz]; dsimp only; omega)).trans (f1 o)
 have qf := fun o => (hb.frozen (p := ⟨w.heap.size + 2, o, none⟩) (by rw [zz]; dsimp only; omega)).trans (f2 o)
 replace B := B.trans (hb.mono B.size)
 rw [zz] at O3 M3 L3 ⊢
 clear hb h zz c1 c2 f1 f2
 have O4 := (((((O3.put (g := w.heap.size + 2) (by omega) 1 (.int .i64 k)).put (g := w.heap.size + 2) (by omega) 2 (.slice (some ⟨w.heap.size + 6, 0, none⟩) rs.length rs.length)).put (g := w.heap.size + 1) (by omega) 0 (.int .i64 id)).put (g := w.heap.size + 1) (by omega) 1 (.int .i64 k)).put (g := w.heap.size + 1) (by omega) 2 (.slice (some ⟨w.heap.size + 6, 0, none⟩) rs.length rs.length))
 have M4 : Hid (Somes _ (some ⟨w.heap.size + 6, 0, none⟩) rs.length) := (((((M3.put (g := w.heap.size + 2) (by omega) 1 (.int .i64 k)).put (g := w.heap.size + 2) (by omega) 2 (.slice (some ⟨w.heap.size + 6, 0, none⟩) rs.length rs.length)).put (g := w.heap.size + 1) (by omega) 0 (.int .i64 id)).put (g := w.heap.size + 1) (by omega) 1 (.int .i64 k)).put (g := w.heap.size + 1) (by omega) 2 (.slice (some ⟨w.heap.size + 6, 0, none⟩) rs.length rs.length))
 have B4 := (((((B.setCell (p := ⟨w.heap.size + 2, 1, none⟩) (by dsimp only; omega) (.int .i64 k)).setCell (p := ⟨w.heap.size + 2, 2, none⟩) (by dsimp only; omega) (.slice (some ⟨w.heap.size + 6, 0, none⟩) rs.length rs.length)).setCell (p := ⟨w.heap.size + 1, 0, none⟩) (by dsimp only; omega) (.int .i64 id)).setCell (p := ⟨w.heap.size + 1, 1, none⟩) (by dsimp only; omega) (.int .i64 k)).setCell (p := ⟨w.heap.size + 1, 2, none⟩) (by dsimp only; omega) (.slice (some ⟨w.heap.size + 6, 0, none⟩) rs.length rs.length))
 have L4 : Hid (w.heap.size + 6 < w3.heap.size) := L3
 clear O3 B M3 L3
 go_wp2
 exact bodyPost_ret (v := .agg #[.int .i64 id, .int .i64 k, .slice (some ⟨w.heap.size + 6, 0, none⟩) rs.length rs.length]) (by simp [results, Tryz.results17, go_sem, r0, r1, r2]) rfl ⟨rfl, O4, B4, M4.out, by simpa using L4.out⟩

theorem infoEn : (Tryz.prog.info? 52).map (fun i => (i.zero, i.size, i.bytes)) = some (some (.agg #[.int .i64 0, .int .i64 0, .slice none 0 0]), 3, 40) := by kernel_rfl
theorem MarkS.far {lo hi b off b' o : Nat} {w : World} {rs : List (List (Int × Int))} {u : Value} (h : MarkS lo hi w b off rs) (hb : b ≠ b') : MarkS lo hi (w.setCell ⟨b', o, none⟩ u) b off rs := by
 intro i hi'
 obtain ⟨a', c', g, f1, f2, r⟩ := h i hi'
 refine ⟨a', c', (cell_other (.inl (Ne.symm hb)) u).trans g, f1, f2, ?_⟩
 rcases r with r | ⟨b2, o2, e, l1, l2, H⟩
 ·exact .inl r
 ·exact .inr ⟨b2, o2, e, l1, l2, H.put b' o u⟩

structure RowEn (w : World) (g n j : Nat) (es : List En) (gb tp : Nat → Nat) : Prop where
 c : ∀ i, i < j → w.cell? ⟨g, i * 3, none⟩ = some (.int .i64 (enA es i).1) ∧ w.cell? ⟨g, i * 3 + 1, none⟩ = some (.int .i64 (enA es i).2.1) ∧ w.cell? ⟨g, i * 3 + 2, none⟩ = some (.slice (some ⟨gb i, 0, none⟩) (enA es i).2.2.length (enA es i).2.2.length) ∧ OwnS (gb i) w (some ⟨gb i, 0, none⟩) (enA es i).2.2.length (enA es i).2.2 ∧ Somes w (some ⟨gb i, 0, none⟩) (enA es i).2.2.length ∧ MarkS (gb i + 1) (tp i) w (gb i) 0 (enA es i).2.2
 o : ∀ i, i < j → g < gb i ∧ gb i < tp i ∧ tp i ≤ w.heap.size
 p : ∀ i k, i < k → k < j → tp i ≤ gb k
 u : ∀ i, j ≤ i → i < n → (∃ v, w.cell? ⟨g, i * 3, none⟩ = some v) ∧ (∃ v, w.cell? ⟨g, i * 3 + 1, none⟩ = some v) ∧ ∃ v, w.cell? ⟨g, i * 3 + 2, none⟩ = some v
 fr : ∀ o, w.frozen? ⟨g, o, none⟩ = false
 lt : g < w.heap.size
theorem RowEn.below {w w' : World} {g n j : Nat} {es : List En} {gb tp : Nat → Nat} (h : RowEn w g n j es gb tp) (hb : Below w.heap.size w w') : RowEn w' g n j es gb tp := by
 obtain ⟨q, r⟩ := at_block hb h.lt
 refine ⟨fun i hi => ?_, fun i hi => ?_, h.p, fun i h1 h2 => ?_, fun o => (r o).trans (h.fr o), Nat.lt_of_lt_of_le h.lt hb.size⟩
 ·obtain ⟨h0, h1, h2, h3, h4, h5⟩ := h.c i hi
  exact ⟨(q _).trans h0, (q _).trans h1, (q _).trans h2, h3.below hb, h4.below hb, h5.below hb⟩
 ·obtain ⟨o1, o2, o3⟩ := h.o i hi
  exact ⟨o1, o2, Nat.le_trans o3 hb.size⟩
 ·obtain ⟨⟨v0, e0⟩, ⟨v1, e1⟩, ⟨v2, e2⟩⟩ := h.u i h1 h2
  exact ⟨⟨v0, (q _).trans e0⟩, ⟨v1, (q _).trans e1⟩, ⟨v2, (q _).trans e2⟩⟩
theorem RowEn.start {w : World} {base e g n : Nat} {xs : List Value} (es : List En) (h : w.ownsRow base e 3 (.slice (some ⟨g, 0, none⟩) n n) n xs) : RowEn w g n 0 es (fun _ => 0) (fun _ => 0) := by
 obtain ⟨h1, h2⟩ := h
 rcases h2 with ⟨h2, _⟩ | ⟨g', cap', cur, hv, hb, hh, hc, hm, hs, ht⟩
 ·cases h2
 simp only [Value.slice.injEq, Option.some.injEq, Addr.mk.injEq, and_true] at hv
 obtain ⟨rfl, _, rfl⟩ := hv
 have get : ∀ k, k < n * 3 → ∃ v, w.cell? ⟨g, k, none⟩ = some v := fun k hk => by
  rw [cell_of_row w g k cur e (0, 0) hh]
  exact ⟨cur[k]'(by omega), Array.getElem?_eq_getElem (by omega)⟩
 refine ⟨fun i hi => absurd hi (by omega), fun i hi => absurd hi (by omega), fun i k _ hk => absurd hk (by omega), fun k _ hk => ⟨get _ (by omega), get _ (by omega), get _ (by omega)⟩, fun o => by simp [World.frozen?, hh], ?_⟩
 rcases Nat.lt_or_ge g w.heap.size with k | k
 ·exact k
 ·rw [Array.getElem?_eq_none k] at hh
  cases hh
theorem RowEn.step {w : World} {g n j b : Nat} {es : List En} {gb tp : Nat → Nat} (h : RowEn w g n j es gb tp) (hj : j < n) (ho : OwnS b w (some ⟨b, 0, none⟩) (enA es j).2.2.length (enA es j).2.2) (hs : Somes w (some ⟨b, 0, none⟩) (enA es j).2.2.length) (hb : g < b) (hl : b < w.heap.size) (ht : ∀ i, i < j → tp i ≤ b) :
  RowEn (((w.setCell ⟨g, j * 3, none⟩ (.int .i64 (enA es j).1)).setCell ⟨g, j * 3 + 1, none⟩ (.int .i64 (enA es j).2.1)).setCell ⟨g, j * 3 + 2, none⟩ (.slice (some ⟨b, 0, none⟩) (enA es j).2.2.length (enA es j).2.2.length)) g n (j + 1) es (fun i => if i = j then b else gb i) (fun i => if i = j then w.heap.size else tp i) := by
 obtain ⟨⟨v0, e0⟩, ⟨v1, e1⟩, ⟨v2, e2⟩⟩ := h.u j (Nat.le_refl _) hj
 have far : ∀ o, o ≠ j * 3 → o ≠ j * 3 + 1 → o ≠ j * 3 + 2 → ∀ v, w.cell? ⟨g, o, none⟩ = some v → (((w.setCell ⟨g, j * 3, none⟩ (.int .i64 (enA es j).1)).setCell ⟨g, j * 3 + 1, none⟩ (.int .i64 (enA es j).2.1)).setCell ⟨g, j * 3 + 2, none⟩ (.slice (some ⟨b, 0, none⟩) (enA es j).2.2.length (enA es j).2.2.length)).cell? ⟨g, o, none⟩ = some v := fun o n0 n1 n2 v hv =>
  (cell_other (.inr (Ne.symm n2)) _).trans ((cell_other (.inr (Ne.symm n1)) _).trans ((cell_other (.inr (Ne.symm n0)) _).trans hv))
 refine ⟨fun i hi => ?_, fun i hi => ?_, fun i k h1 h2 => ?_, fun i h1 h2 => ?_, fun o => ?_, by simpa using h.lt⟩
 ·by_cases e : i = j
  ·subst e
   simp only [if_pos]
   exact ⟨(cell_other (.inr (by omega)) _).trans ((cell_other (.inr (by omega)) _).trans (cell_same e0 _)), (cell_other (.inr (by omega)) _).trans (cell_same ((cell_other (.inr (by omega)) _).trans e1) _), cell_same ((cell_other (.inr (by omega)) _).trans ((cell_other (.inr (by omega)) _).trans e2)) _,
    ((ho.put hb _ _).put hb _ _).put hb _ _, ((hs.put (by omega) _ _).put (by omega) _ _).put (by omega) _ _, ((ho.mark.far (by omega)).far (by omega)).far (by omega)⟩
  ·simp only [if_neg e]
   obtain ⟨h0, h1, h2, h3, h4, h5⟩ := h.c i (by omega)
   obtain ⟨o1, o2, o3⟩ := h.o i (by omega)
   exact ⟨far _ (by omega) (by omega) (by omega) _ h0, far _ (by omega) (by omega) (by omega) _ h1, far _ (by omega) (by omega) (by omega) _ h2, ((h3.put o1 _ _).put o1 _ _).put o1 _ _, ((h4.put (by omega) _ _).put (by omega) _ _).put (by omega) _ _, ((h5.far (by omega)).far (by omega)).far (by omega)⟩
 ·by_cases e : i = j
  ·subst e
   simp only [if_pos]
   exact ⟨hb, hl, by simp⟩
  ·simp only [if_neg e]
   obtain ⟨o1, o2, o3⟩ := h.o i (by omega)
   exact ⟨o1, o2, by simpa using o3⟩
 ·have ei : i ≠ j := by omega
  simp only [if_neg ei]
  by_cases e : k = j
  ·subst e
   simp only [if_pos]
   exact ht i h1
  ·simp only [if_neg e]
   exact h.p i k h1 (by omega)
 ·obtain ⟨⟨v0, e0⟩, ⟨v1, e1⟩, ⟨v2, e2⟩⟩ := h.u i (by omega) h2
  exact ⟨⟨v0, far _ (by omega) (by omega) (by omega) _ e0⟩, ⟨v1, far _ (by omega) (by omega) (by omega) _ e1⟩, ⟨v2, far _ (by omega) (by omega) (by omega) _ e2⟩⟩
 ·exact (World.frozen?_setCell ..).trans ((World.frozen?_setCell ..).trans ((World.frozen?_setCell ..).trans (h.fr o)))
theorem RowEn.sees {w : World} {g n : Nat} {es : List En} {gb tp : Nat → Nat} (h : RowEn w g n es.length es gb tp) (hm : es.length ≤ maxLen) : SeesEn w (some ⟨g, 0, none⟩) es.length es :=
 ⟨Nat.le_refl _, hm, fun _ => ⟨g, 0, rfl, fun i hi => by
  obtain ⟨h0, h1, h2, h3, _, _⟩ := h.c i hi
  simp only [Nat.zero_add]
  exact ⟨h0, h1, _, _, h2, h3.sees⟩⟩⟩

set_option maxRecDepth 20000 in
set_option maxHeartbeats 1000000 in
theorem toEntries (a : Option Addr) (cap : Nat) (es : List En) (w : World) (h : SeesEn w a cap es) (hs : uptoE es es.length ≤ 1048576) :
  Calls Tryz.prog 6 #[.slice a es.length cap] w fun e w' => e = .returned (.slice (some ⟨w.heap.size, 0, none⟩) es.length es.length) ∧ (∃ gb tp, RowEn w' w.heap.size es.length es.length es gb tp) ∧ Below w.heap.size w w' := by
 obtain ⟨i0, hi, hz0, hz1, hz2⟩ := info_parts infoEn
 have hrl : es.length ≤ 1048576 := by have := uptoE_le es 0 es.length; simp only [uptoE, Nat.zero_add] at this; omega
 have HS : Hid (uptoE es es.length ≤ 1048576) := hs
 clear hs
 go_enter Tryz.func6, Tryz.ntmps6
 go_wp2_with (at_make; refine wpList_make_full _ rfl _ _ 34 rfl w.heap.size 52 i0 (.agg #[.int .i64 0, .int .i64 0, .slice none 0 0]) 3 Tryz.underlying34 hi hz0 hz1 .i64 .i64 _ _ es.length rfl rfl rfl rfl ?b2 ?b3 (Nat.le_refl _) ?_)
 case b2 => rw [hz2]; omega
 case b3 => unfold maxLen; omega
 intro w0 hown0 hgrow0
 have R := RowEn.start es hown0
 have hb0 : Below w.heap.size w w0 := (Below.refl _ _).grown hgrow0 (Nat.le_refl _) (fun k h => by cases h)
 have hm := h.max
 have hf := h.fits
 unfold maxLen at hm
 clear hown0 hgrow0 hi hz0 hz1 hz2
 go_wp2
 go_loopw [4] (fun i wr => ∃ j : Nat, j ≤ es.length ∧ i = .int .i64 j ∧ Hid (∃ gb tp, RowEn wr w.heap.size es.length j es gb tp) ∧ Below w.heap.size w wr) (fun i _ => es.length - (intOf i).toNat)
 case atStart => exact ⟨0, Nat.zero_le _, rfl, ⟨_, _, R⟩, hb0⟩
 case round =>
  clear R hb0
  obtain ⟨j, hj, rfl, RH, B⟩ := hrel
  rename World => wr
  by_cases hlt : j < es.length
  ·obtain ⟨gb, tp, R⟩ := RH.out
   obtain ⟨b1, o1, rfl, hc⟩ := (h.below B).cells (by intro e; simp [e] at hlt)
   obtain ⟨g0, g1, a', c', g2, sp⟩ := hc j hlt
   have hrow := enRow_le es hlt
   have HR : Hid (upto (enA es j).2.2 (enA es j).2.2.length ≤ 1048576) := by show _ ≤ _; have := HS.out; omega
   have ht : Hid (∀ i, i < j → tp i ≤ wr.heap.size + 6) := fun i hi => by have := (R.o i hi).2.2; omega
   have hgw : w.heap.size < wr.heap.size := R.lt
   clear hc hrow RH
   generalize hen : enA es j = en at *
   obtain ⟨id, k, rs⟩ := en
   dsimp only at g0 g1 g2 sp HR
   go_wp2_with fail
   refine (toEntryE id k a' c' rs _ sp HR.out).mono ?_
   rintro e w3 ⟨rfl, O3, hb, M3, L3⟩
   replace R := R.below hb
   replace B := B.trans (hb.mono B.size)
   obtain ⟨⟨v0, e0⟩, ⟨v1, e1⟩, ⟨v2, e2⟩⟩ := R.u j (Nat.le_refl _) hlt
   have cf := R.fr
   have RN := R.step hlt (b := wr.heap.size + 6) (by rw [hen]; exact O3) (by rw [hen]; exact M3) (by omega) L3 ht.out
   rw [hen] at RN
   have RH : Hid (∃ gb tp, RowEn _ w.heap.size es.length (j + 1) es gb tp) := ⟨_, _, RN⟩
   replace B := ((B.setCell (p := ⟨w.heap.size, j * 3, none⟩) (Nat.le_refl _) (.int .i64 id)).setCell (p := ⟨w.heap.size, j * 3 + 1, none⟩) (Nat.le_refl _) (.int .i64 k)).setCell (p := ⟨w.heap.size, j * 3 + 2, none⟩) (Nat.le_refl _) (.slice (some ⟨wr.heap.size + 6, 0, none⟩) rs.length rs.length)
   clear hb g0 g1 g2 RN R O3 M3 L3 sp HR ht
   generalize rs.length = m at *
   go_wp2_with fail
   go_roundw
   case rel => exact ⟨j + 1, by omega, by go_num, RH, B⟩
   case measure => simp [intOf]; omega
  ·have hje : j = es.length := by omega
   subst hje
   go_wp2
   go_ret
   exact ⟨rfl, RH.out, B⟩

set_option maxHeartbeats 1000000 in
theorem eqEntry_any (id n : Int) (a b : Option Addr) (c d : Nat) (rs : List (List (Int × Int))) (w : World) (h : SeesS w a c rs) (k : SeesS w b d rs) :
  Calls Tryz.prog 25 #[.agg #[.int .i64 id, .int .i64 n, .slice a rs.length c], .agg #[.int .i64 id, .int .i64 n, .slice b rs.length d]] w fun e w' => e = .returned (.bool true) ∧ Below w.heap.size w w' := by
 have h2 : (id != id) = false := by simp
 have B := below2 w (.cells #[.int .i64 id, .int .i64 n, .slice a rs.length c] 52) (.cells #[.int .i64 id, .int .i64 n, .slice b rs.length d] 52)
 go_enter Tryz.func25, Tryz.ntmps25
 go_wp2_with fail
 refine (eqShape_any n a b c d rs _ (h.below B) (k.below B)).mono ?_
 rintro e w1 ⟨rfl, hb⟩
 replace B := B.trans (hb.mono B.size)
 go_wp2
 go_ret
 exact ⟨rfl, B⟩

set_option maxRecDepth 20000 in
set_option maxHeartbeats 2000000 in
theorem eqEntries (a b : Option Addr) (c d : Nat) (es : List En) (w : World) (h : SeesEn w a c es) (k : SeesEn w b d es) :
  Calls Tryz.prog 9 #[.slice a es.length c, .slice b es.length d] w fun e w' => e = .returned (.bool true) ∧ Below w.heap.size w w' := by
 have hm := h.max
 have hf := h.fits
 unfold maxLen at hm
 have hne : ((es.length : Int) != (es.length : Int)) = false := by simp
 go_enter Tryz.func9, Tryz.ntmps9
 go_wp2
 go_loopw [5] (fun i wr => ∃ j : Nat, j ≤ es.length ∧ i = .int .i64 j ∧ Below w.heap.size w wr) (fun i _ => es.length - (intOf i).toNat)
 case atStart => exact ⟨0, Nat.zero_le _, rfl, Below.refl _ _⟩
 case round =>
  obtain ⟨j, hj, rfl, B⟩ := hrel
  rename World => wr
  by_cases hlt : j < es.length
  ·obtain ⟨b1, o1, rfl, hc⟩ := (h.below B).cells (by intro e; simp [e] at hlt)
   obtain ⟨b2, o2, rfl, hd⟩ := (k.below B).cells (by intro e; simp [e] at hlt)
   obtain ⟨g0, g1, a3, c3, g2, p1⟩ := hc j hlt
   obtain ⟨d0, d1, a4, c4, d2, p2⟩ := hd j hlt
   clear hc hd
   generalize enA es j = en at *
   obtain ⟨id, n, rs⟩ := en
   dsimp only at g0 g1 g2 p1 d0 d1 d2 p2
   go_wp2_with fail
   have k0 : wr.cell? ⟨b1, o1 + j * 3, none⟩ = some (.int .i64 id) ∧ wr.cell? ⟨b1, o1 + j * 3 + 1, none⟩ = some (.int .i64 n) ∧ wr.cell? ⟨b1, o1 + j * 3 + 2, none⟩ = some (.slice a3 rs.length c3) ∧ wr.cell? ⟨b2, o2 + j * 3, none⟩ = some (.int .i64 id) ∧ wr.cell? ⟨b2, o2 + j * 3 + 1, none⟩ = some (.int .i64 n) ∧ wr.cell? ⟨b2, o2 + j * 3 + 2, none⟩ = some (.slice a4 rs.length c4) := ⟨g0, g1, g2, d0, d1, d2⟩
   have B1 : Below wr.heap.size wr wr := Below.refl _ _
   go_region_held3 (fun w' => w'.cell? ⟨b1, o1 + j * 3, none⟩ = some (.int .i64 id) ∧ w'.cell? ⟨b1, o1 + j * 3 + 1, none⟩ = some (.int .i64 n) ∧ w'.cell? ⟨b1, o1 + j * 3 + 2, none⟩ = some (.slice a3 rs.length c3) ∧ w'.cell? ⟨b2, o2 + j * 3, none⟩ = some (.int .i64 id) ∧ w'.cell? ⟨b2, o2 + j * 3 + 1, none⟩ = some (.int .i64 n) ∧ w'.cell? ⟨b2, o2 + j * 3 + 2, none⟩ = some (.slice a4 rs.length c4))
    (first | exact k0 | exact ⟨bat B1 k0.1, bat B1 k0.2.1, bat B1 k0.2.2.1, bat B1 k0.2.2.2.1, bat B1 k0.2.2.2.2.1, bat B1 k0.2.2.2.2.2⟩)
    ((go_at_call 25; refine (eqEntry_any id n a3 a4 c3 c4 rs _ (p1.below B1.drew) (p2.below B1.drew)).mono ?_; rintro e w5 ⟨rfl, hb⟩; replace B1 := B1.drew.trans (hb.mono B1.drew.size)))
   replace B := B.trans (B1.mono B.size)
   go_wp2_with fail
   go_roundw
   case rel => exact ⟨j + 1, by omega, by go_num, B⟩
   case measure => simp [intOf]; omega
  ·go_wp2
   go_ret
   exact ⟨rfl, B⟩
end Go.Proofs.YtinlomcaagdbiaaGreat

/- Entries that came in, opened. -/
namespace Go.Proofs.YtinlomcaagdbiaaGreat
open Go.ChangeShapes Go.WideShapes Go.ChangeAt Go.RowKit Go.Joins

theorem cellsEntry : Tryz.prog.cellsOf 46 = 3 := by kernel_rfl
theorem cells_three {w : World} {a : Addr} {cs : List Value} (h : w.cells? 0 a 3 = some cs) : ∃ c0 c1 c2, cs = [c0, c1, c2] ∧ w.cell? (a.add 0) = some c0 ∧ w.cell? (a.add 1) = some c1 ∧ w.cell? (a.add 2) = some c2 := by
 unfold World.cells? at h
 rw [if_pos (Nat.zero_le _)] at h
 simp only [List.range_succ, List.range_zero, List.nil_append, List.cons_append, List.mapM_cons, List.mapM_nil] at h
 cases h0 : w.cell? (a.add 0) with
 | none => simp [h0] at h
 | some c0 =>
  cases h1 : w.cell? (a.add 1) with
  | none => simp [h0, h1] at h
  | some c1 =>
   cases h2 : w.cell? (a.add 2) with
   | none => simp [h0, h1, h2] at h
   | some c2 =>
    simp [h0, h1, h2] at h
    exact ⟨c0, c1, c2, h.symm, rfl, rfl, rfl⟩

set_option maxRecDepth 100000 in
theorem openEntriesC {H : Type} {enc : TypeId × Value → H} {W : World} {m : Nat} {v : Value} {y : DataW H × List MemPlace}
  (hm : DataW.trod enc Tryz.prog W 0 (fun _ => true) true m 22 [v] = some y) :
  ∃ a cap es, v = .slice a (List.length es) cap ∧ SeesEn W a cap es := by
 rcases DataW.trod_slice Tryz.underlying22 hm with ⟨hcs, _⟩ | ⟨x, len, cap, elems, rest, n, _, hcs, _, _, hl, hM, hlen, hel, _, _⟩
 ·simp only [List.cons.injEq, and_true] at hcs
  subst hcs
  exact ⟨none, 0, [], rfl, ⟨by simp, by simp [maxLen], fun h => absurd rfl h⟩⟩
 ·simp only [List.cons.injEq, and_true] at hcs
  subst hcs
  have get : ∀ i, i < len → ∃ q : En, ∃ a' c', W.cell? ((x.add (i * 3)).add 0) = some (.int .i64 q.1) ∧ W.cell? ((x.add (i * 3)).add 1) = some (.int .i64 q.2.1) ∧ W.cell? ((x.add (i * 3)).add 2) = some (.slice a' q.2.2.length c') ∧ SeesS W a' c' q.2.2 := by
   intro i hi
   have hE := hel i hi
   rw [cellsEntry, List.getElem?_eq_getElem (show i < elems.length by omega), Option.bind_eq_some_iff] at hE
   obtain ⟨cs, hc2, hy⟩ := hE
   obtain ⟨e0, e1, e2, rfl, g0, g1, g2⟩ := cells_three hc2
   obtain ⟨y0, y1, m1, _, _, hy0, hy1⟩ := trod_struct2 Tryz.underlying46 hy
   obtain ⟨k, e, _⟩ := DataW.trod_int Tryz.underlying3 (by simpa [cellsIntC] using hy0 : DataW.trod enc Tryz.prog W 0 (fun _ => true) true m1 3 [e0] = some y0)
   simp at e
   subst e
   obtain ⟨n, a', c', rs, rfl, rfl, s⟩ := openShapeC (c0 := e1) (c1 := e2) (by simpa [cellsIntC, cellsShape] using hy1)
   exact ⟨(k, n, rs), a', c', g0, g1, g2, s⟩
  refine ⟨some x, cap, (List.range len).map (fun i => if h : i < len then Classical.choose (get i h) else (0, 0, [])), by simp, ⟨by simpa using hl, hM, fun hn => ?_⟩⟩
  have hpos : 0 < len := by
   rcases Nat.eq_zero_or_pos len with e | e
   ·subst e; simp at hn
   ·exact e
  obtain ⟨b, off, spot⟩ := x
  obtain ⟨_, _, _, hq0, _⟩ := get 0 hpos
  have hspot : spot = none := by simpa [Addr.add] using World.cell?_spot hq0
  subst hspot
  refine ⟨b, off, rfl, fun i hi => ?_⟩
  have hi' : i < len := by simpa using hi
  have hc := Classical.choose_spec (get i hi')
  have er : enA ((List.range len).map (fun i => if h : i < len then Classical.choose (get i h) else (0, 0, []))) i = Classical.choose (get i hi') := by
   unfold enA
   rw [List.getElem?_map, List.getElem?_range hi']
   simp only [Option.map_some, Option.getD_some, dif_pos hi']
  rw [er]
  obtain ⟨a', c', h1, h2, h3, h4⟩ := hc
  have e0 : ((⟨b, off, none⟩ : Addr).add (i * 3)).add 0 = ⟨b, off + i * 3, none⟩ := by simp [Addr.add_lit]
  have e1 : ((⟨b, off, none⟩ : Addr).add (i * 3)).add 1 = ⟨b, off + i * 3 + 1, none⟩ := by simp [Addr.add_lit]
  have e2 : ((⟨b, off, none⟩ : Addr).add (i * 3)).add 2 = ⟨b, off + i * 3 + 2, none⟩ := by simp [Addr.add_lit]
  exact ⟨(congrArg W.cell? e0.symm).trans h1, (congrArg W.cell? e1.symm).trans h2, a', c', (congrArg W.cell? e2.symm).trans h3, h4⟩

set_option maxRecDepth 100000 in
theorem openEntries {H : Type} {enc : TypeId × Value → H} {W : World} {base : Nat} {v : Value} {d : DataW H} {p : List MemPlace}
  (hv : Value.okWide Tryz.prog W .any base 22 v) (h : DataW.Trod enc Tryz.prog W 0 (fun _ => true) true 22 v d p) :
  ∃ a cap es, v = .slice a (List.length es) cap ∧ SeesEn W a cap es := by
 obtain ⟨a0, n0, c0, rfl⟩ := okWide_slice Tryz.underlying22 hv
 obtain ⟨m, hm⟩ := h
 exact openEntriesC (v := .slice a0 n0 c0) hm
end Go.Proofs.YtinlomcaagdbiaaGreat
