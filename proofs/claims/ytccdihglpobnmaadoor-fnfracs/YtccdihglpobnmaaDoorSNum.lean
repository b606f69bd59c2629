import Derived.Test.YtccdihglpobnmaaDoorEq
import Derived.Laws.AppendOwnNone
import Derived.Laws.BitsAllLaws
/- The specification's l1Num: noughts on top are cut off, what is left is copied. -/
namespace Go.Proofs.YtccdihglpobnmaaDoor
open Go.RowKit

set_option maxHeartbeats 1000000 in
theorem l1NumC (neg : Bool) (a : Option Addr) (c : Nat) (xs : List Int) (w : World) (h : Sees w a c xs) (hs : xs.length ≤ 2097152) :
    Calls Tryd.prog 42 #[.bool neg, .slice a xs.length c] w fun e w' => ∃ v, e = .returned v ∧ IsNum w.heap.size w' v (sg neg (val xs)) ∧ Below w.heap.size w w' := by
  have hm := h.max
  have hf := h.fits
  unfold maxLen at hm
  have HS : Hid (xs.length ≤ 2097152) := hs
  clear hs
  go_enter Tryd.func42, Tryd.ntmps42
  go_wp2
  go_loop [5] (fun n => ∃ j : Nat, j ≤ xs.length ∧ n = .int .i64 j ∧ Hid (∀ i, j ≤ i → xs[i]?.getD 0 = 0)) (fun n => (intOf n).toNat)
  case atStart => exact ⟨xs.length, Nat.le_refl _, rfl, fun i hi => by rw [List.getElem?_eq_none hi]; rfl⟩
  case round =>
    obtain ⟨j, hj, rfl, hz⟩ := hrel
    by_cases h0 : j = 0
    · have H : Hid (val xs = 0) := by
        have := (cut_facts hj hz.out (.inl h0)).2.1
        subst h0; exact this.symm
      subst h0
      clear hz
      rcases h.shape with ⟨rfl, rfl⟩ | ⟨b, off, rfl⟩
      all_goals
        clear h
        cases neg
        all_goals
          go_wp2
          exact bodyPost_ret (v := .agg #[.bool false, .slice (some ⟨w.heap.size + 1, 0, none⟩) 0 0]) (by simp [results, Tryd.results42, go_sem]) rfl ⟨_, rfl, IsNum.zero _ _ _ _ _ H.out, below2 _ _ _⟩
    · have hne : xs ≠ [] := by intro e; simp [e] at hj; omega
      obtain ⟨b, off, rfl, hc⟩ := h.cells hne
      have g1 := hc (j - 1) (by omega)
      have hp : (0 : Int) < j := by omega
      have hlt := World.block_lt_of_cell? _ _ g1
      by_cases hx : xs[j - 1]?.getD 0 = 0
      · rw [hx] at g1
        have hz' : Hid (∀ i, j - 1 ≤ i → xs[i]?.getD 0 = 0) := zeros_step hz.out hx
        clear hz hx h hc
        go_wp2
        go_round
        case rel => exact ⟨j - 1, by omega, by go_num, hz'⟩
        case measure => simp [intOf]; omega
      · have H := cut_facts hj hz.out (.inr hx)
        have hx' : (xs[j - 1]?.getD 0 == 0) = false := by simpa using hx
        generalize xs[j - 1]?.getD 0 = x at g1 hx'
        have HH : Hid (Nrm (xs.take j) ∧ val (xs.take j) = val xs ∧ (xs.take j).length = j) := H
        have HC : Hid (Sees w (some ⟨b, off, none⟩) c xs) := h
        have HL : Lim (xs.take j) := h.lim.take j
        obtain ⟨i0, hi, hz0, hz1, hz2⟩ := info_parts infoU
        clear hz hx h H hc
        have HJ : Hid (j * 4 ≤ 140737488355328) := by have := HS.out; show _ ≤ _; omega
        have HK : ∀ o1 o2, Hid (∀ q u, ((xs.take j).map (Value.int .u32))[q]? = some u → ((w.alloc o1).alloc o2).cell? ((⟨b, off, none⟩ : Addr).add q) = some u) := fun o1 o2 => (HC.out.below (below2 _ _ _)).toCame.news hj
        clear HC HS
        have hj' : 0 < j := by omega
        rcases neg with _ | _
        all_goals
          go_wp2_with (at_builtin; refine wpList_append_own _ rfl (.tmp 25) (.tmp 28) 24 rfl (w.heap.size + 1) 59 i0 (.int .u32 0) 1 4 Tryd.underlying24 hi hz0 hz1 hz2 rfl (by decide) (.slice (some ⟨w.heap.size + 1, 0, none⟩) 0 0) 0 [] rfl (ownsRow_empty2 _ _ _) ⟨b, off, none⟩ j _ ((xs.take j).map (Value.int .u32)) rfl (by rw [List.length_map, HH.out.2.2, Nat.mul_one]) ((HK _ _).out) (ones _) (by unfold maxLen; omega) (by have := HJ.out; omega) (by simp) ?_; intro v' w' hown' hgrow' _; obtain ⟨q1, q2⟩ := grown_at hgrow' (b := w.heap.size) (by simp; omega) (by simp [Value.ownBlock]); obtain ⟨g, cap', hv, ho⟩ := Own.of_append hown' HL (by omega); rw [HH.out.2.2] at hv; rw [hv]; have hz : w.heap.size < w'.heap.size := (by have := hgrow'.size; simp at this; omega); have hB : Below w.heap.size w w' := ((below2 _ _ _).grown hgrow' (by simp; omega) (by intro k hk; simp [Value.ownBlock] at hk; omega)); clear hown' hgrow' hv)
        · have hI := IsNum.mk (neg := false) (((ho.setCell (p := ⟨w.heap.size, 0, none⟩) (by dsimp only; omega) (.bool false)).setCell (p := ⟨w.heap.size, 1, none⟩) (by dsimp only; omega) (.slice (some ⟨g, 0, none⟩) j cap')).base_le (Nat.le_succ _)) HH.out.1
          rw [HH.out.2.1, HH.out.2.2] at hI
          exact bodyPost_ret (v := .agg #[.bool (false && decide (0 < j)), .slice (some ⟨g, 0, none⟩) j cap']) (by simp [results, Tryd.results42, go_sem, q1]) rfl ⟨_, rfl, hI, (hB.setCell (by dsimp only; omega) _).setCell (by dsimp only; omega) _⟩
        · have hI := IsNum.mk (neg := true) (((ho.setCell (p := ⟨w.heap.size, 0, none⟩) (by dsimp only; omega) (.bool true)).setCell (p := ⟨w.heap.size, 1, none⟩) (by dsimp only; omega) (.slice (some ⟨g, 0, none⟩) j cap')).base_le (Nat.le_succ _)) HH.out.1
          rw [HH.out.2.1, HH.out.2.2] at hI
          exact bodyPost_ret (v := .agg #[.bool (true && decide (0 < j)), .slice (some ⟨g, 0, none⟩) j cap']) (by simp [results, Tryd.results42, go_sem, q1, hj']) rfl ⟨_, rfl, hI, (hB.setCell (by dsimp only; omega) _).setCell (by dsimp only; omega) _⟩

end Go.Proofs.YtccdihglpobnmaaDoor

/- Numbers of an int: impl.Of, spec.Of. -/
namespace Go.Proofs.YtccdihglpobnmaaDoor
open Go.RowKit

theorem val2 (x y : Int) : val [x, y] = x + 4294967296 * y := by simp [val]

theorem signed2 (base : Nat) (neg : Bool) (a : Option Addr) (x y : Int) (w : World) (h : Own base w a 2 [x, y]) :
    Calls Tryd.prog 35 #[.bool neg, .slice a 2 2] w fun e w' => ∃ v, e = .returned v ∧ IsNum base w' v (sg neg (x + 4294967296 * y)) ∧ Below w.heap.size w w' := by
  have := signedC base neg a 2 [x, y] w h
  rw [val2] at this
  exact this
theorem l1Num2 (neg : Bool) (a : Option Addr) (x y : Int) (w : World) (h : Sees w a 2 [x, y]) :
    Calls Tryd.prog 42 #[.bool neg, .slice a 2 2] w fun e w' => ∃ v, e = .returned v ∧ IsNum w.heap.size w' v (sg neg (x + 4294967296 * y)) ∧ Below w.heap.size w w' := by
  have := l1NumC neg a 2 [x, y] w h (by simp)
  rw [val2] at this
  exact this

theorem wrap_neg {n : Int} (h1 : -9223372036854775808 ≤ n) (h0 : n < 0) : IntKind.u64.wrap (-IntKind.u64.wrap n) = -n := by
  simp only [IntKind.wrap, IntKind.bits, IntKind.signed]
  simp
  omega

theorem sg_two {n : Int} (_h : ¬ n < 0) : sg false (n % 4294967296 + 4294967296 * (n / 4294967296)) = n := by simp only [sg]; simp; omega
theorem sg_two' {n : Int} (_h : n < 0) : sg true (-n % 4294967296 + 4294967296 * (-n / 4294967296)) = n := by simp only [sg]; simp; omega

set_option maxHeartbeats 1000000 in
theorem implOf (n : Int) (w : World) (h1 : -9223372036854775808 ≤ n) (h2 : n ≤ 9223372036854775807) :
    Calls Tryd.prog 9 #[.int .i64 n] w fun e w' => ∃ v, e = .returned v ∧ IsNum w.heap.size w' v n ∧ Below w.heap.size w w' := by
  by_cases h0 : n < 0
  · have hw := wrap_neg h1 h0
    have E : Hid (_ = n) := sg_two' h0
    have ho := fun o => Own.lit2 (w.alloc o) 59 (-n % 4294967296) (-n / 4294967296) (by omega) (by omega)
    simp only [World.size_alloc] at ho
    have HO : Hid (∀ o, Own (w.heap.size + 1) ((w.alloc o).alloc (.cells #[.int .u32 (-n % 4294967296), .int .u32 (-n / 4294967296)] 59)) (some ⟨w.heap.size + 1, 0, none⟩) 2 [-n % 4294967296, -n / 4294967296]) := ho
    clear ho
    go_enter Tryd.func9, Tryd.ntmps9
    go_wp2_with fail
    refine (signed2 (w.heap.size + 1) true _ _ _ _ (HO.out _)).mono ?_
    rintro e w' ⟨v, rfl, hI, hb⟩
    replace hI := hI.eq E.out
    obtain ⟨g, a', l, c', rfl⟩ := hI.shape
    obtain ⟨q1, q2⟩ := at_block hb (b := w.heap.size) (by simp; omega)
    have hz : w.heap.size < w'.heap.size := by have := hb.size; simp at this; omega
    have hB := (below2 _ _ _).trans (hb.mono (by simp; omega))
    clear hb HO
    go_wp2
    exact bodyPost_ret (v := .agg #[.bool g, .slice a' l c']) (by simp [results, Tryd.results9, go_sem, q1]) rfl ⟨_, rfl, hI.put (Nat.lt_succ_self _), below_put hB _ _⟩
  · have E : Hid (_ = n) := sg_two h0
    have ho := fun o => Own.lit2 (w.alloc o) 59 (n % 4294967296) (n / 4294967296) (by omega) (by omega)
    simp only [World.size_alloc] at ho
    have HO : Hid (∀ o, Own (w.heap.size + 1) ((w.alloc o).alloc (.cells #[.int .u32 (n % 4294967296), .int .u32 (n / 4294967296)] 59)) (some ⟨w.heap.size + 1, 0, none⟩) 2 [n % 4294967296, n / 4294967296]) := ho
    clear ho
    go_enter Tryd.func9, Tryd.ntmps9
    go_wp2_with fail
    refine (signed2 (w.heap.size + 1) false _ _ _ _ (HO.out _)).mono ?_
    rintro e w' ⟨v, rfl, hI, hb⟩
    replace hI := hI.eq E.out
    obtain ⟨g, a', l, c', rfl⟩ := hI.shape
    obtain ⟨q1, q2⟩ := at_block hb (b := w.heap.size) (by simp; omega)
    have hz : w.heap.size < w'.heap.size := by have := hb.size; simp at this; omega
    have hB := (below2 _ _ _).trans (hb.mono (by simp; omega))
    clear hb HO
    go_wp2
    exact bodyPost_ret (v := .agg #[.bool g, .slice a' l c']) (by simp [results, Tryd.results9, go_sem, q1]) rfl ⟨_, rfl, hI.put (Nat.lt_succ_self _), below_put hB _ _⟩

set_option maxHeartbeats 1000000 in
theorem specOf (n : Int) (w : World) (h1 : -9223372036854775808 ≤ n) (h2 : n ≤ 9223372036854775807) :
    Calls Tryd.prog 12 #[.int .i64 n] w fun e w' => ∃ v, e = .returned v ∧ IsNum w.heap.size w' v n ∧ Below w.heap.size w w' := by
  by_cases h0 : n < 0
  · have E : Hid (_ = n) := sg_two' h0
    have ho := fun o => Own.lit2 (w.alloc o) 59 (-n % 4294967296) (-n / 4294967296) (by omega) (by omega)
    simp only [World.size_alloc] at ho
    have HO : Hid (∀ o, Own (w.heap.size + 1) ((w.alloc o).alloc (.cells #[.int .u32 (-n % 4294967296), .int .u32 (-n / 4294967296)] 59)) (some ⟨w.heap.size + 1, 0, none⟩) 2 [-n % 4294967296, -n / 4294967296]) := ho
    clear ho
    go_enter Tryd.func12, Tryd.ntmps12
    go_wp2_with fail
    rw [show -(n + 1) + 1 = -n by omega]
    refine (l1Num2 true _ _ _ _ (HO.out _).toSees).mono ?_
    rintro e w' ⟨v, rfl, hI, hb⟩
    replace hI := hI.eq E.out
    obtain ⟨g, a', l, c', rfl⟩ := hI.shape
    obtain ⟨q1, q2⟩ := at_block hb (b := w.heap.size) (by simp; omega)
    have hz : w.heap.size < w'.heap.size := by have := hb.size; simp at this; omega
    have hB := (below2 _ _ _).trans (hb.mono (by simp; omega))
    simp only [World.size_alloc] at hI
    clear hb HO
    go_wp2
    exact bodyPost_ret (v := .agg #[.bool g, .slice a' l c']) (by simp [results, Tryd.results12, go_sem, q1]) rfl ⟨_, rfl, hI.put (by omega), below_put hB _ _⟩
  · have E : Hid (_ = n) := sg_two h0
    have ho := fun o => Own.lit2 (w.alloc o) 59 (n % 4294967296) (n / 4294967296) (by omega) (by omega)
    simp only [World.size_alloc] at ho
    have HO : Hid (∀ o, Own (w.heap.size + 1) ((w.alloc o).alloc (.cells #[.int .u32 (n % 4294967296), .int .u32 (n / 4294967296)] 59)) (some ⟨w.heap.size + 1, 0, none⟩) 2 [n % 4294967296, n / 4294967296]) := ho
    clear ho
    go_enter Tryd.func12, Tryd.ntmps12
    go_wp2_with fail
    refine (l1Num2 false _ _ _ _ (HO.out _).toSees).mono ?_
    rintro e w' ⟨v, rfl, hI, hb⟩
    replace hI := hI.eq E.out
    obtain ⟨g, a', l, c', rfl⟩ := hI.shape
    obtain ⟨q1, q2⟩ := at_block hb (b := w.heap.size) (by simp; omega)
    have hz : w.heap.size < w'.heap.size := by have := hb.size; simp at this; omega
    have hB := (below2 _ _ _).trans (hb.mono (by simp; omega))
    simp only [World.size_alloc] at hI
    clear hb HO
    go_wp2
    exact bodyPost_ret (v := .agg #[.bool g, .slice a' l c']) (by simp [results, Tryd.results12, go_sem, q1]) rfl ⟨_, rfl, hI.put (by omega), below_put hB _ _⟩

end Go.Proofs.YtccdihglpobnmaaDoor

/- A number as an int: impl.Small, spec.Small. -/
namespace Go.Proofs.YtccdihglpobnmaaDoor
open Go.RowKit

/-- Whether an int holds it; the int. -/
def smB (z : Int) : Bool := decide (-9223372036854775808 ≤ z ∧ z ≤ 9223372036854775807)
def smZ (z : Int) : Int := if smB z = true then z else 0

theorem or0 {x : Int} (h0 : 0 ≤ x) (h1 : x < 4294967296) : bits BinOp.or IntKind.u64 0 x = x := by
  rw [u64_or 0 x (by decide) (by decide) h0 (by omega)]
  simp
  omega
theorem or1 {x y : Int} (h0 : 0 ≤ x) (h1 : x < 4294967296) (k0 : 0 ≤ y) (k1 : y < 4294967296) : bits BinOp.or IntKind.u64 x (y * 4294967296) = x + y * 4294967296 := by
  rw [u64_or x (y * 4294967296) h0 (by omega) (by omega) (by omega), Nat.or_comm, nat_join 32 _ _ (by omega) (by omega)]
  omega

theorem sm_in {z : Int} (h1 : -9223372036854775808 ≤ z) (h2 : z ≤ 9223372036854775807) : smZ z = z ∧ smB z = true := by
  have : smB z = true := decide_eq_true ⟨h1, h2⟩
  exact ⟨by unfold smZ; rw [if_pos this], this⟩
theorem sm_out {z : Int} (h : ¬ (-9223372036854775808 ≤ z ∧ z ≤ 9223372036854775807)) : smZ z = 0 ∧ smB z = false := by
  have : smB z = false := decide_eq_false h
  exact ⟨by unfold smZ; rw [this]; simp, this⟩

theorem wrap_back {s : Int} (h0 : 0 < s) (h1 : s ≤ 9223372036854775808) : wrap64 (IntKind.u64.wrap (-s)) = -s := by
  have e : IntKind.u64.wrap (-s) = 18446744073709551616 - s := by
    simp only [IntKind.wrap, IntKind.bits, IntKind.signed]
    simp
    omega
  rw [e]
  unfold wrap64
  omega

theorem smallBelowC (s : Int) (w : World) (h0 : 0 < s) (h2 : s < 18446744073709551616) :
    Calls Tryd.prog 34 #[.int .u64 s] w fun e w' => e = .returned (.tuple #[.int .i64 (smZ (-s)), .bool (smB (-s))]) ∧ w' = w := by
  by_cases h1 : s ≤ 9223372036854775808
  · obtain ⟨e1, e2⟩ := sm_in (z := -s) (by omega) (by omega)
    rw [e1, e2]
    have hw := wrap_back h0 h1
    clear e1 e2
    go_enter Tryd.func34, Tryd.ntmps34
    go_wp2
    go_ret2
    exact ⟨by simp [hw], rfl⟩
  · obtain ⟨e1, e2⟩ := sm_out (z := -s) (by omega)
    rw [e1, e2]
    clear e1 e2
    go_enter Tryd.func34, Tryd.ntmps34
    go_wp2
    go_ret2
    exact ⟨rfl, rfl⟩

set_option maxHeartbeats 400000 in
theorem takenA (g : Bool) (a : Option Addr) (c : Nat) (xs : List Int) (w : World) (h : Sees w a c xs) :
    Calls Tryd.prog 33 #[.agg #[.bool g, .slice a xs.length c]] w fun e w' => ∃ a' c', e = .returned (.agg #[.bool (tkG g xs), .slice a' (tkL g xs).length c']) ∧ Hid (tkL g xs ≠ [] → a' = a ∧ c' = c) ∧ Below w.heap.size w w' := by
  by_cases hk : okB g xs = true
  · have e1 : tkG g xs = g := by unfold tkG; rw [hk]; simp
    have e2 : tkL g xs = xs := by unfold tkL; rw [if_pos hk]
    rw [e1, e2]
    clear e1 e2
    go_enter Tryd.func33, Tryd.ntmps33
    go_wp2_with fail
    refine (implOk g a c xs _ (h.below (below2 _ _ _))).mono ?_
    rintro e w1 ⟨rfl, hb⟩
    obtain ⟨q1, q2⟩ := at_block hb (b := w.heap.size) (by simp; omega)
    obtain ⟨q3, q4⟩ := at_block hb (b := w.heap.size + 1) (by simp)
    have hz : w.heap.size + 1 < w1.heap.size := by have := hb.size; simp at this; omega
    have hB := (below2 _ _ _).trans (hb.mono (by simp; omega))
    clear hb
    go_wp2
    have hF := (hB.setCell (p := ⟨w.heap.size + 1, 0, none⟩) (by dsimp only; omega) (.bool g)).setCell (p := ⟨w.heap.size + 1, 1, none⟩) (by dsimp only; omega) (.slice a xs.length c)
    exact bodyPost_ret (v := .agg #[.bool g, .slice a xs.length c]) (by simp [results, Tryd.results33, go_sem, q3]) rfl ⟨a, c, rfl, fun _ => ⟨rfl, rfl⟩, hF⟩
  · have hk' : okB g xs = false := by simpa using hk
    have e1 : tkG g xs = false := by unfold tkG; rw [hk']; simp
    have e2 : tkL g xs = [] := by unfold tkL; rw [if_neg hk]
    rw [e1, e2]
    clear e1 e2 hk
    go_enter Tryd.func33, Tryd.ntmps33
    go_wp2_with fail
    refine (implOk g a c xs _ (h.below (below2 _ _ _))).mono ?_
    rintro e w1 ⟨rfl, hb⟩
    obtain ⟨q3, q4⟩ := at_block hb (b := w.heap.size + 1) (by simp)
    have hz : w.heap.size + 1 < w1.heap.size := by have := hb.size; simp at this; omega
    have hB := (below2 _ _ _).trans (hb.mono (by simp; omega))
    clear hb
    go_wp2
    exact bodyPost_ret (v := .agg #[.bool false, .slice none 0 0]) (by simp [results, Tryd.results33, go_sem, q3]) rfl ⟨none, 0, rfl, fun h => absurd rfl h, (hB.setCell (by dsimp only; omega) _).setCell (by dsimp only; omega) _⟩

set_option maxHeartbeats 1000000 in
theorem implSmall (g : Bool) (a : Option Addr) (c : Nat) (xs : List Int) (w : World) (h : Sees w a c xs) :
    Calls Tryd.prog 8 #[.agg #[.bool g, .slice a xs.length c]] w fun e w' => e = .returned (.tuple #[.int .i64 (smZ (tk g xs)), .bool (smB (tk g xs))]) ∧ Below w.heap.size w w' := by
  obtain ⟨tl, tn, t24, t0⟩ := tk_facts g xs h.lim
  go_enter Tryd.func8, Tryd.ntmps8
  go_wp2_with fail
  refine (takenA g a c xs _ (h.below (below1 _ _))).mono ?_
  rintro e w1 ⟨a1, c1, rfl, hsame, hb⟩
  obtain ⟨q1, q2⟩ := at_block hb (b := w.heap.size) (by simp)
  have hz : w.heap.size < w1.heap.size := by have := hb.size; simp at this; omega
  have B1 := (below1 w _).trans (hb.mono (by simp))
  have hcell : ∀ i, i < (tkL g xs).length → ∃ b off, a1 = some ⟨b, off, none⟩ ∧ b < w.heap.size ∧ w1.cell? ⟨b, off + i, none⟩ = some (.int .u32 ((tkL g xs)[i]?.getD 0)) := by
    intro i hi
    have hne : tkL g xs ≠ [] := by intro e; simp [e] at hi
    obtain ⟨rfl, rfl⟩ := hsame.out hne
    have e3 : tkL g xs = xs := by
      unfold tkL at hne ⊢
      by_cases hk : okB g xs = true
      · rw [if_pos hk]
      · rw [if_neg hk] at hne; exact absurd rfl hne
    rw [e3] at hne hi ⊢
    obtain ⟨b, off, ha, hc⟩ := h.cells hne
    exact ⟨b, off, ha, h.lt ha hne, bat B1 (hc i hi)⟩
  have B2 := fun u0 u1 => below_put B1 u0 u1
  clear hb h hsame
  generalize hys : tkL g xs = ys at *
  generalize hgg : tkG g xs = gg at *
  have E : Hid (tk g xs = sg gg (val ys)) := by show _ = _; unfold tk; rw [hys, hgg]
  clear hys hgg
  rcases ys with _ | ⟨x, _ | ⟨y, _ | ⟨u, r⟩⟩⟩
  · have hg0 := t0 rfl
    subst hg0
    obtain ⟨e1, e2⟩ := sm_in (z := 0) (by decide) (by decide)
    have EE : tk g xs = 0 := by rw [E.out]; simp [sg, val]
    rw [← EE] at e1 e2
    have E1 : Hid (smZ (tk g xs) = 0 ∧ smB (tk g xs) = true) := ⟨by rw [e1, EE], e2⟩
    clear e1 e2 EE E tl tn t0 hcell t24
    simp only [List.length_nil] at *
    go_wp2
    refine wp_loop_rounds 1 ?_
    rw [rounds_succ]
    go_wp2
    go_ret2
    exact ⟨by rw [E1.out.1, E1.out.2]; rfl, B2 _ _⟩
  · obtain ⟨⟨x0, x1⟩, _⟩ := tl.cons
    have xp : 0 < x := by simp only [Nrm] at tn; omega
    obtain ⟨b1, o1, rfl, l1, g1⟩ := hcell 0 (by simp)
    simp only [List.length_cons, List.length_nil] at *
    simp at g1
    have k1 := or0 x0 x1
    have EE : Hid (tk g xs = sg gg x) := by show _ = _; rw [E.out]; simp [val]
    clear tl tn t0 hcell t24 E
    rcases gg with _ | _
    · replace EE : Hid (tk g xs = x) := EE
      by_cases hsz : x ≤ 9223372036854775807
      · obtain ⟨e1, e2⟩ := sm_in (z := x) (by omega) hsz
        rw [← EE.out] at e1 e2
        have E1 : Hid (smZ (tk g xs) = x ∧ smB (tk g xs) = true) := ⟨e1.trans EE.out, e2⟩
        clear e1 e2 EE
        go_wp2
        refine wp_loop_rounds 2 ?_
        rw [rounds_succ]
        go_wp2
        rw [rounds_succ]
        go_wp2
        go_ret2
        exact ⟨by rw [E1.out.1, E1.out.2]; rfl, B2 _ _⟩
      · exfalso; omega
    · replace EE : Hid (tk g xs = -(x)) := EE
      have E1 : Hid (smZ (tk g xs) = smZ (-(x)) ∧ smB (tk g xs) = smB (-(x))) := by rw [EE.out]; exact ⟨rfl, rfl⟩
      clear EE
      go_wp2
      refine wp_loop_rounds 2 ?_
      rw [rounds_succ]
      go_wp2_with fail
      rw [rounds_succ]
      go_wp2_with fail
      refine (smallBelowC (x) _ (by omega) (by omega)).mono ?_
      rintro e w2 ⟨rfl, rfl⟩
      go_wp2
      go_ret2
      exact ⟨by rw [E1.out.1, E1.out.2]; rfl, B2 _ _⟩
  · obtain ⟨⟨x0, x1⟩, tl2⟩ := tl.cons
    obtain ⟨⟨y0, y1⟩, _⟩ := tl2.cons
    have yp : 0 < y := by simp only [Nrm] at tn; omega
    obtain ⟨b1, o1, rfl, l1, g1⟩ := hcell 0 (by simp)
    obtain ⟨b2, o2, e2, _, g2⟩ := hcell 1 (by simp)
    simp only [Option.some.injEq, Addr.mk.injEq] at e2
    obtain ⟨rfl, rfl, _⟩ := e2
    simp only [List.length_cons, List.length_nil] at *
    simp at g1 g2
    have k1 := or0 x0 x1
    have k2 := or1 x0 x1 y0 y1
    have EE : Hid (tk g xs = sg gg (x + y * 4294967296)) := by show _ = _; rw [E.out]; simp only [val]; congr 1; omega
    clear tl tl2 tn t0 hcell t24 E
    rcases gg with _ | _
    · replace EE : Hid (tk g xs = x + y * 4294967296) := EE
      by_cases hsz : x + y * 4294967296 ≤ 9223372036854775807
      · obtain ⟨e1, e2⟩ := sm_in (z := x + y * 4294967296) (by omega) hsz
        rw [← EE.out] at e1 e2
        have E1 : Hid (smZ (tk g xs) = x + y * 4294967296 ∧ smB (tk g xs) = true) := ⟨e1.trans EE.out, e2⟩
        clear e1 e2 EE
        go_wp2
        refine wp_loop_rounds 3 ?_
        rw [rounds_succ]
        go_wp2
        rw [rounds_succ]
        go_wp2
        rw [rounds_succ]
        go_wp2
        go_ret2
        exact ⟨by rw [E1.out.1, E1.out.2]; rfl, B2 _ _⟩
      · obtain ⟨e1, e2⟩ := sm_out (z := x + y * 4294967296) (by omega)
        rw [← EE.out] at e1 e2
        have E1 : Hid (smZ (tk g xs) = 0 ∧ smB (tk g xs) = false) := ⟨e1, e2⟩
        clear e1 e2 EE
        go_wp2
        refine wp_loop_rounds 3 ?_
        rw [rounds_succ]
        go_wp2
        rw [rounds_succ]
        go_wp2
        rw [rounds_succ]
        go_wp2
        go_ret2
        exact ⟨by rw [E1.out.1, E1.out.2]; rfl, B2 _ _⟩
    · replace EE : Hid (tk g xs = -(x + y * 4294967296)) := EE
      have E1 : Hid (smZ (tk g xs) = smZ (-(x + y * 4294967296)) ∧ smB (tk g xs) = smB (-(x + y * 4294967296))) := by rw [EE.out]; exact ⟨rfl, rfl⟩
      clear EE
      go_wp2
      refine wp_loop_rounds 3 ?_
      rw [rounds_succ]
      go_wp2_with fail
      rw [rounds_succ]
      go_wp2_with fail
      rw [rounds_succ]
      go_wp2_with fail
      refine (smallBelowC (x + y * 4294967296) _ (by omega) (by omega)).mono ?_
      rintro e w2 ⟨rfl, rfl⟩
      go_wp2
      go_ret2
      exact ⟨by rw [E1.out.1, E1.out.2]; rfl, B2 _ _⟩
  · have hbig : 18446744073709551616 ≤ val (x :: y :: u :: r) := by
      have h1 := val_ge tl tn (by simp)
      have h2 := p_mono 2 r.length
      have h3 : (4294967296 : Int) ^ 2 = 18446744073709551616 := by decide
      simp only [List.length_cons, Nat.add_sub_cancel] at h1
      rw [Nat.add_comm 2, h3] at h2
      exact Int.le_trans h2 h1
    have E1 : Hid (smZ (tk g xs) = 0 ∧ smB (tk g xs) = false) := by
      have := sm_out (z := tk g xs) (by rw [E.out]; unfold sg; split <;> omega)
      exact this
    have hlen : (2 : Int) < ((x :: y :: u :: r).length : Int) := by simp; omega
    have hl24 : (x :: y :: u :: r).length ≤ 24 := t24
    clear tl tn t0 hcell t24 E hbig
    generalize (x :: y :: u :: r).length = n at *
    go_wp2
    go_ret2
    exact ⟨by rw [E1.out.1, E1.out.2]; rfl, B2 _ _⟩

end Go.Proofs.YtccdihglpobnmaaDoor
