import Derived.Test.YtcnmglghmianoaaProg
import Derived.Test.YtcnmglghmianoaaBase
import Derived.WalkKit
import Derived.WalkSpells
import Derived.WalkLawsBesides
import Derived.BigQuiet
import Derived.Deep.QuietTactic
/- The laws' helpers on slices of limbs: two that read the same are told to be equal; marking a slice and asking for the marks. -/
namespace Go.Proofs.Ytcnmglghmianoaa
open Go.RowKit

end Go.Proofs.Ytcnmglghmianoaa

/- Noughts on top are cut off: impl.trimmed, impl.signed. -/
namespace Go.Proofs.Ytcnmglghmianoaa
open Go.RowKit

set_option maxHeartbeats 400000 in
theorem trimmedC (base : Nat) (a : Option Addr) (c : Nat) (xs : List Int) (w : World) (h : Own base w a c xs) :
    Calls Try.prog 70 #[.slice a xs.length c] w fun e w' => w' = w ∧ ∃ a' j, e = .returned (.slice a' j j) ∧ j ≤ xs.length ∧ ((j = 0 ∧ a' = none) ∨ a' = a) ∧ Nrm (xs.take j) ∧ val (xs.take j) = val xs := by
  have hm := h.max
  have hf := h.fits
  unfold maxLen at hm
  go_enter Try.func70, Try.ntmps70
  go_wp2
  go_loop [3] (fun n => ∃ j : Nat, j ≤ xs.length ∧ n = .int .i64 j ∧ Hid (∀ i, j ≤ i → xs[i]?.getD 0 = 0)) (fun n => (intOf n).toNat)
  case atStart => exact ⟨xs.length, Nat.le_refl _, rfl, fun i hi => by rw [List.getElem?_eq_none hi]; rfl⟩
  case round =>
    obtain ⟨j, hj, rfl, hz⟩ := hrel
    by_cases h0 : j = 0
    · have H : Hid (val (xs.take j) = val xs) := (cut_facts hj hz.out (.inl h0)).2.1
      subst h0
      clear hz
      go_wp2
      go_ret
      exact ⟨rfl, none, 0, rfl, Nat.zero_le _, .inl ⟨rfl, rfl⟩, trivial, H.out⟩
    · have hne : xs ≠ [] := by intro e; simp [e] at hj; omega
      obtain ⟨b, off, rfl, hc⟩ := h.cells hne
      have g1 := hc (j - 1) (by omega)
      have hp : (0 : Int) < j := by omega
      clear hc
      by_cases hx : xs[j - 1]?.getD 0 = 0
      · rw [hx] at g1
        have hz' : Hid (∀ i, j - 1 ≤ i → xs[i]?.getD 0 = 0) := zeros_step hz.out hx
        clear hz hx h
        go_wp2
        go_round
        case rel => exact ⟨j - 1, by omega, by go_num, hz'⟩
        case measure => simp [intOf]; omega
      · have H := cut_facts hj hz.out (.inr hx)
        have hj0 : ((j : Int) == 0) = false := by simpa using h0
        have hx' : (xs[j - 1]?.getD 0 == 0) = false := by simpa using hx
        generalize xs[j - 1]?.getD 0 = x at g1 hx'
        have HH : Hid (Nrm (xs.take j) ∧ val (xs.take j) = val xs ∧ (xs.take j).length = j) := H
        clear hz hx h H
        go_wp2
        go_ret
        exact ⟨rfl, _, j, rfl, hj, .inr rfl, HH.out.1, HH.out.2.1⟩

set_option maxHeartbeats 400000 in
theorem signedC (base : Nat) (neg : Bool) (a : Option Addr) (c : Nat) (xs : List Int) (w : World) (h : Own base w a c xs) :
    Calls Try.prog 55 #[.bool neg, .slice a xs.length c] w fun e w' => ∃ v, e = .returned v ∧ IsNum base w' v (sg neg (val xs)) ∧ Below w.heap.size w w' := by
  go_enter Try.func55, Try.ntmps55
  go_wp2_with fail
  refine (trimmedC base a c xs _ (h.below (below1 _ _))).mono ?_
  rintro e w' ⟨rfl, a', j, rfl, hj, ha, hn, hv⟩
  have hl : (xs.take j).length = j := by simp; omega
  have hm := h.max
  have hf := h.fits
  unfold maxLen at hm
  have key : ∀ o, IsNum base (w.alloc o) (.agg #[.bool (neg && decide (0 < j)), .slice a' j j]) (sg neg (val xs)) := fun o => by
    have := IsNum.mk (neg := neg) (h.below (below1 w o) |>.cut hj ha) hn
    rw [hv, hl] at this
    exact this
  clear h hn hv hl ha
  have K : Hid (∀ o, IsNum base (w.alloc o) (.agg #[.bool (neg && decide (0 < j)), .slice a' j j]) (sg neg (val xs))) := key
  clear key
  cases neg
  · go_wp2
    exact bodyPost_ret (v := .agg #[.bool (false && decide (0 < j)), .slice a' j j]) (by simp [results, Try.results55, go_sem]) rfl ⟨_, rfl, K.out _, below1 _ _⟩
  · by_cases h0 : 0 < j
    · have hp : (0 : Int) < j := by omega
      go_wp2
      exact bodyPost_ret (v := .agg #[.bool (true && decide (0 < j)), .slice a' j j]) (by simp [results, Try.results55, go_sem, h0]) rfl ⟨_, rfl, K.out _, below1 _ _⟩
    · obtain rfl : j = 0 := by omega
      go_wp2
      exact bodyPost_ret (v := .agg #[.bool (true && decide (0 < 0)), .slice a' 0 0]) (by simp [results, Try.results55, go_sem]) rfl ⟨_, rfl, K.out _, below1 _ _⟩

end Go.Proofs.Ytcnmglghmianoaa

/- The laws' helpers on numbers: their copies, their sizes, whether two are equal, their marks. -/
namespace Go.Proofs.Ytcnmglghmianoaa
open Go.RowKit

theorem infoU : (Try.prog.info? 74).map (fun i => (i.zero, i.size, i.bytes)) = some (some (.int .u32 0), 1, 4) := by kernel_rfl

end Go.Proofs.Ytcnmglghmianoaa

/- Which numbers are right: the program's NumOk and the specification's. -/
namespace Go.Proofs.Ytcnmglghmianoaa
open Go.RowKit

/-- Right, by a number's sign and its limbs. -/
def okB (g : Bool) (xs : List Int) : Bool := if xs.length = 0 then !g else decide (xs.length ≤ 24) && (xs[xs.length - 1]?.getD 0 != 0)

theorem Sees.last {w : World} {a : Option Addr} {c : Nat} {xs : List Int} (h : Sees w a c xs) (hn : ¬ xs.length = 0) :
    ∃ b off, a = some ⟨b, off, none⟩ ∧ b < w.heap.size ∧ w.cell? ⟨b, off + (xs.length - 1), none⟩ = some (.int .u32 (xs[xs.length - 1]?.getD 0)) := by
  have hne : xs ≠ [] := by intro e; simp [e] at hn
  obtain ⟨b, off, ha, hc⟩ := h.cells hne
  exact ⟨b, off, ha, h.lt ha hne, hc _ (by omega)⟩

theorem implOk (g : Bool) (a : Option Addr) (c : Nat) (xs : List Int) (w : World) (h : Sees w a c xs) :
    Calls Try.prog 64 #[.agg #[.bool g, .slice a xs.length c]] w fun e w' => e = .returned (.bool (okB g xs)) ∧ Below w.heap.size w w' := by
  have hm := h.max
  have hf := h.fits
  unfold maxLen at hm
  unfold okB
  by_cases hn : xs.length = 0
  · rw [if_pos hn, hn]
    clear h hf hn
    go_enter Try.func64, Try.ntmps64
    go_wp2
    go_ret
    exact ⟨rfl, (Below.refl _ _).alloc (Nat.le_refl _) _⟩
  · rw [if_neg hn]
    obtain ⟨b, off, rfl, hlt, hc⟩ := h.last hn
    generalize xs[xs.length - 1]?.getD 0 = x at hc ⊢
    generalize xs.length = n at *
    have hn0 : ((n : Int) == 0) = false := by simpa using hn
    clear h
    by_cases hl : n ≤ 24
    · have hp : 0 < n := by omega
      rw [decide_eq_true hl, Bool.true_and]
      go_enter Try.func64, Try.ntmps64
      go_wp2
      go_ret
      exact ⟨rfl, (Below.refl _ _).alloc (Nat.le_refl _) _⟩
    · rw [decide_eq_false hl, Bool.false_and]
      have hd : decide ((n : Int) ≤ 24) = false := by simp; omega
      go_enter Try.func64, Try.ntmps64
      go_wp2
      go_ret
      exact ⟨rfl, (Below.refl _ _).alloc (Nat.le_refl _) _⟩

theorem specOk (g : Bool) (a : Option Addr) (c : Nat) (xs : List Int) (w : World) (h : Sees w a c xs) :
    Calls Try.prog 85 #[.agg #[.bool g, .slice a xs.length c]] w fun e w' => e = .returned (.bool (okB g xs)) ∧ Below w.heap.size w w' := by
  have hm := h.max
  have hf := h.fits
  unfold maxLen at hm
  unfold okB
  by_cases hn : xs.length = 0
  · rw [if_pos hn, hn]
    clear h hf hn
    cases g
    all_goals
      go_enter Try.func85, Try.ntmps85
      go_wp2
      go_ret
      exact ⟨rfl, (Below.refl _ _).alloc (Nat.le_refl _) _⟩
  · rw [if_neg hn]
    obtain ⟨b, off, rfl, hlt, hc⟩ := h.last hn
    generalize xs[xs.length - 1]?.getD 0 = x at hc ⊢
    generalize xs.length = n at *
    have hn0 : ((n : Int) == 0) = false := by simpa using hn
    clear h
    by_cases hl : n ≤ 24
    · have hp : 0 < n := by omega
      have hpi : (0 : Int) < n := by omega
      rw [decide_eq_true hl, Bool.true_and]
      go_enter Try.func85, Try.ntmps85
      go_wp2
      go_ret
      exact ⟨rfl, (Below.refl _ _).alloc (Nat.le_refl _) _⟩
    · rw [decide_eq_false hl, Bool.false_and]
      have hd : decide ((n : Int) ≤ 24) = false := by simp; omega
      go_enter Try.func85, Try.ntmps85
      go_wp2
      go_ret
      exact ⟨rfl, (Below.refl _ _).alloc (Nat.le_refl _) _⟩
end Go.Proofs.Ytcnmglghmianoaa

/- What a number is taken as: impl.taken, spec.l1Mag. -/
namespace Go.Proofs.Ytcnmglghmianoaa
open Go.RowKit

/-- The sign, and the limbs, that are taken. -/
def tkG (g : Bool) (xs : List Int) : Bool := okB g xs && g
def tkL (g : Bool) (xs : List Int) : List Int := if okB g xs = true then xs else []
/-- The number that is taken. -/
def tk (g : Bool) (xs : List Int) : Int := sg (tkG g xs) (val (tkL g xs))

theorem tk_facts (g : Bool) (xs : List Int) (hl : Lim xs) : Lim (tkL g xs) ∧ Nrm (tkL g xs) ∧ (tkL g xs).length ≤ 24 ∧ (tkL g xs = [] → tkG g xs = false) := by
  unfold tkL tkG
  by_cases hk : okB g xs = true
  · rw [if_pos hk, hk]
    unfold okB at hk
    by_cases h0 : xs.length = 0
    · rw [if_pos h0] at hk
      obtain rfl : xs = [] := List.eq_nil_of_length_eq_zero h0
      exact ⟨Lim.nil, trivial, by simp, fun _ => by simpa using hk⟩
    · rw [if_neg h0] at hk
      simp only [Bool.and_eq_true, decide_eq_true_eq, bne_iff_ne] at hk
      refine ⟨hl, ?_, hk.1, fun e => absurd (by simp [e]) h0⟩
      have := Nrm_take (xs := xs) (j := xs.length) (by omega) (Nat.le_refl _) hk.2
      rwa [List.take_length] at this
  · rw [if_neg hk]
    have : okB g xs = false := by simpa using hk
    rw [this]
    exact ⟨Lim.nil, trivial, by simp, fun _ => rfl⟩

set_option maxHeartbeats 400000 in
theorem takenC (g : Bool) (a : Option Addr) (c : Nat) (xs : List Int) (w : World) (h : Sees w a c xs) :
    Calls Try.prog 77 #[.agg #[.bool g, .slice a xs.length c]] w fun e w' => ∃ a' c', e = .returned (.agg #[.bool (tkG g xs), .slice a' (tkL g xs).length c']) ∧ Sees w' a' c' (tkL g xs) ∧ Below w.heap.size w w' := by
  by_cases hk : okB g xs = true
  · have e1 : tkG g xs = g := by unfold tkG; rw [hk]; simp
    have e2 : tkL g xs = xs := by unfold tkL; rw [if_pos hk]
    rw [e1, e2]
    clear e1 e2
    go_enter Try.func77, Try.ntmps77
    go_wp2_with fail
    refine (implOk g a c xs _ (h.below (below2 _ _ _))).mono ?_
    rintro e w1 ⟨rfl, hb⟩
    obtain ⟨q1, q2⟩ := at_block hb (b := w.heap.size) (by simp; omega)
    obtain ⟨q3, q4⟩ := at_block hb (b := w.heap.size + 1) (by simp)
    have hz : w.heap.size + 1 < w1.heap.size := by have := hb.size; simp at this; omega
    have hB := (below2 _ _ _).trans (hb.mono (by simp; omega))
    clear hb
    go_wp2
    have hF := (hB.setCell (p := ⟨w.heap.size + 1, 0, none⟩) (by dsimp only; omega) (.bool g)).setCell (p := ⟨w.heap.size + 1, 1, none⟩) (by dsimp only; omega) (.slice a xs.length c)
    exact bodyPost_ret (v := .agg #[.bool g, .slice a xs.length c]) (by simp [results, Try.results77, go_sem, q3]) rfl ⟨a, c, rfl, h.below hF, hF⟩
  · have hk' : okB g xs = false := by simpa using hk
    have e1 : tkG g xs = false := by unfold tkG; rw [hk']; simp
    have e2 : tkL g xs = [] := by unfold tkL; rw [if_neg hk]
    rw [e1, e2]
    clear e1 e2 hk
    go_enter Try.func77, Try.ntmps77
    go_wp2_with fail
    refine (implOk g a c xs _ (h.below (below2 _ _ _))).mono ?_
    rintro e w1 ⟨rfl, hb⟩
    obtain ⟨q3, q4⟩ := at_block hb (b := w.heap.size + 1) (by simp)
    have hz : w.heap.size + 1 < w1.heap.size := by have := hb.size; simp at this; omega
    have hB := (below2 _ _ _).trans (hb.mono (by simp; omega))
    clear hb
    go_wp2
    exact bodyPost_ret (v := .agg #[.bool false, .slice none 0 0]) (by simp [results, Try.results77, go_sem, q3]) rfl ⟨none, 0, rfl, (Own.nil 0 _).toSees, (hB.setCell (by dsimp only; omega) _).setCell (by dsimp only; omega) _⟩

set_option maxHeartbeats 400000 in
theorem l1MagC (g : Bool) (a : Option Addr) (c : Nat) (xs : List Int) (w : World) (h : Sees w a c xs) :
    Calls Try.prog 88 #[.agg #[.bool g, .slice a xs.length c]] w fun e w' => ∃ a' c', e = .returned (.slice a' (tkL g xs).length c') ∧ Sees w' a' c' (tkL g xs) ∧ Below w.heap.size w w' := by
  by_cases hk : okB g xs = true
  · have e2 : tkL g xs = xs := by unfold tkL; rw [if_pos hk]
    rw [e2]
    clear e2
    go_enter Try.func88, Try.ntmps88
    go_wp2_with fail
    refine (specOk g a c xs _ (h.below (below1 _ _))).mono ?_
    rintro e w1 ⟨rfl, hb⟩
    obtain ⟨q1, q2⟩ := at_block hb (b := w.heap.size) (by simp)
    have hB := (below1 _ _).trans (hb.mono (by simp))
    clear hb
    go_wp2
    go_ret
    exact ⟨a, c, rfl, h.below hB, hB⟩
  · have hk' : okB g xs = false := by simpa using hk
    have e2 : tkL g xs = [] := by unfold tkL; rw [if_neg hk]
    rw [e2]
    clear e2 hk
    go_enter Try.func88, Try.ntmps88
    go_wp2_with fail
    refine (specOk g a c xs _ (h.below (below1 _ _))).mono ?_
    rintro e w1 ⟨rfl, hb⟩
    have hB := (below1 _ _).trans (hb.mono (by simp))
    clear hb
    go_wp2
    go_ret
    exact ⟨_, 0, rfl, (Own.empty 0 _ _ _).toSees, hB.trans ((below1 _ _).mono hB.size)⟩
end Go.Proofs.Ytcnmglghmianoaa

/- The laws' helpers on fractions: their sizes, their copies, whether two are equal. -/
namespace Go.Proofs.Ytcnmglghmianoaa
open Go.RowKit

theorem fvar_new (w : World) (g g' : Bool) (a a' : Option Addr) (n n' c c' : Nat) (T : TypeId) :
    (w.alloc (.cells #[.bool g, .slice a n c, .bool g', .slice a' n' c'] T)).cell? ⟨w.heap.size, 0, none⟩ = some (.bool g) ∧ (w.alloc (.cells #[.bool g, .slice a n c, .bool g', .slice a' n' c'] T)).cell? ⟨w.heap.size, 1, none⟩ = some (.slice a n c) ∧
    (w.alloc (.cells #[.bool g, .slice a n c, .bool g', .slice a' n' c'] T)).cell? ⟨w.heap.size, 2, none⟩ = some (.bool g') ∧ (w.alloc (.cells #[.bool g, .slice a n c, .bool g', .slice a' n' c'] T)).cell? ⟨w.heap.size, 3, none⟩ = some (.slice a' n' c') :=
  ⟨cell_new w _ T 0 rfl, cell_new w _ T 1 rfl, cell_new w _ T 2 rfl, cell_new w _ T 3 rfl⟩

end Go.Proofs.Ytcnmglghmianoaa

/- How great answers can be. -/
namespace Go.Proofs.Ytcnmglghmianoaa
open Go.RowKit

theorem var_new (w : World) (g : Bool) (a : Option Addr) (n c : Nat) (T : TypeId) :
    (w.alloc (.cells #[.bool g, .slice a n c] T)).cell? ⟨w.heap.size, 0, none⟩ = some (.bool g) ∧ (w.alloc (.cells #[.bool g, .slice a n c] T)).cell? ⟨w.heap.size, 1, none⟩ = some (.slice a n c) :=
  ⟨cell_new w #[.bool g, .slice a n c] T 0 rfl, cell_new w #[.bool g, .slice a n c] T 1 rfl⟩

theorem tkL_lt (g : Bool) (xs : List Int) (hl : Lim xs) : val (tkL g xs) < 4294967296 ^ 24 ∧ 0 ≤ val (tkL g xs) := by
  obtain ⟨tl, _, t24, _⟩ := tk_facts g xs hl
  have h1 := val_lt tl
  have h2 := p_mono (tkL g xs).length (24 - (tkL g xs).length)
  rw [show (tkL g xs).length + (24 - (tkL g xs).length) = 24 by omega] at h2
  exact ⟨by omega, val_nonneg tl⟩
theorem tk_bounds (g : Bool) (xs : List Int) (hl : Lim xs) : - 4294967296 ^ 24 < tk g xs ∧ tk g xs < 4294967296 ^ 24 := by
  obtain ⟨h1, h2⟩ := tkL_lt g xs hl
  unfold tk sg
  have h3 := p_pos 24
  generalize (4294967296 : Int) ^ 24 = P at *
  split <;> omega
theorem neg_bound (g : Bool) (xs : List Int) (hl : Lim xs) : mg (-tk g xs) < 4294967296 ^ 24 := by
  obtain ⟨h1, h2⟩ := tk_bounds g xs hl
  unfold mg
  generalize (4294967296 : Int) ^ 24 = P at *
  split <;> omega
theorem add_bound (g g' : Bool) (xs ys : List Int) (hl : Lim xs) (kl : Lim ys) : mg (tk g xs + tk g' ys) < 4294967296 ^ 25 := by
  obtain ⟨h1, h2⟩ := tk_bounds g xs hl
  obtain ⟨h3, h4⟩ := tk_bounds g' ys kl
  unfold mg
  rw [show (4294967296 : Int) ^ 25 = 4294967296 ^ 24 * 4294967296 from Int.pow_succ _ _]
  have h5 := p_pos 24
  generalize (4294967296 : Int) ^ 24 = P at *
  split <;> omega
theorem sub_bound (g g' : Bool) (xs ys : List Int) (hl : Lim xs) (kl : Lim ys) : mg (tk g xs - tk g' ys) < 4294967296 ^ 25 := by
  obtain ⟨h1, h2⟩ := tk_bounds g xs hl
  obtain ⟨h3, h4⟩ := tk_bounds g' ys kl
  unfold mg
  rw [show (4294967296 : Int) ^ 25 = 4294967296 ^ 24 * 4294967296 from Int.pow_succ _ _]
  have h5 := p_pos 24
  generalize (4294967296 : Int) ^ 24 = P at *
  split <;> omega

theorem mul_bound (g g' : Bool) (xs ys : List Int) (hl : Lim xs) (kl : Lim ys) : mg (tk g xs * tk g' ys) < 4294967296 ^ 48 := by
  obtain ⟨h1, h2⟩ := tkL_lt g xs hl
  obtain ⟨h3, h4⟩ := tkL_lt g' ys kl
  have e : mg (tk g xs * tk g' ys) = val (tkL g xs) * val (tkL g' ys) := by
    have h0 := Int.mul_nonneg h2 h4
    unfold tk sg mg
    generalize hp : val (tkL g xs) * val (tkL g' ys) = p at *
    cases tkG g xs <;> cases tkG g' ys <;> simp [hp, Int.mul_neg, Int.neg_mul] <;> omega
  rw [e, show (4294967296 : Int) ^ 48 = 4294967296 ^ 24 * 4294967296 ^ 24 from Int.pow_add _ 24 24]
  have h5 := p_pos 24
  generalize (4294967296 : Int) ^ 24 = P at *
  exact Int.lt_of_le_of_lt (Int.mul_le_mul_of_nonneg_left (Int.le_of_lt h3) h2) (Int.mul_lt_mul_of_pos_right h1 h5)

/-- What is put into a variable is there. -/
theorem put_cells {w : World} {p : Nat} {u0 u1 : Value} (h0 : (w.cell? ⟨p, 0, none⟩).isSome = true) (h1 : (w.cell? ⟨p, 1, none⟩).isSome = true) :
    ((w.setCell ⟨p, 0, none⟩ u0).setCell ⟨p, 1, none⟩ u1).cell? ⟨p, 0, none⟩ = some u0 ∧ ((w.setCell ⟨p, 0, none⟩ u0).setCell ⟨p, 1, none⟩ u1).cell? ⟨p, 1, none⟩ = some u1 := by
  have e : (⟨p, 0, none⟩ : Addr) ≠ ⟨p, 1, none⟩ := by simp
  have e' : (⟨p, 1, none⟩ : Addr) ≠ ⟨p, 0, none⟩ := by simp
  obtain ⟨x0, hx0⟩ := Option.isSome_iff_exists.1 h0
  obtain ⟨x1, hx1⟩ := Option.isSome_iff_exists.1 h1
  refine ⟨?_, ?_⟩
  · rw [World.cell?_setCell_other _ _ _ _ e', World.cell?_setCell_same _ _ _ hx0]
  · exact World.cell?_setCell_same _ _ _ ((World.cell?_setCell_other _ _ _ _ e).trans hx1)
theorem at_blk {B : Nat} {W w1 : World} (hb : Below B W w1) {b : Nat} (h : b < B) : (∀ o, w1.cell? ⟨b, o, none⟩ = W.cell? ⟨b, o, none⟩) ∧ (∀ o, w1.frozen? ⟨b, o, none⟩ = W.frozen? ⟨b, o, none⟩) :=
  ⟨fun o => hb.cell (p := ⟨b, o, none⟩) h, fun o => hb.frozen (p := ⟨b, o, none⟩) h⟩
end Go.Proofs.Ytcnmglghmianoaa
