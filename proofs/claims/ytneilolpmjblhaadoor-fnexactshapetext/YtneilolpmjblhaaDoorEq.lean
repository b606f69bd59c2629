import Derived.Test.YtneilolpmjblhaaDoorProg
import Derived.Test.YtneilolpmjblhaaDoorBase
import Derived.WalkKit
import Derived.WalkSpells
import Derived.WalkLawsBesides
import Derived.BigQuiet
import Derived.Deep.QuietTactic
import Derived.Laws.AppendOwnNone
import Derived.Laws.IdiomStrings
import Derived.Deep.LoopGhost
/- The laws' helpers on slices of limbs: two that read the same are told to be equal; marking a slice and asking for the marks. -/
namespace Go.Proofs.YtneilolpmjblhaaDoor
open Go.RowKit

end Go.Proofs.YtneilolpmjblhaaDoor

/- The laws' helpers on numbers: their copies, their sizes, whether two are equal, their marks. -/
namespace Go.Proofs.YtneilolpmjblhaaDoor
open Go.RowKit

theorem infoU : (Tryd.prog.info? 96).map (fun i => (i.zero, i.size, i.bytes)) = some (some (.int .u32 0), 1, 4) := by kernel_rfl

end Go.Proofs.YtneilolpmjblhaaDoor

/- The specification's l1Num: noughts on top are cut off, what is left is copied. -/
namespace Go.Proofs.YtneilolpmjblhaaDoor
open Go.RowKit

set_option maxHeartbeats 1000000 in
theorem l1NumC (neg : Bool) (a : Option Addr) (c : Nat) (xs : List Int) (w : World) (h : Sees w a c xs) (hs : xs.length ≤ 2097152) :
    Calls Tryd.prog 49 #[.bool neg, .slice a xs.length c] w fun e w' => ∃ v, e = .returned v ∧ IsNum w.heap.size w' v (sg neg (val xs)) ∧ Below w.heap.size w w' := by
  have hm := h.max
  have hf := h.fits
  unfold maxLen at hm
  have HS : Hid (xs.length ≤ 2097152) := hs
  clear hs
  go_enter Tryd.func49, Tryd.ntmps49
  go_wp2
  go_loop [5] (fun n => ∃ j : Nat, j ≤ xs.length ∧ n = .int .i64 j ∧ Hid (∀ i, j ≤ i → xs[i]?.getD 0 = 0)) (fun n => (intOf n).toNat)
  case atStart => exact ⟨xs.length, Nat.le_refl _, rfl, fun i hi => by rw [List.getElem?_eq_none hi]; rfl⟩
  case round =>
    obtain ⟨j, hj, rfl, hz⟩ := hrel
    by_cases h0 : j = 0
    · have H : Hid (val xs = 0) := by
        have := (cut_facts hj hz.out (.inl h0)).2.1
        subst h0; exact this.symm
      subst h0
      clear hz
      rcases h.shape with ⟨rfl, rfl⟩ | ⟨b, off, rfl⟩
      all_goals
        clear h
        cases neg
        all_goals
          go_wp2
          exact bodyPost_ret (v := .agg #[.bool false, .slice (some ⟨w.heap.size + 1, 0, none⟩) 0 0]) (by simp [results, Tryd.results49, go_sem]) rfl ⟨_, rfl, IsNum.zero _ _ _ _ _ H.out, below2 _ _ _⟩
    · have hne : xs ≠ [] := by intro e; simp [e] at hj; omega
      obtain ⟨b, off, rfl, hc⟩ := h.cells hne
      have g1 := hc (j - 1) (by omega)
      have hp : (0 : Int) < j := by omega
      have hlt := World.block_lt_of_cell? _ _ g1
      by_cases hx : xs[j - 1]?.getD 0 = 0
      · rw [hx] at g1
        have hz' : Hid (∀ i, j - 1 ≤ i → xs[i]?.getD 0 = 0) := zeros_step hz.out hx
        clear hz hx h hc
        go_wp2
        go_round
        case rel => exact ⟨j - 1, by omega, by go_num, hz'⟩
        case measure => simp [intOf]; omega
      · have H := cut_facts hj hz.out (.inr hx)
        have hx' : (xs[j - 1]?.getD 0 == 0) = false := by simpa using hx
        generalize xs[j - 1]?.getD 0 = x at g1 hx'
        have HH : Hid (Nrm (xs.take j) ∧ val (xs.take j) = val xs ∧ (xs.take j).length = j) := H
        have HC : Hid (Sees w (some ⟨b, off, none⟩) c xs) := h
        have HL : Lim (xs.take j) := h.lim.take j
        obtain ⟨i0, hi, hz0, hz1, hz2⟩ := info_parts infoU
        clear hz hx h H hc
        have HJ : Hid (j * 4 ≤ 140737488355328) := by have := HS.out; show _ ≤ _; omega
        have HK : ∀ o1 o2, Hid (∀ q u, ((xs.take j).map (Value.int .u32))[q]? = some u → ((w.alloc o1).alloc o2).cell? ((⟨b, off, none⟩ : Addr).add q) = some u) := fun o1 o2 => (HC.out.below (below2 _ _ _)).toCame.news hj
        clear HC HS
        have hj' : 0 < j := by omega
        rcases neg with _ | _
        all_goals
          go_wp2_with (at_builtin; refine wpList_append_own _ rfl (.tmp 25) (.tmp 28) 60 rfl (w.heap.size + 1) 96 i0 (.int .u32 0) 1 4 Tryd.underlying60 hi hz0 hz1 hz2 rfl (by decide) (.slice (some ⟨w.heap.size + 1, 0, none⟩) 0 0) 0 [] rfl (ownsRow_empty2 _ _ _) ⟨b, off, none⟩ j _ ((xs.take j).map (Value.int .u32)) rfl (by rw [List.length_map, HH.out.2.2, Nat.mul_one]) ((HK _ _).out) (ones _) (by unfold maxLen; omega) (by have := HJ.out; omega) (by simp) ?_; intro v' w' hown' hgrow' _; obtain ⟨q1, q2⟩ := grown_at hgrow' (b := w.heap.size) (by simp; omega) (by simp [Value.ownBlock]); obtain ⟨g, cap', hv, ho⟩ := Own.of_append hown' HL (by omega); rw [HH.out.2.2] at hv; rw [hv]; have hz : w.heap.size < w'.heap.size := (by have := hgrow'.size; simp at this; omega); have hB : Below w.heap.size w w' := ((below2 _ _ _).grown hgrow' (by simp; omega) (by intro k hk; simp [Value.ownBlock] at hk; omega)); clear hown' hgrow' hv)
        · have hI := IsNum.mk (neg := false) (((ho.setCell (p := ⟨w.heap.size, 0, none⟩) (by dsimp only; omega) (.bool false)).setCell (p := ⟨w.heap.size, 1, none⟩) (by dsimp only; omega) (.slice (some ⟨g, 0, none⟩) j cap')).base_le (Nat.le_succ _)) HH.out.1
          rw [HH.out.2.1, HH.out.2.2] at hI
          exact bodyPost_ret (v := .agg #[.bool (false && decide (0 < j)), .slice (some ⟨g, 0, none⟩) j cap']) (by simp [results, Tryd.results49, go_sem, q1]) rfl ⟨_, rfl, hI, (hB.setCell (by dsimp only; omega) _).setCell (by dsimp only; omega) _⟩
        · have hI := IsNum.mk (neg := true) (((ho.setCell (p := ⟨w.heap.size, 0, none⟩) (by dsimp only; omega) (.bool true)).setCell (p := ⟨w.heap.size, 1, none⟩) (by dsimp only; omega) (.slice (some ⟨g, 0, none⟩) j cap')).base_le (Nat.le_succ _)) HH.out.1
          rw [HH.out.2.1, HH.out.2.2] at hI
          exact bodyPost_ret (v := .agg #[.bool (true && decide (0 < j)), .slice (some ⟨g, 0, none⟩) j cap']) (by simp [results, Tryd.results49, go_sem, q1, hj']) rfl ⟨_, rfl, hI, (hB.setCell (by dsimp only; omega) _).setCell (by dsimp only; omega) _⟩

end Go.Proofs.YtneilolpmjblhaaDoor

/- The specification's sums, differences and comparing of limbs: l1AddMag, l1SubMag, l1CmpMag. -/
namespace Go.Proofs.YtneilolpmjblhaaDoor
open Go.RowKit

theorem one_new (w : World) (e : TypeId) (y : Int) : ∀ j u, ([y].map (Value.int .u32))[j]? = some u → (w.alloc (.cells #[.int .u32 y] e)).cell? ((⟨w.heap.size, 0, none⟩ : Addr).add j) = some u := by
  intro j u hu
  cases j with
  | zero =>
    simp at hu
    subst hu
    exact cell_new w #[.int .u32 y] e 0 rfl
  | succ j => simp at hu

theorem ownsRow_snoc {w : World} {base e n : Nat} {v : Value} {ws : List Int} {y : Int} (h : w.ownsRow base e 1 v n (ws.map (Value.int .u32) ++ [y].map (Value.int .u32))) : w.ownsRow base e 1 v n ((ws ++ [y]).map (Value.int .u32)) := by
  rw [List.map_append]; exact h

theorem Own.of_owns {w : World} {base e n : Nat} {v : Value} {xs : List Int} (h : w.ownsRow base e 1 v n (xs.map (Value.int .u32))) (hl : Lim xs) :
    ∃ a cap, v = .slice a xs.length cap ∧ Own base w a cap xs := by
  rcases Nat.eq_zero_or_pos n with h0 | h0
  · have h1 : xs.length = 0 := by have := h.1; simp at this; omega
    obtain rfl : xs = [] := List.eq_nil_of_length_eq_zero h1
    rcases h.2 with ⟨rfl, _⟩ | ⟨g, cap, cur, rfl, _, _, _, hm, _⟩
    · exact ⟨none, 0, rfl, Own.nil _ _⟩
    · subst h0
      exact ⟨_, cap, rfl, ⟨⟨Lim.nil, by simp, hm, fun h => absurd rfl h⟩, .inr ⟨_, _, rfl⟩⟩, fun _ _ _ h => absurd rfl h⟩
  · obtain ⟨g, cap, hv, ho⟩ := Own.of_append h hl h0
    exact ⟨_, cap, hv, ho⟩

end Go.Proofs.YtneilolpmjblhaaDoor

/- Which numbers are right: the program's NumOk and the specification's. -/
namespace Go.Proofs.YtneilolpmjblhaaDoor
open Go.RowKit

/-- Right, by a number's sign and its limbs. -/
def okB (g : Bool) (xs : List Int) : Bool := if xs.length = 0 then !g else decide (xs.length ≤ 24) && (xs[xs.length - 1]?.getD 0 != 0)

theorem Sees.last {w : World} {a : Option Addr} {c : Nat} {xs : List Int} (h : Sees w a c xs) (hn : ¬ xs.length = 0) :
    ∃ b off, a = some ⟨b, off, none⟩ ∧ b < w.heap.size ∧ w.cell? ⟨b, off + (xs.length - 1), none⟩ = some (.int .u32 (xs[xs.length - 1]?.getD 0)) := by
  have hne : xs ≠ [] := by intro e; simp [e] at hn
  obtain ⟨b, off, ha, hc⟩ := h.cells hne
  exact ⟨b, off, ha, h.lt ha hne, hc _ (by omega)⟩

theorem specOk (g : Bool) (a : Option Addr) (c : Nat) (xs : List Int) (w : World) (h : Sees w a c xs) :
    Calls Tryd.prog 64 #[.agg #[.bool g, .slice a xs.length c]] w fun e w' => e = .returned (.bool (okB g xs)) ∧ Below w.heap.size w w' := by
  have hm := h.max
  have hf := h.fits
  unfold maxLen at hm
  unfold okB
  by_cases hn : xs.length = 0
  · rw [if_pos hn, hn]
    clear h hf hn
    cases g
    all_goals
      go_enter Tryd.func64, Tryd.ntmps64
      go_wp2
      go_ret
      exact ⟨rfl, (Below.refl _ _).alloc (Nat.le_refl _) _⟩
  · rw [if_neg hn]
    obtain ⟨b, off, rfl, hlt, hc⟩ := h.last hn
    generalize xs[xs.length - 1]?.getD 0 = x at hc ⊢
    generalize xs.length = n at *
    have hn0 : ((n : Int) == 0) = false := by simpa using hn
    clear h
    by_cases hl : n ≤ 24
    · have hp : 0 < n := by omega
      have hpi : (0 : Int) < n := by omega
      rw [decide_eq_true hl, Bool.true_and]
      go_enter Tryd.func64, Tryd.ntmps64
      go_wp2
      go_ret
      exact ⟨rfl, (Below.refl _ _).alloc (Nat.le_refl _) _⟩
    · rw [decide_eq_false hl, Bool.false_and]
      have hd : decide ((n : Int) ≤ 24) = false := by simp; omega
      go_enter Tryd.func64, Tryd.ntmps64
      go_wp2
      go_ret
      exact ⟨rfl, (Below.refl _ _).alloc (Nat.le_refl _) _⟩
end Go.Proofs.YtneilolpmjblhaaDoor

/- What a number is taken as: impl.taken, spec.l1Mag. -/
namespace Go.Proofs.YtneilolpmjblhaaDoor
open Go.RowKit

/-- The sign, and the limbs, that are taken. -/
def tkG (g : Bool) (xs : List Int) : Bool := okB g xs && g
def tkL (g : Bool) (xs : List Int) : List Int := if okB g xs = true then xs else []
/-- The number that is taken. -/
def tk (g : Bool) (xs : List Int) : Int := sg (tkG g xs) (val (tkL g xs))

theorem tk_facts (g : Bool) (xs : List Int) (hl : Lim xs) : Lim (tkL g xs) ∧ Nrm (tkL g xs) ∧ (tkL g xs).length ≤ 24 ∧ (tkL g xs = [] → tkG g xs = false) := by
  unfold tkL tkG
  by_cases hk : okB g xs = true
  · rw [if_pos hk, hk]
    unfold okB at hk
    by_cases h0 : xs.length = 0
    · rw [if_pos h0] at hk
      obtain rfl : xs = [] := List.eq_nil_of_length_eq_zero h0
      exact ⟨Lim.nil, trivial, by simp, fun _ => by simpa using hk⟩
    · rw [if_neg h0] at hk
      simp only [Bool.and_eq_true, decide_eq_true_eq, bne_iff_ne] at hk
      refine ⟨hl, ?_, hk.1, fun e => absurd (by simp [e]) h0⟩
      have := Nrm_take (xs := xs) (j := xs.length) (by omega) (Nat.le_refl _) hk.2
      rwa [List.take_length] at this
  · rw [if_neg hk]
    have : okB g xs = false := by simpa using hk
    rw [this]
    exact ⟨Lim.nil, trivial, by simp, fun _ => rfl⟩

set_option maxHeartbeats 400000 in
theorem l1MagC (g : Bool) (a : Option Addr) (c : Nat) (xs : List Int) (w : World) (h : Sees w a c xs) :
    Calls Tryd.prog 48 #[.agg #[.bool g, .slice a xs.length c]] w fun e w' => ∃ a' c', e = .returned (.slice a' (tkL g xs).length c') ∧ Sees w' a' c' (tkL g xs) ∧ Below w.heap.size w w' := by
  by_cases hk : okB g xs = true
  · have e2 : tkL g xs = xs := by unfold tkL; rw [if_pos hk]
    rw [e2]
    clear e2
    go_enter Tryd.func48, Tryd.ntmps48
    go_wp2_with fail
    refine (specOk g a c xs _ (h.below (below1 _ _))).mono ?_
    rintro e w1 ⟨rfl, hb⟩
    obtain ⟨q1, q2⟩ := at_block hb (b := w.heap.size) (by simp)
    have hB := (below1 _ _).trans (hb.mono (by simp))
    clear hb
    go_wp2
    go_ret
    exact ⟨a, c, rfl, h.below hB, hB⟩
  · have hk' : okB g xs = false := by simpa using hk
    have e2 : tkL g xs = [] := by unfold tkL; rw [if_neg hk]
    rw [e2]
    clear e2 hk
    go_enter Tryd.func48, Tryd.ntmps48
    go_wp2_with fail
    refine (specOk g a c xs _ (h.below (below1 _ _))).mono ?_
    rintro e w1 ⟨rfl, hb⟩
    have hB := (below1 _ _).trans (hb.mono (by simp))
    clear hb
    go_wp2
    go_ret
    exact ⟨_, 0, rfl, (Own.empty 0 _ _ _).toSees, hB.trans ((below1 _ _).mono hB.size)⟩
end Go.Proofs.YtneilolpmjblhaaDoor

/- The specification's text of a number: spec.NumText. -/
namespace Go.Proofs.YtneilolpmjblhaaDoor
open Go.RowKit

theorem infoB : (Tryd.prog.info? 5).map (fun i => (i.zero, i.size, i.bytes)) = some (some (.int .u8 0), 1, 1) := by kernel_rfl
theorem field_magT (w : World) (g : Bool) (a : Option Addr) (n c : Nat) : Sem.run Tryd.prog (Instr.field 62 (Value.agg #[Value.bool g, Value.slice a n c]) 1) w = .ok (.slice a n c) w := by kernel_rfl

/-- Bytes in a row of the call's own. -/
def RowB (base : Nat) (w : World) (v : Value) (ds : List Int) : Prop := w.ownsRow base 5 1 v ds.length (ds.map (Value.int .u8))
theorem ones8 (ys : List Int) : ∀ u ∈ ys.map (Value.int .u8), u.oneCell' = true := by
  intro u hu
  obtain ⟨y, _, rfl⟩ := List.mem_map.1 hu
  rfl
theorem one_new8 (w : World) (e : TypeId) (y : Int) : ∀ j u, ([y].map (Value.int .u8))[j]? = some u → (w.alloc (.cells #[.int .u8 y] e)).cell? ((⟨w.heap.size, 0, none⟩ : Addr).add j) = some u := by
  intro j u hu
  cases j with
  | zero =>
    simp at hu
    subst hu
    exact cell_new w #[.int .u8 y] e 0 rfl
  | succ j => simp at hu
theorem RowB.snoc {base n : Nat} {w : World} {v : Value} {ds : List Int} {y : Int} (h : w.ownsRow base 5 1 v (ds.length + 1) (ds.map (Value.int .u8) ++ [y].map (Value.int .u8))) (_ : n = 0) : RowB base w v (ds ++ [y]) := by
  unfold RowB
  rw [List.map_append, List.length_append]
  exact h

theorem okB_of {g : Bool} {xs : List Int} (h : tkL g xs ≠ []) : tkG g xs = g ∧ tkL g xs = xs := by
  unfold tkL at h ⊢
  unfold tkG
  by_cases k : okB g xs = true
  · rw [if_pos k, k]; simp
  · rw [if_neg k] at h; exact absurd rfl h

theorem grown_of_below {w w' : World} (h : Below w.heap.size w w') : w.grownBy w' none := ⟨h.os, h.tape, h.output, h.size, fun i hi _ => h.block i hi⟩
theorem owns_below {w w' : World} {base e size n : Nat} {v : Value} {xs : List Value} (h : w.ownsRow base e size v n xs) (hb : Below w.heap.size w w') : w'.ownsRow base e size v n xs := by
  refine h.kept (grown_of_below hb) ?_
  cases e : v.ownBlock with
  | none => exact .inl rfl
  | some k => exact .inr (by simp)
theorem Sees.allNews {w : World} {b off c : Nat} {xs : List Int} (h : Sees w (some ⟨b, off, none⟩) c xs) : ∀ j u, (xs.map (Value.int .u32))[j]? = some u → w.cell? ((⟨b, off, none⟩ : Addr).add j) = some u := by
  have := h.toCame.news (Nat.le_refl xs.length)
  rwa [List.take_length] at this

set_option maxHeartbeats 2000000 in
theorem specNumText0 (g : Bool) (a : Option Addr) (c : Nat) (xs : List Int) (w : World) (h : Sees w a c xs) (h0 : tkL g xs = []) :
    Calls Tryd.prog 30 #[.agg #[.bool g, .slice a xs.length c]] w fun e w' => e = .returned (.string (numT (tk g xs))) ∧ Below w.heap.size w w' := by
  obtain ⟨i0, hi, hz0, hz1, hz2⟩ := info_parts infoU
  have E : Hid (Value.string { data := #[48] } = .string (numT (tk g xs))) := by
    show _ = _
    unfold tk
    rw [h0]
    have : sg (tkG g xs) (val []) = 0 := by cases tkG g xs <;> rfl
    rw [this]
    rfl
  rw [← E.out]
  have H0 : Hid (tkL g xs = []) := h0
  clear h0
  go_enter Tryd.func30, Tryd.ntmps30
  go_wp2_with fail
  refine (l1MagC g a c xs _ (h.below (below2 _ _ _))).mono ?_
  rintro e w1 ⟨a1, c1, rfl, hs1, hb1⟩
  have B1 := (below2 w _ _).trans (hb1.mono (by simp; omega))
  have O1 := owns_below (ownsRow_empty2 w (.cells #[.bool g, .slice a xs.length c] 62) 96) hb1
  rw [H0.out] at hs1 ⊢
  have hsz := B1.size
  have hz : w.heap.size + 2 ≤ w1.heap.size := by have := hb1.size; simp at this; omega
  clear hb1 h
  rcases hs1.shape with ⟨rfl, rfl⟩ | ⟨b, off, rfl⟩
  · go_wp2_with (at_builtin; refine wpList_append_own_none rfl (.tmp 10) (.tmp 12) 60 rfl (w.heap.size + 1) 96 i0 1 Tryd.underlying60 hi _ 0 [] rfl O1 rfl ?_)
    go_ret
    exact ⟨rfl, B1⟩
  · go_wp2_with (at_builtin; refine wpList_append_own _ rfl (.tmp 10) (.tmp 12) 60 rfl (w.heap.size + 1) 96 i0 (.int .u32 0) 1 4 Tryd.underlying60 hi hz0 hz1 hz2 rfl (by decide) _ 0 [] rfl O1 ⟨b, off, none⟩ 0 _ [] rfl rfl (fun j u hu => by simp at hu) (fun u hu => by simp at hu) (by unfold maxLen; omega) (by omega) (by omega) ?_; intro v' w' hown' hgrow' _; have hB' : Below w.heap.size w w' := (B1.grown hgrow' (by omega) (by intro k hk; have := (O1.lt k hk).1; omega)); clear hgrow'; obtain ⟨a2, c2, hv, _⟩ := Own.of_owns (xs := []) hown' Lim.nil; subst hv; clear hown')
    go_ret
    exact ⟨rfl, hB'⟩

theorem ret_str {a b : ByteArray} (h : a = b) : Ending.returned (.string a) = .returned (.string b) := by rw [h]
theorem RowB.shape {base : Nat} {w : World} {v : Value} {ds : List Int} (h : RowB base w v ds) (hn : ds ≠ []) : ∃ q cap, v = .slice (some ⟨q, 0, none⟩) ds.length cap ∧ base ≤ q ∧ q < w.heap.size := by
  have hp : 0 < ds.length := List.length_pos_iff.2 hn
  rcases h.2 with ⟨_, h0⟩ | ⟨q, cap, cur, hv, hb, hh, _⟩
  · omega
  · refine ⟨q, cap, hv, hb, ?_⟩
    rcases Nat.lt_or_ge q w.heap.size with h1 | h1
    · exact h1
    · rw [Array.getElem?_eq_none h1] at hh; cases hh
theorem RowB.at' {base q cap : Nat} {w : World} {ds : List Int} (h : RowB base w (.slice (some ⟨q, 0, none⟩) ds.length cap) ds) {j : Nat} (hj : j < ds.length) : w.cell? ⟨q, j, none⟩ = some (.int .u8 (ds[j]?.getD 0)) := by
  rw [h.cellAt j (by omega), List.getElem?_map, List.getElem?_eq_getElem hj]
  rfl
theorem RowB.put {base q cap : Nat} {w : World} {ds : List Int} (h : RowB base w (.slice (some ⟨q, 0, none⟩) ds.length cap) ds) (j : Nat) (x : Int) : RowB base (w.setCell ⟨q, j, none⟩ (.int .u8 x)) (.slice (some ⟨q, 0, none⟩) (ds.set j x).length cap) (ds.set j x) := by
  have := (h.stored j (.int .u8 x)).1
  unfold RowB
  rw [List.length_set, List.map_set]
  exact this
theorem RowB.below {base : Nat} {w w' : World} {v : Value} {ds : List Int} (h : RowB base w v ds) (hb : Below w.heap.size w w') : RowB base w' v ds := owns_below h hb
theorem RowB.string {base q cap : Nat} {w : World} {ds : List Int} (h : RowB base w (.slice (some ⟨q, 0, none⟩) ds.length cap) ds) (hd : ∀ x ∈ ds, 0 ≤ x ∧ x < 256) :
    (convert 76 9 (.slice (some ⟨q, 0, none⟩) ds.length cap)).run Tryd.prog w = .ok (.string (strB ds)) w := by
  have := run_convert_bytes_back (P := Tryd.prog) w 76 9 5 ⟨q, 0, none⟩ cap (ds.map (fun x => UInt8.ofNat x.toNat)) Tryd.underlying76 Tryd.underlying5 Tryd.underlying9 (fun j hj => by
    rw [List.length_map] at hj
    have e := h.at' hj
    have hb := hd ds[j] (List.getElem_mem hj)
    rw [List.getElem?_eq_getElem hj] at e
    simp only [Option.getD_some] at e
    have ea : (⟨q, 0, none⟩ : Addr).add j = ⟨q, j, none⟩ := by simp [Addr.add]; intro h; exact h.symm
    rw [ea, e, List.getElem_map]
    congr 2
    simp only [UInt8.toNat_ofNat']
    omega)
  rwa [List.length_map] at this

set_option maxRecDepth 20000 in
set_option maxHeartbeats 4000000 in
theorem specNumText1 (g : Bool) (a : Option Addr) (c : Nat) (xs : List Int) (w : World) (h : Sees w a c xs) (h0 : tkL g xs ≠ []) :
    Calls Tryd.prog 30 #[.agg #[.bool g, .slice a xs.length c]] w fun e w' => e = .returned (.string (numT (tk g xs))) ∧ Below w.heap.size w w' := by
  obtain ⟨i0, hi, hz0, hz1, hz2⟩ := info_parts infoU
  obtain ⟨i8, hi8, hy0, hy1, hy2⟩ := info_parts infoB
  obtain ⟨eg, el⟩ := okB_of h0
  obtain ⟨_, tn, t24, _⟩ := tk_facts g xs h.lim
  rw [el] at tn t24
  have hne : Hid (xs ≠ []) := by rw [← el]; exact h0
  have HN : Hid (Nrm xs ∧ xs.length ≤ 24) := ⟨tn, t24⟩
  have EL : Hid (tkL g xs = xs) := el
  have E : Hid (numT (tk g xs) = strB (digB (val xs).toNat ++ if g = true then [45] else []).reverse) := by
    show _ = _
    unfold tk numT
    rw [eg, el]
    have vp := val_pos h.lim tn hne.out
    unfold numB sg
    cases g
    · simp only [Bool.false_eq_true, if_false]
      rw [if_neg (by omega), if_neg (by omega), show (val xs).natAbs = (val xs).toNat by omega]
    · simp only [if_true]
      rw [if_neg (by omega), if_pos (by omega), show (-val xs).natAbs = (val xs).toNat by omega]
  rw [E.out]
  have LX : Hid (Lim xs) := h.lim
  clear eg el tn t24 h0 E
  go_enter Tryd.func30, Tryd.ntmps30
  go_wp2_with fail
  refine (l1MagC g a c xs _ (h.below (below2 _ _ _))).mono ?_
  rintro e w1 ⟨a1, c1, rfl, hs1, hb1⟩
  have B1 := (below2 w (.cells #[.bool g, .slice a xs.length c] 62) (.cells #[] 96)).trans (hb1.mono (by simp; omega))
  have B1' : Below (w.heap.size + 1) (w.alloc (.cells #[.bool g, .slice a xs.length c] 62)) w1 := ((Below.refl _ _).alloc (by simp) (.cells #[] 96)).trans (hb1.mono (by simp))
  have O1 := owns_below (ownsRow_empty2 w (.cells #[.bool g, .slice a xs.length c] 62) 96) hb1
  rw [EL.out] at hs1 ⊢
  have hz : w.heap.size + 2 ≤ w1.heap.size := by have := hb1.size; simp at this; omega
  clear hb1 h B1
  obtain ⟨b, off, rfl, _⟩ := hs1.cells hne.out
  have NW := hs1.allNews
  have hp : (0 : Int) < xs.length := by have := List.length_pos_iff.2 hne.out; omega
  have he0 : ((xs.length : Int) == 0) = false := by rw [beq_eq_false_iff_ne]; omega
  clear hs1
  go_wp2_with (at_builtin; refine wpList_append_own _ rfl (.tmp 10) (.tmp 12) 60 rfl (w.heap.size + 1) 96 i0 (.int .u32 0) 1 4 Tryd.underlying60 hi hz0 hz1 hz2 rfl (by decide) _ 0 [] rfl O1 ⟨b, off, none⟩ xs.length _ (xs.map (Value.int .u32)) rfl (by simp) NW (ones _) (by have := HN.out.2; unfold maxLen; omega) (by have := HN.out.2; omega) (by omega) ?_; intro v' w' hown' hgrow' hiff; clear hiff; have hB' : Below (w.heap.size + 1) (w.alloc (.cells #[.bool g, .slice a xs.length c] 62)) w' := (B1'.grown hgrow' (by omega) (by intro k hk; exact (O1.lt k hk).1)); have hz' := hgrow'.size; clear hgrow'; obtain ⟨a2, c2, hv, ho⟩ := Own.of_owns (xs := xs) (by simpa using hown') LX.out; subst hv; clear hown' O1 NW)
  have hR0 : RowB (w.heap.size + 1) (w'.alloc (.cells #[] 5)) (.slice (some ⟨w'.heap.size, 0, none⟩) 0 0) [] := ⟨rfl, .inr ⟨_, 0, #[], rfl, by omega, heap_alloc_new _ _, by simp, by simp [maxLen], rfl, rfl⟩⟩
  have hB0 : Below (w.heap.size + 1) (w.alloc (.cells #[.bool g, .slice a xs.length c] 62)) (w'.alloc (.cells #[] 5)) := hB'.alloc (by omega) _
  have ho0 := ho.below (below1 w' (.cells #[] 5))
  have ap0 : ∀ b off, a2 = some ⟨b, off, none⟩ → xs ≠ [] → (Value.slice (some ⟨w'.heap.size, 0, none⟩) 0 0).ownBlock ≠ some b := by
    intro b off ha hn e
    have := ho.lt ha hn
    simp [Value.ownBlock] at e
    omega
  clear ho hB'
  go_loopg [3, 4] (val xs).toNat (fun kk s3 s4 wr => ∃ am cm us ds v4, v4 = s4 ∧ s3 = .slice am us.length cm ∧ Own (w.heap.size + 1) wr am cm us ∧ RowB (w.heap.size + 1) wr v4 ds ∧ Hid (∀ b off, am = some ⟨b, off, none⟩ → us ≠ [] → v4.ownBlock ≠ some b) ∧ Hid (Nrm us ∧ us.length ≤ 24 ∧ kk = (val us).toNat ∧ DigAt (val xs) ds (val us)) ∧ Below (w.heap.size + 1) (w.alloc (.cells #[.bool g, .slice a xs.length c] 62)) wr)
  case atStart => exact ⟨a2, c2, xs, [], _, rfl, rfl, ho0, hR0, ap0, ⟨HN.out.1, HN.out.2, rfl, DigAt.start (val_nonneg LX.out)⟩, hB0⟩
  case round =>
    obtain ⟨am, cm, us, ds, v4, rfl, rfl, hO, hR, ap, hI, hB⟩ := hrel
    clear ho0 hR0 ap0 hB0
    by_cases hu : us = []
    · subst hu
      have hz2 : (([] : List Int).length : Int) = 0 := rfl
      have ED : Hid (ds = digB (val xs).toNat) := hI.out.2.2.2.done
      have dn : Hid (ds ≠ []) := by
        rw [ED.out]
        have := val_pos LX.out HN.out.1 hne.out
        rw [digB_pos (by omega)]
        exact List.cons_ne_nil _ _
      have dl : ds.length ≤ 232 := by
        exact hI.out.2.2.2.len (val_digits LX.out HN.out.2)
      have q0 : wr.cell? ⟨w.heap.size, 0, none⟩ = some (.bool g) := (hB.cell (p := ⟨w.heap.size, 0, none⟩) (by simp)).trans (cell_new _ _ _ 0 rfl)
      have sz1 := hB.size
      simp only [World.size_alloc] at sz1
      have HB1 : ∀ wX, Below (w.heap.size + 1) (w.alloc (.cells #[.bool g, .slice a xs.length c] 62)) wX → Below w.heap.size w wX := fun wX hh => (below1 w _).trans (hh.mono (by omega))
      have O1 : wr.ownsRow (w.heap.size + 1) 5 1 v4 ds.length (ds.map (Value.int .u8)) := hR
      have BY : ∀ x ∈ ds, 0 ≤ x ∧ x < 256 := by rw [ED.out]; exact digB_byte _
      clear hI ap hO
      cases g
      · obtain ⟨q, cap4, rfl, hq1, hq2⟩ := hR.shape dn.out
        have ER : Hid (digB (val xs).toNat ++ (if false = true then [45] else []) = ds) := by show _ = _; rw [ED.out]; simp
        have BZ : Hid (∀ x ∈ ds, 0 ≤ x ∧ x < 256) := BY
        have R4 : Hid (RowB (w.heap.size + 1) wr (.slice (some ⟨q, 0, none⟩) ds.length cap4) ds) := hR
        clear dn ED O1 BY hR
        have B4 := hB
        clear hB
        go_wp2
        go_loopw [8] (fun s8 wi => ∃ (k : Nat) (zs : List Int), k ≤ ds.length / 2 ∧ s8 = .int .i64 k ∧ RowB (w.heap.size + 1) wi (.slice (some ⟨q, 0, none⟩) zs.length cap4) zs ∧ Hid (Flip ds k zs) ∧ Below (w.heap.size + 1) (w.alloc (.cells #[.bool false, .slice a xs.length c] 62)) wi) (fun s8 _ => ds.length - (intOf s8).toNat)
        case atStart => exact ⟨0, ds, Nat.zero_le _, rfl, R4.out, Flip.start _, B4⟩
        case round =>
          obtain ⟨k, zs, hk, rfl, hR7, hF, hB7⟩ := hrel
          have zl : zs.length = ds.length := hF.out.len
          have ZL : Hid (zs.length = ds.length) := zl
          by_cases hlt : k < ds.length / 2
          · obtain ⟨m, hm⟩ : ∃ m : Nat, (ds.length : Int) - 1 - (k : Int) = m := ⟨ds.length - 1 - k, by omega⟩
            have hm' : Hid (ds.length - 1 - k = m) := by show _ = _; omega
            have g1 := hR7.at' (j := k) (by omega)
            have g2 := hR7.at' (j := m) (by omega)
            have f1 := hR7.frozenAt k
            have f2 := hR7.frozenAt m
            have F2 : Hid (Flip ds (k + 1) ((zs.set k (zs[m]?.getD 0)).set m (zs[k]?.getD 0))) := by
              have := hF.out.step hlt rfl rfl
              rw [hm'.out] at this
              exact this
            have R2 := (hR7.put k (zs[m]?.getD 0)).put m (zs[k]?.getD 0)
            have B2 := (hB7.setCell (p := ⟨q, k, none⟩) hq1 (.int .u8 (zs[m]?.getD 0))).setCell (p := ⟨q, m, none⟩) hq1 (.int .u8 (zs[k]?.getD 0))
            have hk2 : k < ds.length := by omega
            have hm2 : m < ds.length := by omega
            clear zl hR7 hF hB7 R4 B4
            generalize zs[k]?.getD 0 = x at *
            generalize zs[m]?.getD 0 = y at *
            go_wp2
            go_roundw
            case rel => exact ⟨k + 1, _, by omega, by go_num, R2, F2, B2⟩
            case measure => simp [intOf]; omega
          · have hrev := hF.out.done (by omega)
            have hcv := hR7.string (by rw [hrev]; exact fun x hx => BZ.out x (List.mem_reverse.1 hx))
            rw [zl, hrev] at hcv
            have HB7 := HB1 _ hB7
            clear hrev zl hR7 hF hB7 R4 B4 HB1
            go_wp2
            go_ret
            exact ⟨ret_str (by rw [← ER.out]; simp), HB7⟩
      · have ER : Hid (digB (val xs).toNat ++ (if true = true then [45] else []) = ds ++ [45]) := by show _ = _; rw [ED.out]; simp
        have BZ : Hid (∀ x ∈ ds ++ [45], 0 ≤ x ∧ x < 256) := by
          intro x hx
          rcases List.mem_append.1 hx with hx | hx
          · exact BY x hx
          · simp at hx; omega
        clear dn ED BY hR
        go_wp2_with (at_builtin; refine wpList_append_own _ rfl (.tmp 55) (.tmp 56) 76 rfl (w.heap.size + 1) 5 i8 (.int .u8 0) 1 1 Tryd.underlying76 hi8 hy0 hy1 hy2 rfl (by decide) v4 ds.length (ds.map (Value.int .u8)) rfl (O1.alloc _) ⟨wr.heap.size, 0, none⟩ 1 _ ([45].map (Value.int .u8)) rfl rfl (one_new8 _ _ _) (ones8 _) (by unfold maxLen; omega) (by omega) (by simp <;> omega) ?_; intro v' w5 hown' hgrow' hiff; clear hiff; have B4 : Below (w.heap.size + 1) (w.alloc (.cells #[.bool true, .slice a xs.length c] 62)) w5 := ((hB.alloc sz1 _).grown hgrow' (by simp <;> omega) (fun q hq => (O1.lt q hq).1)); have R5 := RowB.snoc (n := 0) hown' rfl; clear hown' hgrow' hB O1; obtain ⟨q, cap4, rfl, hq1, hq2⟩ := R5.shape (by simp); have R4 : Hid (RowB (w.heap.size + 1) w5 (.slice (some ⟨q, 0, none⟩) (ds ++ [45]).length cap4) (ds ++ [45])) := R5; clear R5)
        have EL5 : Hid ((ds ++ [45]).length = ds.length + 1) := by show _ = _; simp
        generalize (ds ++ [45]) = es at *
        go_loopw [8] (fun s8 wi => ∃ (k : Nat) (zs : List Int), k ≤ (ds.length + 1) / 2 ∧ s8 = .int .i64 k ∧ RowB (w.heap.size + 1) wi (.slice (some ⟨q, 0, none⟩) zs.length cap4) zs ∧ Hid (Flip es k zs) ∧ Below (w.heap.size + 1) (w.alloc (.cells #[.bool true, .slice a xs.length c] 62)) wi) (fun s8 _ => ds.length + 1 - (intOf s8).toNat)
        case atStart => exact ⟨0, es, Nat.zero_le _, rfl, R4.out, Flip.start _, B4⟩
        case round =>
          obtain ⟨k, zs, hk, rfl, hR7, hF, hB7⟩ := hrel
          have zl : zs.length = ds.length + 1 := hF.out.len.trans EL5.out
          have ZL : Hid (zs.length = ds.length + 1) := zl
          by_cases hlt : k < (ds.length + 1) / 2
          · obtain ⟨m, hm⟩ : ∃ m : Nat, (ds.length : Int) - (k : Int) = m := ⟨ds.length - k, by omega⟩
            have hm' : Hid (es.length - 1 - k = m) := by show _ = _; rw [EL5.out]; omega
            have g1 := hR7.at' (j := k) (by omega)
            have g2 := hR7.at' (j := m) (by omega)
            have f1 := hR7.frozenAt k
            have f2 := hR7.frozenAt m
            have F2 : Hid (Flip es (k + 1) ((zs.set k (zs[m]?.getD 0)).set m (zs[k]?.getD 0))) := by
              have := hF.out.step (by rw [EL5.out]; exact hlt) rfl rfl
              rw [hm'.out] at this
              exact this
            have R2 := (hR7.put k (zs[m]?.getD 0)).put m (zs[k]?.getD 0)
            have B2 := (hB7.setCell (p := ⟨q, k, none⟩) hq1 (.int .u8 (zs[m]?.getD 0))).setCell (p := ⟨q, m, none⟩) hq1 (.int .u8 (zs[k]?.getD 0))
            have hk2 : k < ds.length + 1 := by omega
            have hm2 : m < ds.length + 1 := by omega
            clear zl hR7 hF hB7 R4 B4
            generalize zs[k]?.getD 0 = x at *
            generalize zs[m]?.getD 0 = y at *
            go_wp2
            go_roundw
            case rel => exact ⟨k + 1, _, by omega, by go_num, R2, F2, B2⟩
            case measure => simp [intOf]; omega
          · have hrev := hF.out.done (by rw [EL5.out]; omega)
            have hcv := hR7.string (by rw [hrev]; exact fun x hx => BZ.out x (List.mem_reverse.1 hx))
            rw [zl, hrev] at hcv
            have HB7 := HB1 _ hB7
            clear hrev zl hR7 hF hB7 R4 B4 HB1
            go_wp2
            go_ret
            exact ⟨ret_str (by rw [← ER.out]; simp), HB7⟩
    · have hpu : (0 : Int) < us.length := by have := List.length_pos_iff.2 hu; omega
      obtain ⟨bm, om, rfl, hcm⟩ := hO.cells hu
      have mu : us.length ≤ 24 := hI.out.2.1
      have T0 : Hid (T10 us us.length 0 us) := T10.start hO.lim
      have LU : Hid (Lim us) := hO.lim
      clear hcm
      go_wp2
      go_loopw [5, 6] (fun s5 s6 wi => ∃ (t : Nat) (r : Int) (zs : List Int), t ≤ us.length ∧ s6 = .int .i64 ((t : Int) - 1) ∧ s5 = .int .u64 r ∧ 0 ≤ r ∧ r < 10 ∧ Own (w.heap.size + 1) wi (some ⟨bm, om, none⟩) cm zs ∧ Hid (T10 us t r zs) ∧ Hid (RowB (w.heap.size + 1) wi v4 ds) ∧ Below (w.heap.size + 1) (w.alloc (.cells #[.bool g, .slice a xs.length c] 62)) wi) (fun _ s6 _ => (intOf s6 + 1).toNat)
      case atStart => exact ⟨us.length, 0, us, Nat.le_refl _, rfl, rfl, by decide, by decide, hO, T0, hR, hB⟩
      case round =>
        obtain ⟨t, r, zs, ht, rfl, rfl, r0, r1, hO1, hT, hR1, hB1⟩ := hrel
        clear hO hR hB T0
        by_cases ht0 : t = 0
        · subst ht0
          have hzl : Hid (zs.length = us.length) := hT.out.len
          obtain ⟨vz, vr⟩ := hT.out.done
          have VU : Hid (0 < val us) := val_pos LU.out hI.out.1 hu
          have VZ : Hid (val zs = val us / 10) := vz
          have D1 : Hid (DigAt (val xs) (ds ++ [48 + r]) (val us / 10)) := by rw [vr]; exact hI.out.2.2.2.step VU.out
          have KK : Hid (gk = (val us).toNat) := hI.out.2.2.1
          have dl : ds.length ≤ 232 := by
            exact hI.out.2.2.2.len (val_digits LX.out HN.out.2)
          have sz1 := hB1.size
          simp only [World.size_alloc] at sz1
          have O1 : wr.ownsRow (w.heap.size + 1) 5 1 v4 ds.length (ds.map (Value.int .u8)) := hR1.out
          clear vz vr hI hT hR1
          go_wp2_with (at_builtin; refine wpList_append_own _ rfl (.tmp 44) (.tmp 48) 76 rfl (w.heap.size + 1) 5 i8 (.int .u8 0) 1 1 Tryd.underlying76 hi8 hy0 hy1 hy2 rfl (by decide) v4 ds.length (ds.map (Value.int .u8)) rfl (O1.alloc _) ⟨wr.heap.size, 0, none⟩ 1 _ ([48 + r].map (Value.int .u8)) rfl rfl (one_new8 _ _ _) (ones8 _) (by unfold maxLen; omega) (by omega) (by simp <;> omega) ?_; intro v' w5 hown' hgrow' hiff; clear hiff; have B5 : Below (w.heap.size + 1) (w.alloc (.cells #[.bool g, .slice a xs.length c] 62)) w5 := ((hB1.alloc sz1 _).grown hgrow' (by simp <;> omega) (fun q hq => (O1.lt q hq).1)); have R5 := RowB.snoc (n := 0) hown' rfl; have O5 := hO1.below (below1 wr (.cells #[.int .u8 (48 + r)] 5)); replace O5 := O5.kept hgrow' (fun b off ha hn => by simp only [Option.some.injEq, Addr.mk.injEq] at ha; obtain ⟨rfl, rfl, _⟩ := ha; exact ap.out bm om rfl hu); clear hown' hgrow')
          have hq := l1NumC false (some ⟨bm, om, none⟩) cm zs w5 O5.toSees (by rw [hzl.out]; omega)
          rw [hzl.out] at hq
          refine hq.mono ?_
          clear hq
          rintro e w6 ⟨v, rfl, hI6, hb6⟩
          obtain ⟨a7, c7, ys, rfl, ho7, hn7, hv7⟩ := hI6
          have vy : val ys = val us / 10 := by rw [hv7, mg_sg (val_nonneg O5.lim), VZ.out]
          have sz5 := B5.size
          simp only [World.size_alloc] at sz5
          have R6 := R5.below hb6
          have B6 := B5.trans (hb6.mono sz5)
          have ap6 : Hid (∀ b off, a7 = some ⟨b, off, none⟩ → ys ≠ [] → v'.ownBlock ≠ some b) := by
            intro b off ha hn e
            have h1 := (ho7.new b off ha hn).1
            have h2 := (R5.lt b e).2
            omega
          have NI : Hid (Nrm ys ∧ ys.length ≤ 24 ∧ DigAt (val xs) (ds ++ [48 + r]) (val ys)) := by
            refine ⟨hn7, len_le ho7.lim hn7 ?_, by rw [vy]; exact D1.out⟩
            have h1 := val_lt LU.out
            have h2 := p_mono us.length (24 - us.length)
            rw [show us.length + (24 - us.length) = 24 by omega] at h2
            have h3 := VU.out
            omega
          have hm : (val ys).toNat < gk := by have := VU.out; rw [KK.out]; omega
          have ho8 := ho7.base_le sz5
          generalize decide (sg false (val zs) < 0) = gg at *
          clear ho7 hn7 hv7 vy hb6 R5 O5 B5 O1 hO1 VZ D1 KK hB1
          have hfd := fun w => field_magT w gg a7 ys.length c7
          go_wp2
          go_roundg (val ys).toNat
          case measure => exact hm
          case rel => exact ⟨a7, c7, ys, ds ++ [48 + r], v', rfl, rfl, ho8, R6, ap6, ⟨NI.out.1, NI.out.2.1, rfl, NI.out.2.2⟩, B6⟩
        · obtain ⟨i, rfl⟩ : ∃ i, t = i + 1 := ⟨t - 1, by omega⟩
          have hzl : zs.length = us.length := hT.out.len
          have hne : zs ≠ [] := by intro e; rw [e] at hzl; simp at hzl; omega
          obtain ⟨b2, o2, e2, hc⟩ := hO1.cells hne
          simp only [Option.some.injEq, Addr.mk.injEq] at e2
          obtain ⟨rfl, rfl, _⟩ := e2
          have g1 := hc i (by omega)
          rw [hT.out.get] at g1
          have g2 := (hO1.new _ _ rfl hne).2 i (by omega)
          have hx := LU.out.get i
          have hst := hO1.store (j := i) rfl (by omega) (v := (r * 4294967296 + us[i]?.getD 0) / 10) (by omega)
          have hT2 : Hid (T10 us i ((r * 4294967296 + us[i]?.getD 0) % 10) (zs.set i ((r * 4294967296 + us[i]?.getD 0) / 10))) := hT.out.step rfl hx
          have hR2 : Hid (RowB (w.heap.size + 1) (wr.setCell ⟨bm, om + i, none⟩ (.int .u32 ((r * 4294967296 + us[i]?.getD 0) / 10))) v4 ds) := ownsRow_setCell_other hR1.out (ap.out bm om rfl hu) _
          have hB2 := hB1.setCell (p := ⟨bm, om + i, none⟩) (hO1.new _ _ rfl hne).1 (.int .u32 ((r * 4294967296 + us[i]?.getD 0) / 10))
          clear hc hO1 hne hzl hT hR1 hB1
          generalize us[i]?.getD 0 = x at *
          obtain ⟨x0, x1⟩ := hx
          go_wp2
          go_roundw
          case rel => exact ⟨i, _, _, by omega, by go_num, rfl, by omega, by omega, hst, hT2, hR2, hB2⟩
          case measure => simp [intOf]

theorem specNumText (g : Bool) (a : Option Addr) (c : Nat) (xs : List Int) (w : World) (h : Sees w a c xs) :
    Calls Tryd.prog 30 #[.agg #[.bool g, .slice a xs.length c]] w fun e w' => e = .returned (.string (numT (tk g xs))) ∧ Below w.heap.size w w' := by
  by_cases h0 : tkL g xs = []
  · exact specNumText0 g a c xs w h h0
  · exact specNumText1 g a c xs w h h0
end Go.Proofs.YtneilolpmjblhaaDoor

/- Noughts on top are cut off: impl.trimmed, impl.signed. -/
namespace Go.Proofs.YtneilolpmjblhaaDoor
open Go.RowKit

end Go.Proofs.YtneilolpmjblhaaDoor

/- Numbers of an int: impl.Of, spec.Of. -/
namespace Go.Proofs.YtneilolpmjblhaaDoor
open Go.RowKit

theorem val2 (x y : Int) : val [x, y] = x + 4294967296 * y := by simp [val]

theorem l1Num2 (neg : Bool) (a : Option Addr) (x y : Int) (w : World) (h : Sees w a 2 [x, y]) :
    Calls Tryd.prog 49 #[.bool neg, .slice a 2 2] w fun e w' => ∃ v, e = .returned v ∧ IsNum w.heap.size w' v (sg neg (x + 4294967296 * y)) ∧ Below w.heap.size w w' := by
  have := l1NumC neg a 2 [x, y] w h (by simp)
  rw [val2] at this
  exact this

theorem wrap_neg {n : Int} (h1 : -9223372036854775808 ≤ n) (h0 : n < 0) : IntKind.u64.wrap (-IntKind.u64.wrap n) = -n := by
  simp only [IntKind.wrap, IntKind.bits, IntKind.signed]
  simp
  omega

theorem sg_two {n : Int} (_h : ¬ n < 0) : sg false (n % 4294967296 + 4294967296 * (n / 4294967296)) = n := by simp only [sg]; simp; omega
theorem sg_two' {n : Int} (_h : n < 0) : sg true (-n % 4294967296 + 4294967296 * (-n / 4294967296)) = n := by simp only [sg]; simp; omega

set_option maxHeartbeats 1000000 in
theorem specOf (n : Int) (w : World) (h1 : -9223372036854775808 ≤ n) (h2 : n ≤ 9223372036854775807) :
    Calls Tryd.prog 31 #[.int .i64 n] w fun e w' => ∃ v, e = .returned v ∧ IsNum w.heap.size w' v n ∧ Below w.heap.size w w' := by
  by_cases h0 : n < 0
  · have E : Hid (_ = n) := sg_two' h0
    have ho := fun o => Own.lit2 (w.alloc o) 96 (-n % 4294967296) (-n / 4294967296) (by omega) (by omega)
    simp only [World.size_alloc] at ho
    have HO : Hid (∀ o, Own (w.heap.size + 1) ((w.alloc o).alloc (.cells #[.int .u32 (-n % 4294967296), .int .u32 (-n / 4294967296)] 96)) (some ⟨w.heap.size + 1, 0, none⟩) 2 [-n % 4294967296, -n / 4294967296]) := ho
    clear ho
    go_enter Tryd.func31, Tryd.ntmps31
    go_wp2_with fail
    rw [show -(n + 1) + 1 = -n by omega]
    refine (l1Num2 true _ _ _ _ (HO.out _).toSees).mono ?_
    rintro e w' ⟨v, rfl, hI, hb⟩
    replace hI := hI.eq E.out
    obtain ⟨g, a', l, c', rfl⟩ := hI.shape
    obtain ⟨q1, q2⟩ := at_block hb (b := w.heap.size) (by simp; omega)
    have hz : w.heap.size < w'.heap.size := by have := hb.size; simp at this; omega
    have hB := (below2 _ _ _).trans (hb.mono (by simp; omega))
    simp only [World.size_alloc] at hI
    clear hb HO
    go_wp2
    exact bodyPost_ret (v := .agg #[.bool g, .slice a' l c']) (by simp [results, Tryd.results31, go_sem, q1]) rfl ⟨_, rfl, hI.put (by omega), below_put hB _ _⟩
  · have E : Hid (_ = n) := sg_two h0
    have ho := fun o => Own.lit2 (w.alloc o) 96 (n % 4294967296) (n / 4294967296) (by omega) (by omega)
    simp only [World.size_alloc] at ho
    have HO : Hid (∀ o, Own (w.heap.size + 1) ((w.alloc o).alloc (.cells #[.int .u32 (n % 4294967296), .int .u32 (n / 4294967296)] 96)) (some ⟨w.heap.size + 1, 0, none⟩) 2 [n % 4294967296, n / 4294967296]) := ho
    clear ho
    go_enter Tryd.func31, Tryd.ntmps31
    go_wp2_with fail
    refine (l1Num2 false _ _ _ _ (HO.out _).toSees).mono ?_
    rintro e w' ⟨v, rfl, hI, hb⟩
    replace hI := hI.eq E.out
    obtain ⟨g, a', l, c', rfl⟩ := hI.shape
    obtain ⟨q1, q2⟩ := at_block hb (b := w.heap.size) (by simp; omega)
    have hz : w.heap.size < w'.heap.size := by have := hb.size; simp at this; omega
    have hB := (below2 _ _ _).trans (hb.mono (by simp; omega))
    simp only [World.size_alloc] at hI
    clear hb HO
    go_wp2
    exact bodyPost_ret (v := .agg #[.bool g, .slice a' l c']) (by simp [results, Tryd.results31, go_sem, q1]) rfl ⟨_, rfl, hI.put (by omega), below_put hB _ _⟩

end Go.Proofs.YtneilolpmjblhaaDoor

/- A right number at a value, with what it is. -/
namespace Go.Proofs.YtneilolpmjblhaaDoor
open Go.RowKit

theorem tk_val {us : List Int} {n : Int} (hl : Lim us) (hn : Nrm us) (l : us.length ≤ 24) (hv : val us = mg n) : okB (decide (n < 0)) us = true ∧ tk (decide (n < 0)) us = n := by
  have ok : okB (decide (n < 0)) us = true := by
    unfold okB
    by_cases h0 : us.length = 0
    · rw [if_pos h0]
      obtain rfl : us = [] := List.eq_nil_of_length_eq_zero h0
      have : ¬ n < 0 := by
        intro h
        unfold mg at hv
        rw [if_pos h] at hv
        simp [val] at hv
        omega
      simp [this]
    · rw [if_neg h0]
      simp only [Bool.and_eq_true, decide_eq_true_eq, bne_iff_ne]
      refine ⟨l, ?_⟩
      have hlt : us.length - 1 < us.length := by omega
      rw [List.getElem?_eq_getElem hlt]
      exact last_of_Nrm hn _ (by rw [List.getLast?_eq_getElem?, List.getElem?_eq_getElem hlt]; rfl)
  refine ⟨ok, ?_⟩
  unfold tk tkG tkL
  rw [if_pos ok, ok, hv]
  unfold mg sg
  by_cases h : n < 0 <;> simp [h] <;> omega

/-- A number of at most 24 limbs. -/
structure NumV (w : World) (v : Value) (z : Int) : Prop where
  is' : ∃ a c us, v = .agg #[.bool (decide (z < 0)), .slice a us.length c] ∧ Sees w a c us ∧ Nrm us ∧ us.length ≤ 24 ∧ val us = mg z
theorem NumV.below {w w' : World} {v : Value} {z : Int} (h : NumV w v z) (hb : Below w.heap.size w w') : NumV w' v z := by
  obtain ⟨a, c, us, e, s, r⟩ := h.is'
  exact ⟨a, c, us, e, s.below hb, r⟩
theorem IsNum.numV {base : Nat} {w : World} {v : Value} {z : Int} (h : IsNum base w v z) (h1 : -(4294967296 ^ 24) < z) (h2 : z < 4294967296 ^ 24) : NumV w v z := by
  obtain ⟨a, c, us, e, o, n, hv⟩ := h
  refine ⟨a, c, us, e, o.toSees, n, len_le o.lim n ?_, hv⟩
  rw [hv]
  unfold mg
  split <;> omega
theorem ok_facts {g : Bool} {xs : List Int} (hl : Lim xs) (h : okB g xs = true) : g = decide (tk g xs < 0) ∧ Nrm xs ∧ xs.length ≤ 24 ∧ val xs = mg (tk g xs) := by
  have el : tkL g xs = xs := by unfold tkL; rw [if_pos h]
  have eg : tkG g xs = g := by unfold tkG; rw [h]; simp
  obtain ⟨_, n, l, z⟩ := tk_facts g xs hl
  rw [el] at n l z
  rw [eg] at z
  have hv : tk g xs = sg g (val xs) := by unfold tk; rw [eg, el]
  refine ⟨?_, n, l, by rw [hv, mg_sg (val_nonneg hl)]⟩
  rw [hv]
  by_cases e : xs = []
  · rw [z e, e]; rfl
  · have := val_pos hl n e
    unfold sg
    cases g
    · simp; omega
    · simp; omega
theorem tk_ne {g : Bool} {xs : List Int} (hl : Lim xs) : decide (tk g xs ≠ 0) = (okB g xs && decide (0 < xs.length)) := by
  cases h : okB g xs
  · have el : tkL g xs = [] := by unfold tkL; rw [if_neg (by rw [h]; decide)]
    have : tk g xs = 0 := by unfold tk; rw [el]; cases tkG g xs <;> rfl
    rw [this]; rfl
  · obtain ⟨_, n, _, hv⟩ := ok_facts hl h
    by_cases e : xs = []
    · rw [e] at hv ⊢
      have : tk g [] = 0 := by
        have h0 : mg (tk g []) = 0 := hv.symm
        unfold mg at h0
        split at h0 <;> omega
      rw [this]; rfl
    · have hp := val_pos hl n e
      have hlen := List.length_pos_iff.2 e
      have : tk g xs ≠ 0 := by
        intro z
        rw [z] at hv
        simp [mg] at hv
        omega
      simp [this, hlen]
theorem abs_lt {g : Bool} {xs : List Int} (hl : Lim xs) (h : okB g xs = true) : mg (tk g xs) < 4294967296 ^ xs.length := by
  rw [← (ok_facts hl h).2.2.2]; exact val_lt hl
theorem mg_nat (x : Int) : mg x = (x.natAbs : Int) := by unfold mg; split <;> omega
end Go.Proofs.YtneilolpmjblhaaDoor
