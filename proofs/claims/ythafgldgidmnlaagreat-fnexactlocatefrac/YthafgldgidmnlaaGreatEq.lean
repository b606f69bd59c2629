import Derived.Test.YthafgldgidmnlaaGreatProg
import Derived.Test.YthafgldgidmnlaaGreatBase
import Derived.WalkKit
import Derived.WalkSpells
import Derived.WalkLawsBesides
import Derived.BigQuiet
import Derived.Deep.QuietTactic
import Derived.Laws.AppendOwnNone
import Derived.Laws.CopyOwn
import Derived.Maps.AppendAt
import Derived.Laws.IdiomStrings
import Derived.Deep.LoopGhost
/- The laws' helpers on slices of limbs: two that read the same are told to be equal; marking a slice and asking for the marks. -/
namespace Go.Proofs.YthafgldgidmnlaaGreat
open Go.RowKit

set_option maxHeartbeats 400000 in
theorem eqU (a b : Option Addr) (c d : Nat) (xs : List Int) (w : World) (h : Sees w a c xs) (k : Sees w b d xs) :
    Calls Tryz.prog 42 #[.slice a xs.length c, .slice b xs.length d] w fun e w' => e = .returned (.bool true) ∧ ∃ n, w' = w.drewN n := by
  have hm := h.max
  have hf := h.fits
  unfold maxLen at hm
  have hne : ((xs.length : Int) != (xs.length : Int)) = false := by simp
  go_enter Tryz.func42, Tryz.ntmps42
  go_wp2
  go_loopw [5] (fun i wr => ∃ j n : Nat, j ≤ xs.length ∧ i = .int .i64 j ∧ wr = w.drewN n) (fun i _ => xs.length - (intOf i).toNat)
  case atStart => exact ⟨0, 0, Nat.zero_le _, rfl, rfl⟩
  case round =>
    obtain ⟨j, n, hj, rfl, rfl⟩ := hrel
    by_cases hlt : j < xs.length
    · obtain ⟨b1, o1, rfl, hc1⟩ := h.cells (by intro e; simp [e] at hlt)
      obtain ⟨b2, o2, rfl, hc2⟩ := k.cells (by intro e; simp [e] at hlt)
      have g1 := hc1 j hlt
      have g2 := hc2 j hlt
      clear hc1 hc2 h k
      go_wp2
      go_quiet (fail)
      go_wp2
      go_roundw
      case rel => exact ⟨j + 1, _, by omega, by go_num, rfl⟩
      case measure => simp [intOf]; omega
    · go_wp2
      go_ret
      exact ⟨rfl, n, rfl⟩
end Go.Proofs.YthafgldgidmnlaaGreat

/- The laws' helpers on numbers: their copies, their sizes, whether two are equal, their marks. -/
namespace Go.Proofs.YthafgldgidmnlaaGreat
open Go.RowKit

theorem infoU : (Tryz.prog.info? 81).map (fun i => (i.zero, i.size, i.bytes)) = some (some (.int .u32 0), 1, 4) := by kernel_rfl

set_option maxHeartbeats 400000 in
theorem toU (a : Option Addr) (c : Nat) (xs : List Int) (w : World) (h : Came w a c xs) (hs : xs.length ≤ 1048576) :
    Calls Tryz.prog 32 #[.slice a xs.length c] w fun e w' => ∃ a' c', e = .returned (.slice a' xs.length c') ∧ Own w.heap.size w' a' c' xs ∧ Below w.heap.size w w' := by
  obtain ⟨i0, hi, hz0, hz1, hz2⟩ := info_parts infoU
  go_enter Tryz.func32, Tryz.ntmps32
  go_wp2_with (at_make; refine wpList_make_full _ rfl _ _ 25 rfl w.heap.size 81 i0 (.int .u32 0) 1 Tryz.underlying25 hi hz0 hz1 .i64 .i64 _ _ xs.length rfl rfl rfl rfl ?b2 ?b3 (Nat.le_refl _) ?_)
  case b2 => rw [hz2]; omega
  case b3 => unfold maxLen; omega
  intro w0 hown0 hgrow0
  have hown1 : w0.ownsRow w.heap.size 81 1 (.slice (some ⟨w.heap.size, 0, none⟩) xs.length xs.length) xs.length ((List.replicate xs.length 0).map (Value.int .u32)) := by
    have e : (madeCells #[.int .u32 0] xs.length).toList = (List.replicate xs.length 0).map (Value.int .u32) := by
      rw [toList_madeCells_one, List.map_replicate]
    rw [← e]; exact hown0
  have ho := (Own.of_row hown1 (Lim.zeros _)).1
  have hb0 : Below w.heap.size w w0 := (Below.refl _ _).grown hgrow0 (Nat.le_refl _) (fun k h => by cases h)
  have hm := h.max
  have hf := h.fits
  unfold maxLen at hm
  clear hown0 hown1 hgrow0 hi hz0 hz1 hz2 hs
  go_wp2
  go_loopw [4] (fun i wr => ∃ j : Nat, j ≤ xs.length ∧ i = .int .i64 j ∧ Own w.heap.size wr (some ⟨w.heap.size, 0, none⟩) xs.length (copied xs j) ∧ Below w.heap.size w wr) (fun i _ => xs.length - (intOf i).toNat)
  case atStart => exact ⟨0, Nat.zero_le _, rfl, by rw [copied_zero]; exact ho, hb0⟩
  case round =>
    obtain ⟨j, hj, rfl, hown, hbw⟩ := hrel
    clear ho hb0
    by_cases hlt : j < xs.length
    · have hne : xs ≠ [] := by intro e; simp [e] at hlt
      obtain ⟨b1, o1, rfl, hc1⟩ := (h.below hbw).cells hne
      have g0 := hc1 j hlt
      have hlen := copied_length xs j hj
      have hne2 : copied xs j ≠ [] := by intro e; rw [e] at hlen; simp at hlen; omega
      have hst := hown.store (j := j) rfl (by omega) (v := xs[j]?.getD 0) (h.lim.get j)
      rw [copied_step xs j hlt] at hst
      obtain ⟨b2, o2, e2, hc⟩ := hown.cells hne2
      simp only [Option.some.injEq, Addr.mk.injEq] at e2
      obtain ⟨rfl, rfl, _⟩ := e2
      have g1 := hc j (by omega)
      have g2 := (hown.new _ _ rfl hne2).2 j (by omega)
      simp only [Nat.zero_add] at g1 g2 hst
      have hb2 := hbw.setCell (p := ⟨w.heap.size, j, none⟩) (Nat.le_refl _) (.int .u32 (xs[j]?.getD 0))
      clear hc hc1 hown hne2 hlen h hbw hne
      generalize xs[j]?.getD 0 = x at g0 hst hb2
      go_wp2
      go_roundw
      case rel => exact ⟨j + 1, by omega, by go_num, hst, hb2⟩
      case measure => simp [intOf]; omega
    · have : j = xs.length := by omega
      subst this
      go_wp2
      go_ret
      exact ⟨_, _, rfl, by rw [copied_all] at hown; exact hown, hbw⟩
theorem szU (a : Option Addr) (c n : Nat) (left : Int) (w : World) (hl : 0 ≤ left ∧ left ≤ 1048576) (hn : n ≤ 9223372036854775807) :
    Calls Tryz.prog 26 #[.slice a n c, .int .i64 left] w fun e w' => e = .returned (.int .i64 (if left - n < 0 then -1 else left - n)) ∧ w' = w := by
  obtain ⟨h1, h2⟩ := hl
  by_cases hc : left - n < 0
  · rw [if_pos hc]
    go_enter Tryz.func26, Tryz.ntmps26
    go_wp2
    go_ret
    exact ⟨rfl, rfl⟩
  · rw [if_neg hc]
    go_enter Tryz.func26, Tryz.ntmps26
    go_wp2
    go_ret
    exact ⟨rfl, rfl⟩

theorem szN (g : Bool) (a : Option Addr) (c n : Nat) (left : Int) (w : World) (hl : 0 ≤ left ∧ left ≤ 1048576) (hn : n ≤ 9223372036854775807) :
    Calls Tryz.prog 13 #[.agg #[.bool g, .slice a n c], .int .i64 left] w fun e w' => e = .returned (.int .i64 (if left - n < 0 then -1 else left - n)) ∧ Below w.heap.size w w' := by
  have h1 := hl.1
  have h2 := hl.2
  by_cases hc : left - n < 0
  all_goals
    go_enter Tryz.func13, Tryz.ntmps13
    go_wp2_with (go_at_call 26; refine (szU a c n left _ hl hn).mono ?_; rintro e w' ⟨rfl, rfl⟩)
    go_ret
    exact ⟨by simp, (Below.refl _ _).alloc (Nat.le_refl _) _⟩

theorem eqN (g : Bool) (a b : Option Addr) (c d : Nat) (xs : List Int) (w : World) (h : Sees w a c xs) (k : Sees w b d xs) :
    Calls Tryz.prog 24 #[.agg #[.bool g, .slice a xs.length c], .agg #[.bool g, .slice b xs.length d]] w fun e w' => e = .returned (.bool true) ∧ Below w.heap.size w w' := by
  go_enter Tryz.func24, Tryz.ntmps24
  go_wp2_with (go_at_call 42; refine (eqU a b c d xs _ (h.below ?h1) (k.below ?h2)).mono ?_)
  case h1 => exact ((Below.refl _ _).alloc (Nat.le_refl _) _).alloc (by simp) _
  case h2 => exact ((Below.refl _ _).alloc (Nat.le_refl _) _).alloc (by simp) _
  rintro e w' ⟨rfl, n, rfl⟩
  go_wp2
  go_ret
  exact ⟨rfl, below_drewN (((Below.refl _ _).alloc (Nat.le_refl _) _).alloc (by simp) _) n⟩
set_option maxHeartbeats 400000 in
theorem toN (g : Bool) (a : Option Addr) (c : Nat) (xs : List Int) (w : World) (h : Came w a c xs) (hs : xs.length ≤ 1048576) :
    Calls Tryz.prog 18 #[.agg #[.bool g, .slice a xs.length c]] w fun e w' => ∃ a' c', e = .returned (.agg #[.bool g, .slice a' xs.length c']) ∧ Own w.heap.size w' a' c' xs ∧ Below w.heap.size w w' := by
  go_enter Tryz.func18, Tryz.ntmps18
  go_wp2_with (go_at_call 32; refine (toU a c xs _ (h.below ?h1) hs).mono ?_)
  case h1 => exact below3 _ _ _ _
  rintro e w' ⟨a', c', rfl, ho, hb⟩
  obtain ⟨hc, hf⟩ := bcell hb
  have hz : w.heap.size + 2 < w'.heap.size := by have := hb.size; simp at this; omega
  clear h hs
  simp only [World.size_alloc] at hc hf ho
  have hb' := (below3 _ _ _ _).trans (hb.mono (by simp; omega))
  clear hb
  go_wp2
  refine bodyPost_ret (v := .agg #[.bool g, .slice a' xs.length c']) (by simp [results, Tryz.results18, go_sem, hc]) rfl ⟨a', c', rfl, ?_, ?_⟩
  · exact (((ho.setCell (by dsimp only; omega) _).setCell (by dsimp only; omega) _).setCell (by dsimp only; omega) _).base_le (by omega)
  · exact ((hb'.setCell (by dsimp only; omega) _).setCell (by dsimp only; omega) _).setCell (by dsimp only; omega) _

end Go.Proofs.YthafgldgidmnlaaGreat

/- The specification's l1Num: noughts on top are cut off, what is left is copied. -/
namespace Go.Proofs.YthafgldgidmnlaaGreat
open Go.RowKit

set_option maxHeartbeats 1000000 in
theorem l1NumC (neg : Bool) (a : Option Addr) (c : Nat) (xs : List Int) (w : World) (h : Sees w a c xs) (hs : xs.length ≤ 2097152) :
    Calls Tryz.prog 74 #[.bool neg, .slice a xs.length c] w fun e w' => ∃ v, e = .returned v ∧ IsNum w.heap.size w' v (sg neg (val xs)) ∧ Below w.heap.size w w' := by
  have hm := h.max
  have hf := h.fits
  unfold maxLen at hm
  have HS : Hid (xs.length ≤ 2097152) := hs
  clear hs
  go_enter Tryz.func74, Tryz.ntmps74
  go_wp2
  go_loop [5] (fun n => ∃ j : Nat, j ≤ xs.length ∧ n = .int .i64 j ∧ Hid (∀ i, j ≤ i → xs[i]?.getD 0 = 0)) (fun n => (intOf n).toNat)
  case atStart => exact ⟨xs.length, Nat.le_refl _, rfl, fun i hi => by rw [List.getElem?_eq_none hi]; rfl⟩
  case round =>
    obtain ⟨j, hj, rfl, hz⟩ := hrel
    by_cases h0 : j = 0
    · have H : Hid (val xs = 0) := by
        have := (cut_facts hj hz.out (.inl h0)).2.1
        subst h0; exact this.symm
      subst h0
      clear hz
      rcases h.shape with ⟨rfl, rfl⟩ | ⟨b, off, rfl⟩
      all_goals
        clear h
        cases neg
        all_goals
          go_wp2
          exact bodyPost_ret (v := .agg #[.bool false, .slice (some ⟨w.heap.size + 1, 0, none⟩) 0 0]) (by simp [results, Tryz.results74, go_sem]) rfl ⟨_, rfl, IsNum.zero _ _ _ _ _ H.out, below2 _ _ _⟩
    · have hne : xs ≠ [] := by intro e; simp [e] at hj; omega
      obtain ⟨b, off, rfl, hc⟩ := h.cells hne
      have g1 := hc (j - 1) (by omega)
      have hp : (0 : Int) < j := by omega
      have hlt := World.block_lt_of_cell? _ _ g1
      by_cases hx : xs[j - 1]?.getD 0 = 0
      · rw [hx] at g1
        have hz' : Hid (∀ i, j - 1 ≤ i → xs[i]?.getD 0 = 0) := zeros_step hz.out hx
        clear hz hx h hc
        go_wp2
        go_round
        case rel => exact ⟨j - 1, by omega, by go_num, hz'⟩
        case measure => simp [intOf]; omega
      · have H := cut_facts hj hz.out (.inr hx)
        have hx' : (xs[j - 1]?.getD 0 == 0) = false := by simpa using hx
        generalize xs[j - 1]?.getD 0 = x at g1 hx'
        have HH : Hid (Nrm (xs.take j) ∧ val (xs.take j) = val xs ∧ (xs.take j).length = j) := H
        have HC : Hid (Sees w (some ⟨b, off, none⟩) c xs) := h
        have HL : Lim (xs.take j) := h.lim.take j
        obtain ⟨i0, hi, hz0, hz1, hz2⟩ := info_parts infoU
        clear hz hx h H hc
        have HJ : Hid (j * 4 ≤ 140737488355328) := by have := HS.out; show _ ≤ _; omega
        have HK : ∀ o1 o2, Hid (∀ q u, ((xs.take j).map (Value.int .u32))[q]? = some u → ((w.alloc o1).alloc o2).cell? ((⟨b, off, none⟩ : Addr).add q) = some u) := fun o1 o2 => (HC.out.below (below2 _ _ _)).toCame.news hj
        clear HC HS
        have hj' : 0 < j := by omega
        rcases neg with _ | _
        all_goals
          go_wp2_with (at_builtin; refine wpList_append_own _ rfl (.tmp 25) (.tmp 28) 25 rfl (w.heap.size + 1) 81 i0 (.int .u32 0) 1 4 Tryz.underlying25 hi hz0 hz1 hz2 rfl (by decide) (.slice (some ⟨w.heap.size + 1, 0, none⟩) 0 0) 0 [] rfl (ownsRow_empty2 _ _ _) ⟨b, off, none⟩ j _ ((xs.take j).map (Value.int .u32)) rfl (by rw [List.length_map, HH.out.2.2, Nat.mul_one]) ((HK _ _).out) (ones _) (by unfold maxLen; omega) (by have := HJ.out; omega) (by simp) ?_; intro v' w' hown' hgrow' _; obtain ⟨q1, q2⟩ := grown_at hgrow' (b := w.heap.size) (by simp; omega) (by simp [Value.ownBlock]); obtain ⟨g, cap', hv, ho⟩ := Own.of_append hown' HL (by omega); rw [HH.out.2.2] at hv; rw [hv]; have hz : w.heap.size < w'.heap.size := (by have := hgrow'.size; simp at this; omega); have hB : Below w.heap.size w w' := ((below2 _ _ _).grown hgrow' (by simp; omega) (by intro k hk; simp [Value.ownBlock] at hk; omega)); clear hown' hgrow' hv)
        · have hI := IsNum.mk (neg := false) (((ho.setCell (p := ⟨w.heap.size, 0, none⟩) (by dsimp only; omega) (.bool false)).setCell (p := ⟨w.heap.size, 1, none⟩) (by dsimp only; omega) (.slice (some ⟨g, 0, none⟩) j cap')).base_le (Nat.le_succ _)) HH.out.1
          rw [HH.out.2.1, HH.out.2.2] at hI
          exact bodyPost_ret (v := .agg #[.bool (false && decide (0 < j)), .slice (some ⟨g, 0, none⟩) j cap']) (by simp [results, Tryz.results74, go_sem, q1]) rfl ⟨_, rfl, hI, (hB.setCell (by dsimp only; omega) _).setCell (by dsimp only; omega) _⟩
        · have hI := IsNum.mk (neg := true) (((ho.setCell (p := ⟨w.heap.size, 0, none⟩) (by dsimp only; omega) (.bool true)).setCell (p := ⟨w.heap.size, 1, none⟩) (by dsimp only; omega) (.slice (some ⟨g, 0, none⟩) j cap')).base_le (Nat.le_succ _)) HH.out.1
          rw [HH.out.2.1, HH.out.2.2] at hI
          exact bodyPost_ret (v := .agg #[.bool (true && decide (0 < j)), .slice (some ⟨g, 0, none⟩) j cap']) (by simp [results, Tryz.results74, go_sem, q1, hj']) rfl ⟨_, rfl, hI, (hB.setCell (by dsimp only; omega) _).setCell (by dsimp only; omega) _⟩

end Go.Proofs.YthafgldgidmnlaaGreat

/- Limb by limb: the arithmetic of sums, of differences, of comparing. No program is named here. -/
namespace Go.Proofs.YthafgldgidmnlaaGreat
open Go.RowKit

theorem val_snoc (ws : List Int) (x : Int) : val (ws ++ [x]) = val ws + 4294967296 ^ ws.length * x := by
  rw [val_append]; simp [val]
theorem val_take_succ (xs : List Int) (j : Nat) : val (xs.take (j + 1)) = val (xs.take j) + 4294967296 ^ j * (xs[j]?.getD 0) := by
  by_cases h : j < xs.length
  · rw [List.take_succ_eq_append_getElem h, val_snoc, List.getElem?_eq_getElem h]
    have : (xs.take j).length = j := by simp; omega
    rw [this]; rfl
  · rw [List.take_of_length_le (by omega), List.take_of_length_le (by omega), List.getElem?_eq_none (by omega)]
    simp
theorem digit_step (P t : Int) : P * (t % 4294967296) + P * 4294967296 * (t / 4294967296) = P * t := by
  rw [Int.mul_assoc, ← Int.mul_add, Int.add_comm, Int.mul_ediv_add_emod]
theorem Lim.snoc {ws : List Int} (h : Lim ws) {x : Int} (hx : 0 ≤ x ∧ x < 4294967296) : Lim (ws ++ [x]) := h.append (Lim.mk hx Lim.nil)
theorem row_step {ws us : List Int} {j : Nat} (hw : ws.length = j) (hj : j < us.length) (x : Int) : (ws ++ us.drop j).set j x = (ws ++ [x]) ++ us.drop (j + 1) := by
  rw [List.set_append, if_neg (by omega), hw, Nat.sub_self, List.append_assoc, List.drop_eq_getElem_cons hj, List.set_cons_zero]
  rfl
theorem row_length {ws us : List Int} {j : Nat} (hw : ws.length = j) (hj : j ≤ us.length) : (ws ++ us.drop j).length = us.length := by simp; omega
theorem row_get {ws us : List Int} {j : Nat} (hw : ws.length = j) (_hj : j < us.length) : (ws ++ us.drop j)[j]?.getD 0 = us[j]?.getD 0 := by
  rw [List.getElem?_append_right (by omega), hw, Nat.sub_self, List.getElem?_drop, Nat.add_zero]

/-- One limb of a sum. -/
theorem add_round {ws us ys : List Int} {j : Nat} {cr : Int} (hw : ws.length = j) (h : val ws + 4294967296 ^ j * cr = val (us.take j) + val (ys.take j)) :
    val (ws ++ [(cr + us[j]?.getD 0 + ys[j]?.getD 0) % 4294967296]) + 4294967296 ^ (j + 1) * ((cr + us[j]?.getD 0 + ys[j]?.getD 0) / 4294967296) = val (us.take (j + 1)) + val (ys.take (j + 1)) := by
  rw [val_snoc, hw, val_take_succ, val_take_succ, Int.pow_succ]
  have := digit_step (4294967296 ^ j) (cr + us[j]?.getD 0 + ys[j]?.getD 0)
  rw [Int.mul_add, Int.mul_add] at this
  omega

/-- One limb of a difference: so often as 't' says. -/
theorem sub_round {ws us ys : List Int} {j : Nat} {ow t x : Int} (hw : ws.length = j) (h : val ws - 4294967296 ^ j * ow = val (us.take j) - t * val (ys.take j))
    {q : Int} (hx : x - 4294967296 * q = us[j]?.getD 0 - (ow + t * (ys[j]?.getD 0))) :
    val (ws ++ [x]) - 4294967296 ^ (j + 1) * q = val (us.take (j + 1)) - t * val (ys.take (j + 1)) := by
  rw [val_snoc, hw, val_take_succ, val_take_succ, Int.pow_succ]
  have e1 : (4294967296 : Int) ^ j * (x - 4294967296 * q) = 4294967296 ^ j * (us[j]?.getD 0 - (ow + t * (ys[j]?.getD 0))) := by rw [hx]
  rw [Int.mul_sub, Int.mul_sub, Int.mul_add, ← Int.mul_assoc, ← Int.mul_assoc] at e1
  rw [Int.mul_add, ← Int.mul_assoc t, Int.mul_comm t (4294967296 ^ j)]
  omega

theorem Own.of_heap {w : World} {base g : Nat} {e : TypeId} {xs : List Int} (h : w.heap[g]? = some (.cells (xs.map (Value.int .u32)).toArray e (0, 0))) (hl : Lim xs) (hm : xs.length ≤ maxLen) (hb : base ≤ g) :
    Own base w (some ⟨g, 0, none⟩) xs.length xs :=
  (Own.of_row (n := xs.length) ⟨by simp, .inr ⟨g, xs.length, _, rfl, hb, h, Nat.le_refl _, hm, by simp, by simp [List.take_of_length_le]⟩⟩ hl).1
theorem heap_of_made {w : World} {base e g n : Nat} {z : Value} (h : w.ownsRow base e 1 (.slice (some ⟨g, 0, none⟩) n n) n (List.replicate n z)) : w.heap[g]? = some (.cells (List.replicate n z).toArray e (0, 0)) := by
  obtain ⟨_, h2⟩ := h
  rcases h2 with ⟨h2, _⟩ | ⟨g', cap', cur, hv, hb, hh, hc, hm, hs, ht⟩
  · cases h2
  simp only [Value.slice.injEq, Option.some.injEq, Addr.mk.injEq, and_true] at hv
  obtain ⟨rfl, _, rfl⟩ := hv
  rw [hh]
  have : cur.toList = List.replicate n z := by
    rw [← ht, List.take_of_length_le]
    simpa using Nat.le_of_eq hs
  rw [← this]
/-- A copy laid over noughts. -/
theorem splice_front (xs : List Int) (n : Nat) (_h : xs.length ≤ n) : splice (List.replicate n (Value.int .u32 0)) 0 (xs.map (Value.int .u32)) = (xs ++ List.replicate (n - xs.length) 0).map (Value.int .u32) := by
  simp [splice, List.map_append, List.drop_replicate]
theorem val_zeros (n : Nat) : val (List.replicate n 0) = 0 := by
  induction n with
  | zero => rfl
  | succ n ih => simp [List.replicate_succ, val, ih]

/-! ### Comparing -/
/-- -1, 0 or 1. -/
def cmpZ (a b : Int) : Int := if a < b then -1 else if a = b then 0 else 1
theorem cmp_at {xs ys : List Int} {j : Nat} (hx : Lim xs) (hy : Lim ys) (hl : xs.length = ys.length) (hj : j < xs.length) (he : xs.drop (j + 1) = ys.drop (j + 1)) (hlt : xs[j]?.getD 0 < ys[j]?.getD 0) : val xs < val ys := by
  have e1 : val xs = val (xs.take (j + 1)) + 4294967296 ^ (j + 1) * val (xs.drop (j + 1)) := by
    have := val_append (xs.take (j + 1)) (xs.drop (j + 1))
    rw [List.take_append_drop] at this
    rw [this, List.length_take, Nat.min_eq_left (by omega)]
  have e2 : val ys = val (ys.take (j + 1)) + 4294967296 ^ (j + 1) * val (xs.drop (j + 1)) := by
    have := val_append (ys.take (j + 1)) (ys.drop (j + 1))
    rw [List.take_append_drop] at this
    rw [this, List.length_take, Nat.min_eq_left (by omega), he]
  rw [val_take_succ] at e1 e2
  have b1 := val_lt (hx.take j)
  have b2 := val_nonneg (hy.take j)
  rw [List.length_take, Nat.min_eq_left (by omega)] at b1
  have hp := p_pos j
  have hm : (4294967296 : Int) ^ j * (xs[j]?.getD 0 + 1) ≤ 4294967296 ^ j * (ys[j]?.getD 0) := Int.mul_le_mul_of_nonneg_left (by omega) (Int.le_of_lt hp)
  rw [Int.mul_add, Int.mul_one] at hm
  omega
theorem cmp_len {xs ys : List Int} (hx : Lim xs) (hy : Lim ys) (ny : Nrm ys) (hl : xs.length < ys.length) : val xs < val ys := by
  have hne : ys ≠ [] := by intro e; simp [e] at hl
  have h1 := val_lt hx
  have h2 := val_ge hy ny hne
  have h3 := p_mono xs.length (ys.length - 1 - xs.length)
  rw [show xs.length + (ys.length - 1 - xs.length) = ys.length - 1 by omega] at h3
  omega
theorem drop_step {xs ys : List Int} {j : Nat} (hl : xs.length = ys.length) (he : xs.drop (j + 1) = ys.drop (j + 1)) (h : xs[j]?.getD 0 = ys[j]?.getD 0) : xs.drop j = ys.drop j := by
  by_cases hj : j < xs.length
  · have hj' : j < ys.length := by omega
    rw [List.drop_eq_getElem_cons hj, List.drop_eq_getElem_cons hj', he]
    rw [List.getElem?_eq_getElem hj, List.getElem?_eq_getElem hj'] at h
    simp only [Option.getD_some] at h
    rw [h]
  · rw [List.drop_eq_nil_of_le (by omega), List.drop_eq_nil_of_le (by omega)]

end Go.Proofs.YthafgldgidmnlaaGreat

/- The specification's sums, differences and comparing of limbs: l1AddMag, l1SubMag, l1CmpMag. -/
namespace Go.Proofs.YthafgldgidmnlaaGreat
open Go.RowKit

theorem one_new (w : World) (e : TypeId) (y : Int) : ∀ j u, ([y].map (Value.int .u32))[j]? = some u → (w.alloc (.cells #[.int .u32 y] e)).cell? ((⟨w.heap.size, 0, none⟩ : Addr).add j) = some u := by
  intro j u hu
  cases j with
  | zero =>
    simp at hu
    subst hu
    exact cell_new w #[.int .u32 y] e 0 rfl
  | succ j => simp at hu

theorem ownsRow_snoc {w : World} {base e n : Nat} {v : Value} {ws : List Int} {y : Int} (h : w.ownsRow base e 1 v n (ws.map (Value.int .u32) ++ [y].map (Value.int .u32))) : w.ownsRow base e 1 v n ((ws ++ [y]).map (Value.int .u32)) := by
  rw [List.map_append]; exact h

set_option maxHeartbeats 2000000 in
theorem l1AddMagC (a b : Option Addr) (c d : Nat) (xs ys : List Int) (w : World) (h : Sees w a c xs) (k : Sees w b d ys) (hx : xs.length ≤ 1048576) (hy : ys.length ≤ 1048576) :
    Calls Tryz.prog 76 #[.slice a xs.length c, .slice b ys.length d] w fun e w' => ∃ a' c' zs, e = .returned (.slice a' zs.length c') ∧ Own w.heap.size w' a' c' zs ∧ val zs = val xs + val ys ∧ (zs.length ≤ xs.length + 1 ∨ zs.length ≤ ys.length + 1) ∧ Below w.heap.size w w' := by
  obtain ⟨i0, hi, hz0, hz1, hz2⟩ := info_parts infoU
  have HX : Hid (xs.length ≤ 1048576) := hx
  have HY : Hid (ys.length ≤ 1048576) := hy
  have mx : xs.length ≤ 9223372036854775800 := by omega
  have my : ys.length ≤ 9223372036854775800 := by omega
  have LX : Hid (Lim xs) := h.lim
  have LY : Hid (Lim ys) := k.lim
  clear hx hy
  go_enter Tryz.func76, Tryz.ntmps76
  go_wp2
  go_loopw [5, 6, 7] (fun v q i wr => ∃ (j : Nat) (cr : Int) (ws : List Int), (j ≤ xs.length ∨ j ≤ ys.length) ∧ i = .int .i64 j ∧ q = .int .u64 cr ∧ 0 ≤ cr ∧ cr ≤ 1 ∧ wr.ownsRow w.heap.size 81 1 v j (ws.map (Value.int .u32)) ∧ Hid (ws.length = j ∧ Lim ws) ∧ Below w.heap.size w wr ∧ Hid (val ws + 4294967296 ^ j * cr = val (xs.take j) + val (ys.take j)))
    (fun _ _ i _ => (xs.length + ys.length) - (intOf i).toNat)
  case atStart => exact ⟨0, 0, [], .inl (Nat.zero_le _), rfl, rfl, by decide, by decide, ownsRow_empty1 _ _, ⟨rfl, Lim.nil⟩, below1 _ _, by simp [Hid, val]⟩
  case round =>
    obtain ⟨j, cr, ws, hj, rfl, rfl, c0, c1, hown, hw, hB, he⟩ := hrel
    have hm1 : j ≤ 9223372036854775800 := by rcases hj with h1 | h1 <;> omega
    have HJ : Hid (j + 1 ≤ maxLen ∧ (j + 1) * 4 ≤ 140737488355328) := by
      have h1 := HX.out
      have h2 := HY.out
      refine ⟨?_, ?_⟩
      · unfold maxLen; rcases hj with h3 | h3 <;> omega
      · rcases hj with h3 | h3 <;> omega
    have hx := LX.out.get j
    have hy := LY.out.get j
    have hr := add_round hw.out.1 he.out
    have hxs := h.below hB
    have hys := k.below hB
    have hsz := hB.size
    by_cases ha : j < xs.length
    · by_cases hb : j < ys.length
      · skip
        obtain ⟨b1, o1, rfl, hc1⟩ := hxs.cells (by intro e; simp [e] at ha)
        have g1 := hc1 j ha
        obtain ⟨b2, o2, rfl, hc2⟩ := hys.cells (by intro e; simp [e] at hb)
        have g2 := hc2 j hb
        have HR : Hid (val (ws ++ [(cr + xs[j]?.getD 0 + ys[j]?.getD 0) % 4294967296]) + 4294967296 ^ (j + 1) * ((cr + xs[j]?.getD 0 + ys[j]?.getD 0) / 4294967296) = val (xs.take (j + 1)) + val (ys.take (j + 1))) := hr
        have HW : Hid ((ws ++ [(cr + xs[j]?.getD 0 + ys[j]?.getD 0) % 4294967296]).length = j + 1 ∧ Lim (ws ++ [(cr + xs[j]?.getD 0 + ys[j]?.getD 0) % 4294967296])) := ⟨by simp [hw.out.1], hw.out.2.snoc (by omega)⟩
        have hjj : j + 1 ≤ xs.length ∨ j + 1 ≤ ys.length := by omega
        clear hr hxs hys h k he hw hj hc1 hc2
        generalize xs[j]?.getD 0 = x at *
        generalize ys[j]?.getD 0 = y at *
        go_wp2_with (at_builtin; refine wpList_append_own _ rfl (.tmp 45) (.tmp 48) 25 rfl w.heap.size 81 i0 (.int .u32 0) 1 4 Tryz.underlying25 hi hz0 hz1 hz2 rfl (by decide) _ j (ws.map (Value.int .u32)) rfl (hown.alloc _) ⟨wr.heap.size, 0, none⟩ 1 _ ([(cr + x + y) % 4294967296].map (Value.int .u32)) rfl rfl (one_new _ _ _) (ones _) HJ.out.1 HJ.out.2 (by simp <;> omega) ?_; intro v' w' hown' hgrow' _; have hB' : Below w.heap.size w w' := ((hB.trans ((below1 wr _).mono hsz)).grown hgrow' (by simp <;> omega) (fun q hq => (hown.lt q hq).1)); have hown2 := ownsRow_snoc hown'; clear hown' hgrow')
        clear HJ
        exact ⟨⟨j + 1, (cr + x + y) / 4294967296, _, hjj, by go_num, rfl, by omega, by omega, hown2, HW, hB', HR⟩, by simp [intOf]; omega⟩
      · skip
        obtain ⟨b1, o1, rfl, hc1⟩ := hxs.cells (by intro e; simp [e] at ha)
        have g1 := hc1 j ha
        have ey : ys[j]?.getD 0 = 0 := by rw [List.getElem?_eq_none (by omega)]; rfl
        rw [ey] at hr
        simp only [Int.add_zero] at hr
        have HR : Hid (val (ws ++ [(cr + xs[j]?.getD 0) % 4294967296]) + 4294967296 ^ (j + 1) * ((cr + xs[j]?.getD 0) / 4294967296) = val (xs.take (j + 1)) + val (ys.take (j + 1))) := hr
        have HW : Hid ((ws ++ [(cr + xs[j]?.getD 0) % 4294967296]).length = j + 1 ∧ Lim (ws ++ [(cr + xs[j]?.getD 0) % 4294967296])) := ⟨by simp [hw.out.1], hw.out.2.snoc (by omega)⟩
        have hjj : j + 1 ≤ xs.length ∨ j + 1 ≤ ys.length := by omega
        clear hr hxs hys h k he hw hj hc1 ey hy
        generalize xs[j]?.getD 0 = x at *
        go_wp2_with (at_builtin; refine wpList_append_own _ rfl (.tmp 45) (.tmp 48) 25 rfl w.heap.size 81 i0 (.int .u32 0) 1 4 Tryz.underlying25 hi hz0 hz1 hz2 rfl (by decide) _ j (ws.map (Value.int .u32)) rfl (hown.alloc _) ⟨wr.heap.size, 0, none⟩ 1 _ ([(cr + x) % 4294967296].map (Value.int .u32)) rfl rfl (one_new _ _ _) (ones _) HJ.out.1 HJ.out.2 (by simp <;> omega) ?_; intro v' w' hown' hgrow' _; have hB' : Below w.heap.size w w' := ((hB.trans ((below1 wr _).mono hsz)).grown hgrow' (by simp <;> omega) (fun q hq => (hown.lt q hq).1)); have hown2 := ownsRow_snoc hown'; clear hown' hgrow')
        clear HJ
        exact ⟨⟨j + 1, (cr + x) / 4294967296, _, hjj, by go_num, rfl, by omega, by omega, hown2, HW, hB', HR⟩, by simp [intOf]; omega⟩
    · by_cases hb : j < ys.length
      · skip
        have ex : xs[j]?.getD 0 = 0 := by rw [List.getElem?_eq_none (by omega)]; rfl
        rw [ex] at hr
        obtain ⟨b2, o2, rfl, hc2⟩ := hys.cells (by intro e; simp [e] at hb)
        have g2 := hc2 j hb
        simp only [Int.add_zero] at hr
        have HR : Hid (val (ws ++ [(cr + ys[j]?.getD 0) % 4294967296]) + 4294967296 ^ (j + 1) * ((cr + ys[j]?.getD 0) / 4294967296) = val (xs.take (j + 1)) + val (ys.take (j + 1))) := hr
        have HW : Hid ((ws ++ [(cr + ys[j]?.getD 0) % 4294967296]).length = j + 1 ∧ Lim (ws ++ [(cr + ys[j]?.getD 0) % 4294967296])) := ⟨by simp [hw.out.1], hw.out.2.snoc (by omega)⟩
        have hjj : j + 1 ≤ xs.length ∨ j + 1 ≤ ys.length := by omega
        clear hr hxs hys h k he hw hj ex hx hc2
        generalize ys[j]?.getD 0 = y at *
        go_wp2_with (at_builtin; refine wpList_append_own _ rfl (.tmp 45) (.tmp 48) 25 rfl w.heap.size 81 i0 (.int .u32 0) 1 4 Tryz.underlying25 hi hz0 hz1 hz2 rfl (by decide) _ j (ws.map (Value.int .u32)) rfl (hown.alloc _) ⟨wr.heap.size, 0, none⟩ 1 _ ([(cr + y) % 4294967296].map (Value.int .u32)) rfl rfl (one_new _ _ _) (ones _) HJ.out.1 HJ.out.2 (by simp <;> omega) ?_; intro v' w' hown' hgrow' _; have hB' : Below w.heap.size w w' := ((hB.trans ((below1 wr _).mono hsz)).grown hgrow' (by simp <;> omega) (fun q hq => (hown.lt q hq).1)); have hown2 := ownsRow_snoc hown'; clear hown' hgrow')
        clear HJ
        exact ⟨⟨j + 1, (cr + y) / 4294967296, _, hjj, by go_num, rfl, by omega, by omega, hown2, HW, hB', HR⟩, by simp [intOf]; omega⟩
      · have E : Hid (val ws + 4294967296 ^ j * cr = val xs + val ys) := by
          have := he.out
          rw [List.take_of_length_le (by omega), List.take_of_length_le (by omega)] at this
          exact this
        clear hr hxs hys h k he hx hy
        go_wp2_with (at_builtin; refine wpList_append_own _ rfl (.tmp 52) (.tmp 55) 25 rfl w.heap.size 81 i0 (.int .u32 0) 1 4 Tryz.underlying25 hi hz0 hz1 hz2 rfl (by decide) _ j (ws.map (Value.int .u32)) rfl (hown.alloc _) ⟨wr.heap.size, 0, none⟩ 1 _ ([cr].map (Value.int .u32)) rfl rfl (one_new _ _ _) (ones _) HJ.out.1 HJ.out.2 (by simp <;> omega) ?_; intro v' w' hown' hgrow' _; have hB' : Below w.heap.size w w' := ((hB.trans ((below1 wr _).mono hsz)).grown hgrow' (by simp <;> omega) (fun q hq => (hown.lt q hq).1)); have hown2 := ownsRow_snoc hown'; clear hown' hgrow')
        obtain ⟨g, cap', hv, ho⟩ := Own.of_append hown2 (hw.out.2.snoc (by omega)) (by omega)
        go_ret
        refine ⟨_, _, _, by rw [hv]; rfl, ho, ?_, ?_, hB'⟩
        · rw [val_snoc, hw.out.1]; exact E.out
        · have h1 := hw.out.1
          simp only [List.length_append, List.length_singleton, h1]
          omega
theorem Own.of_owns {w : World} {base e n : Nat} {v : Value} {xs : List Int} (h : w.ownsRow base e 1 v n (xs.map (Value.int .u32))) (hl : Lim xs) :
    ∃ a cap, v = .slice a xs.length cap ∧ Own base w a cap xs := by
  rcases Nat.eq_zero_or_pos n with h0 | h0
  · have h1 : xs.length = 0 := by have := h.1; simp at this; omega
    obtain rfl : xs = [] := List.eq_nil_of_length_eq_zero h1
    rcases h.2 with ⟨rfl, _⟩ | ⟨g, cap, cur, rfl, _, _, _, hm, _⟩
    · exact ⟨none, 0, rfl, Own.nil _ _⟩
    · subst h0
      exact ⟨_, cap, rfl, ⟨⟨Lim.nil, by simp, hm, fun h => absurd rfl h⟩, .inr ⟨_, _, rfl⟩⟩, fun _ _ _ h => absurd rfl h⟩
  · obtain ⟨g, cap, hv, ho⟩ := Own.of_append h hl h0
    exact ⟨_, cap, hv, ho⟩

set_option maxHeartbeats 2000000 in
theorem l1SubMagC (a b : Option Addr) (c d : Nat) (xs ys : List Int) (w : World) (h : Sees w a c xs) (k : Sees w b d ys) (hx : xs.length ≤ 2097152) (hl : ys.length ≤ xs.length) (hv : val ys ≤ val xs) :
    Calls Tryz.prog 78 #[.slice a xs.length c, .slice b ys.length d] w fun e w' => ∃ a' c' zs, e = .returned (.slice a' zs.length c') ∧ Own w.heap.size w' a' c' zs ∧ val zs = val xs - val ys ∧ zs.length = xs.length ∧ Below w.heap.size w w' := by
  obtain ⟨i0, hi, hz0, hz1, hz2⟩ := info_parts infoU
  have HX : Hid (xs.length ≤ 2097152) := hx
  have HV : Hid (val ys ≤ val xs) := hv
  have mx : xs.length ≤ 9223372036854775800 := by omega
  have LX : Hid (Lim xs) := h.lim
  have LY : Hid (Lim ys) := k.lim
  clear hx hv
  go_enter Tryz.func78, Tryz.ntmps78
  go_wp2
  go_loopw [5, 6, 7] (fun v q i wr => ∃ (j : Nat) (cr : Int) (ws : List Int), j ≤ xs.length ∧ i = .int .i64 j ∧ q = .int .u64 cr ∧ 0 ≤ cr ∧ cr ≤ 1 ∧ wr.ownsRow w.heap.size 81 1 v j (ws.map (Value.int .u32)) ∧ Hid (ws.length = j ∧ Lim ws) ∧ Below w.heap.size w wr ∧ Hid (val ws - 4294967296 ^ j * cr = val (xs.take j) - 1 * val (ys.take j)))
    (fun _ _ i _ => xs.length - (intOf i).toNat)
  case atStart => exact ⟨0, 0, [], Nat.zero_le _, rfl, rfl, by decide, by decide, ownsRow_empty1 _ _, ⟨rfl, Lim.nil⟩, below1 _ _, by simp [Hid, val]⟩
  case round =>
    obtain ⟨j, cr, ws, hj, rfl, rfl, c0, c1, hown, hw, hB, he⟩ := hrel
    have HJ : Hid (j + 1 ≤ maxLen ∧ (j + 1) * 4 ≤ 140737488355328) := by
      have h1 := HX.out
      refine ⟨?_, ?_⟩
      · unfold maxLen; omega
      · omega
    have hx := LX.out.get j
    have hy := LY.out.get j
    have hr := fun x q hxq => sub_round (x := x) (q := q) hw.out.1 he.out hxq
    have hxs := h.below hB
    have hys := k.below hB
    have hsz := hB.size
    by_cases ha : j < xs.length
    · obtain ⟨b1, o1, rfl, hc1⟩ := hxs.cells (by intro e; simp [e] at ha)
      have g1 := hc1 j ha
      by_cases hb : j < ys.length
      · obtain ⟨b2, o2, rfl, hc2⟩ := hys.cells (by intro e; simp [e] at hb)
        have g2 := hc2 j hb
        have HR : Hid (val (ws ++ [(xs[j]?.getD 0 + 4294967296 - cr - ys[j]?.getD 0) % 4294967296]) - 4294967296 ^ (j + 1) * (1 - (xs[j]?.getD 0 + 4294967296 - cr - ys[j]?.getD 0) / 4294967296) = val (xs.take (j + 1)) - 1 * val (ys.take (j + 1))) := hr _ _ (by omega)
        have HW : Hid ((ws ++ [(xs[j]?.getD 0 + 4294967296 - cr - ys[j]?.getD 0) % 4294967296]).length = j + 1 ∧ Lim (ws ++ [(xs[j]?.getD 0 + 4294967296 - cr - ys[j]?.getD 0) % 4294967296])) := ⟨by simp [hw.out.1], hw.out.2.snoc (by omega)⟩
        clear hr hxs hys h k he hw hj hc1 hc2
        generalize xs[j]?.getD 0 = x at *
        generalize ys[j]?.getD 0 = y at *
        go_wp2_with (at_builtin; refine wpList_append_own _ rfl (.tmp 35) (.tmp 38) 25 rfl w.heap.size 81 i0 (.int .u32 0) 1 4 Tryz.underlying25 hi hz0 hz1 hz2 rfl (by decide) _ j (ws.map (Value.int .u32)) rfl (hown.alloc _) ⟨wr.heap.size, 0, none⟩ 1 _ ([(x + 4294967296 - cr - y) % 4294967296].map (Value.int .u32)) rfl rfl (one_new _ _ _) (ones _) HJ.out.1 HJ.out.2 (by simp <;> omega) ?_; intro v' w' hown' hgrow' _; have hB' : Below w.heap.size w w' := ((hB.trans ((below1 wr _).mono hsz)).grown hgrow' (by simp <;> omega) (fun q hq => (hown.lt q hq).1)); have hown2 := ownsRow_snoc hown'; clear hown' hgrow')
        clear HJ
        exact ⟨⟨j + 1, 1 - (x + 4294967296 - cr - y) / 4294967296, _, by omega, by go_num, rfl, by omega, by omega, hown2, HW, hB', HR⟩, by simp [intOf]; omega⟩
      · have ey : ys[j]?.getD 0 = 0 := by rw [List.getElem?_eq_none (by omega)]; rfl
        have HR : Hid (val (ws ++ [(xs[j]?.getD 0 + 4294967296 - cr) % 4294967296]) - 4294967296 ^ (j + 1) * (1 - (xs[j]?.getD 0 + 4294967296 - cr) / 4294967296) = val (xs.take (j + 1)) - 1 * val (ys.take (j + 1))) := hr _ _ (by omega)
        have HW : Hid ((ws ++ [(xs[j]?.getD 0 + 4294967296 - cr) % 4294967296]).length = j + 1 ∧ Lim (ws ++ [(xs[j]?.getD 0 + 4294967296 - cr) % 4294967296])) := ⟨by simp [hw.out.1], hw.out.2.snoc (by omega)⟩
        clear hr hxs hys h k he hw hj hc1 ey hy
        generalize xs[j]?.getD 0 = x at *
        go_wp2_with (at_builtin; refine wpList_append_own _ rfl (.tmp 35) (.tmp 38) 25 rfl w.heap.size 81 i0 (.int .u32 0) 1 4 Tryz.underlying25 hi hz0 hz1 hz2 rfl (by decide) _ j (ws.map (Value.int .u32)) rfl (hown.alloc _) ⟨wr.heap.size, 0, none⟩ 1 _ ([(x + 4294967296 - cr) % 4294967296].map (Value.int .u32)) rfl rfl (one_new _ _ _) (ones _) HJ.out.1 HJ.out.2 (by simp <;> omega) ?_; intro v' w' hown' hgrow' _; have hB' : Below w.heap.size w w' := ((hB.trans ((below1 wr _).mono hsz)).grown hgrow' (by simp <;> omega) (fun q hq => (hown.lt q hq).1)); have hown2 := ownsRow_snoc hown'; clear hown' hgrow')
        clear HJ
        exact ⟨⟨j + 1, 1 - (x + 4294967296 - cr) / 4294967296, _, by omega, by go_num, rfl, by omega, by omega, hown2, HW, hB', HR⟩, by simp [intOf]; omega⟩
    · have hjx : xs.length = j := by omega
      have E : Hid (val ws - 4294967296 ^ xs.length * cr = val xs - val ys) := by
        have := he.out
        rw [List.take_of_length_le (by omega), List.take_of_length_le (by omega), Int.one_mul, ← hjx] at this
        exact this
      have HJX : Hid (xs.length = j) := hjx
      clear hr hxs hys h k he hx hy hjx
      obtain ⟨a2, c2, rfl, ho⟩ := Own.of_owns hown hw.out.2
      go_wp2
      go_ret
      refine ⟨_, _, _, rfl, ho, ?_, by rw [hw.out.1, HJX.out], hB⟩
      have h1 := E.out
      have h2 := HV.out
      have h3 := val_lt hw.out.2
      have h4 := val_nonneg hw.out.2
      have h6 := val_nonneg LY.out
      have h7 := val_lt LX.out
      rw [hw.out.1, ← HJX.out] at h3
      have h5 := p_pos xs.length
      by_cases hc : cr = 0
      · subst hc; simp at h1; omega
      · have : 4294967296 ^ xs.length * 1 ≤ 4294967296 ^ xs.length * cr := Int.mul_le_mul_of_nonneg_left (by omega) (by omega)
        omega
end Go.Proofs.YthafgldgidmnlaaGreat

/- Which numbers are right: the program's NumOk and the specification's. -/
namespace Go.Proofs.YthafgldgidmnlaaGreat
open Go.RowKit

/-- Right, by a number's sign and its limbs. -/
def okB (g : Bool) (xs : List Int) : Bool := if xs.length = 0 then !g else decide (xs.length ≤ 24) && (xs[xs.length - 1]?.getD 0 != 0)

theorem Sees.last {w : World} {a : Option Addr} {c : Nat} {xs : List Int} (h : Sees w a c xs) (hn : ¬ xs.length = 0) :
    ∃ b off, a = some ⟨b, off, none⟩ ∧ b < w.heap.size ∧ w.cell? ⟨b, off + (xs.length - 1), none⟩ = some (.int .u32 (xs[xs.length - 1]?.getD 0)) := by
  have hne : xs ≠ [] := by intro e; simp [e] at hn
  obtain ⟨b, off, ha, hc⟩ := h.cells hne
  exact ⟨b, off, ha, h.lt ha hne, hc _ (by omega)⟩

theorem implOk (g : Bool) (a : Option Addr) (c : Nat) (xs : List Int) (w : World) (h : Sees w a c xs) :
    Calls Tryz.prog 33 #[.agg #[.bool g, .slice a xs.length c]] w fun e w' => e = .returned (.bool (okB g xs)) ∧ Below w.heap.size w w' := by
  have hm := h.max
  have hf := h.fits
  unfold maxLen at hm
  unfold okB
  by_cases hn : xs.length = 0
  · rw [if_pos hn, hn]
    clear h hf hn
    go_enter Tryz.func33, Tryz.ntmps33
    go_wp2
    go_ret
    exact ⟨rfl, (Below.refl _ _).alloc (Nat.le_refl _) _⟩
  · rw [if_neg hn]
    obtain ⟨b, off, rfl, hlt, hc⟩ := h.last hn
    generalize xs[xs.length - 1]?.getD 0 = x at hc ⊢
    generalize xs.length = n at *
    have hn0 : ((n : Int) == 0) = false := by simpa using hn
    clear h
    by_cases hl : n ≤ 24
    · have hp : 0 < n := by omega
      rw [decide_eq_true hl, Bool.true_and]
      go_enter Tryz.func33, Tryz.ntmps33
      go_wp2
      go_ret
      exact ⟨rfl, (Below.refl _ _).alloc (Nat.le_refl _) _⟩
    · rw [decide_eq_false hl, Bool.false_and]
      have hd : decide ((n : Int) ≤ 24) = false := by simp; omega
      go_enter Tryz.func33, Tryz.ntmps33
      go_wp2
      go_ret
      exact ⟨rfl, (Below.refl _ _).alloc (Nat.le_refl _) _⟩

theorem specOk (g : Bool) (a : Option Addr) (c : Nat) (xs : List Int) (w : World) (h : Sees w a c xs) :
    Calls Tryz.prog 28 #[.agg #[.bool g, .slice a xs.length c]] w fun e w' => e = .returned (.bool (okB g xs)) ∧ Below w.heap.size w w' := by
  have hm := h.max
  have hf := h.fits
  unfold maxLen at hm
  unfold okB
  by_cases hn : xs.length = 0
  · rw [if_pos hn, hn]
    clear h hf hn
    cases g
    all_goals
      go_enter Tryz.func28, Tryz.ntmps28
      go_wp2
      go_ret
      exact ⟨rfl, (Below.refl _ _).alloc (Nat.le_refl _) _⟩
  · rw [if_neg hn]
    obtain ⟨b, off, rfl, hlt, hc⟩ := h.last hn
    generalize xs[xs.length - 1]?.getD 0 = x at hc ⊢
    generalize xs.length = n at *
    have hn0 : ((n : Int) == 0) = false := by simpa using hn
    clear h
    by_cases hl : n ≤ 24
    · have hp : 0 < n := by omega
      have hpi : (0 : Int) < n := by omega
      rw [decide_eq_true hl, Bool.true_and]
      go_enter Tryz.func28, Tryz.ntmps28
      go_wp2
      go_ret
      exact ⟨rfl, (Below.refl _ _).alloc (Nat.le_refl _) _⟩
    · rw [decide_eq_false hl, Bool.false_and]
      have hd : decide ((n : Int) ≤ 24) = false := by simp; omega
      go_enter Tryz.func28, Tryz.ntmps28
      go_wp2
      go_ret
      exact ⟨rfl, (Below.refl _ _).alloc (Nat.le_refl _) _⟩
end Go.Proofs.YthafgldgidmnlaaGreat

/- What a number is taken as: impl.taken, spec.l1Mag. -/
namespace Go.Proofs.YthafgldgidmnlaaGreat
open Go.RowKit

/-- The sign, and the limbs, that are taken. -/
def tkG (g : Bool) (xs : List Int) : Bool := okB g xs && g
def tkL (g : Bool) (xs : List Int) : List Int := if okB g xs = true then xs else []
/-- The number that is taken. -/
def tk (g : Bool) (xs : List Int) : Int := sg (tkG g xs) (val (tkL g xs))

theorem tk_facts (g : Bool) (xs : List Int) (hl : Lim xs) : Lim (tkL g xs) ∧ Nrm (tkL g xs) ∧ (tkL g xs).length ≤ 24 ∧ (tkL g xs = [] → tkG g xs = false) := by
  unfold tkL tkG
  by_cases hk : okB g xs = true
  · rw [if_pos hk, hk]
    unfold okB at hk
    by_cases h0 : xs.length = 0
    · rw [if_pos h0] at hk
      obtain rfl : xs = [] := List.eq_nil_of_length_eq_zero h0
      exact ⟨Lim.nil, trivial, by simp, fun _ => by simpa using hk⟩
    · rw [if_neg h0] at hk
      simp only [Bool.and_eq_true, decide_eq_true_eq, bne_iff_ne] at hk
      refine ⟨hl, ?_, hk.1, fun e => absurd (by simp [e]) h0⟩
      have := Nrm_take (xs := xs) (j := xs.length) (by omega) (Nat.le_refl _) hk.2
      rwa [List.take_length] at this
  · rw [if_neg hk]
    have : okB g xs = false := by simpa using hk
    rw [this]
    exact ⟨Lim.nil, trivial, by simp, fun _ => rfl⟩

set_option maxHeartbeats 400000 in
theorem takenC (g : Bool) (a : Option Addr) (c : Nat) (xs : List Int) (w : World) (h : Sees w a c xs) :
    Calls Tryz.prog 51 #[.agg #[.bool g, .slice a xs.length c]] w fun e w' => ∃ a' c', e = .returned (.agg #[.bool (tkG g xs), .slice a' (tkL g xs).length c']) ∧ Sees w' a' c' (tkL g xs) ∧ Below w.heap.size w w' := by
  by_cases hk : okB g xs = true
  · have e1 : tkG g xs = g := by unfold tkG; rw [hk]; simp
    have e2 : tkL g xs = xs := by unfold tkL; rw [if_pos hk]
    rw [e1, e2]
    clear e1 e2
    go_enter Tryz.func51, Tryz.ntmps51
    go_wp2_with fail
    refine (implOk g a c xs _ (h.below (below2 _ _ _))).mono ?_
    rintro e w1 ⟨rfl, hb⟩
    obtain ⟨q1, q2⟩ := at_block hb (b := w.heap.size) (by simp; omega)
    obtain ⟨q3, q4⟩ := at_block hb (b := w.heap.size + 1) (by simp)
    have hz : w.heap.size + 1 < w1.heap.size := by have := hb.size; simp at this; omega
    have hB := (below2 _ _ _).trans (hb.mono (by simp; omega))
    clear hb
    go_wp2
    have hF := (hB.setCell (p := ⟨w.heap.size + 1, 0, none⟩) (by dsimp only; omega) (.bool g)).setCell (p := ⟨w.heap.size + 1, 1, none⟩) (by dsimp only; omega) (.slice a xs.length c)
    exact bodyPost_ret (v := .agg #[.bool g, .slice a xs.length c]) (by simp [results, Tryz.results51, go_sem, q3]) rfl ⟨a, c, rfl, h.below hF, hF⟩
  · have hk' : okB g xs = false := by simpa using hk
    have e1 : tkG g xs = false := by unfold tkG; rw [hk']; simp
    have e2 : tkL g xs = [] := by unfold tkL; rw [if_neg hk]
    rw [e1, e2]
    clear e1 e2 hk
    go_enter Tryz.func51, Tryz.ntmps51
    go_wp2_with fail
    refine (implOk g a c xs _ (h.below (below2 _ _ _))).mono ?_
    rintro e w1 ⟨rfl, hb⟩
    obtain ⟨q3, q4⟩ := at_block hb (b := w.heap.size + 1) (by simp)
    have hz : w.heap.size + 1 < w1.heap.size := by have := hb.size; simp at this; omega
    have hB := (below2 _ _ _).trans (hb.mono (by simp; omega))
    clear hb
    go_wp2
    exact bodyPost_ret (v := .agg #[.bool false, .slice none 0 0]) (by simp [results, Tryz.results51, go_sem, q3]) rfl ⟨none, 0, rfl, (Own.nil 0 _).toSees, (hB.setCell (by dsimp only; omega) _).setCell (by dsimp only; omega) _⟩

set_option maxHeartbeats 400000 in
theorem l1MagC (g : Bool) (a : Option Addr) (c : Nat) (xs : List Int) (w : World) (h : Sees w a c xs) :
    Calls Tryz.prog 44 #[.agg #[.bool g, .slice a xs.length c]] w fun e w' => ∃ a' c', e = .returned (.slice a' (tkL g xs).length c') ∧ Sees w' a' c' (tkL g xs) ∧ Below w.heap.size w w' := by
  by_cases hk : okB g xs = true
  · have e2 : tkL g xs = xs := by unfold tkL; rw [if_pos hk]
    rw [e2]
    clear e2
    go_enter Tryz.func44, Tryz.ntmps44
    go_wp2_with fail
    refine (specOk g a c xs _ (h.below (below1 _ _))).mono ?_
    rintro e w1 ⟨rfl, hb⟩
    obtain ⟨q1, q2⟩ := at_block hb (b := w.heap.size) (by simp)
    have hB := (below1 _ _).trans (hb.mono (by simp))
    clear hb
    go_wp2
    go_ret
    exact ⟨a, c, rfl, h.below hB, hB⟩
  · have hk' : okB g xs = false := by simpa using hk
    have e2 : tkL g xs = [] := by unfold tkL; rw [if_neg hk]
    rw [e2]
    clear e2 hk
    go_enter Tryz.func44, Tryz.ntmps44
    go_wp2_with fail
    refine (specOk g a c xs _ (h.below (below1 _ _))).mono ?_
    rintro e w1 ⟨rfl, hb⟩
    have hB := (below1 _ _).trans (hb.mono (by simp))
    clear hb
    go_wp2
    go_ret
    exact ⟨_, 0, rfl, (Own.empty 0 _ _ _).toSees, hB.trans ((below1 _ _).mono hB.size)⟩
end Go.Proofs.YthafgldgidmnlaaGreat

/- A number's digits, the lowest first; one limb after another divided by ten. No program is named here. -/
namespace Go.Proofs.YthafgldgidmnlaaGreat
open Go.RowKit

/-- The digits of a number, the lowest first; none of 0. -/
def digs (n : Nat) : List Nat := if h : n = 0 then [] else n % 10 :: digs (n / 10)
termination_by n
decreasing_by omega

theorem digs_zero : digs 0 = [] := by rw [digs]; simp
theorem digs_pos {n : Nat} (h : 0 < n) : digs n = n % 10 :: digs (n / 10) := by rw [digs, dif_neg (by omega)]
theorem digs_ne {n : Nat} (h : 0 < n) : digs n ≠ [] := by rw [digs_pos h]; simp
theorem digs_lt : ∀ (n : Nat), ∀ d ∈ digs n, d < 10 := by
  intro n
  induction n using Nat.strongRecOn with
  | _ n ih =>
    intro d hd
    rcases Nat.eq_zero_or_pos n with rfl | h
    · rw [digs_zero] at hd; cases hd
    · rw [digs_pos h] at hd
      rcases List.mem_cons.1 hd with rfl | hd
      · omega
      · exact ih (n / 10) (by omega) d hd
theorem digs_len : ∀ (k n : Nat), n < 10 ^ k → (digs n).length ≤ k := by
  intro k
  induction k with
  | zero => intro n h; obtain rfl : n = 0 := by simpa using h
            rw [digs_zero]; simp
  | succ k ih =>
    intro n h
    rcases Nat.eq_zero_or_pos n with rfl | h0
    · rw [digs_zero]; simp
    · rw [digs_pos h0, List.length_cons]
      have := ih (n / 10) (by rw [Nat.pow_succ] at h; omega)
      omega

/-- The byte of a digit. -/
def chr (d : Nat) : Int := 48 + d
/-- The bytes of a number's digits as whole numbers, the lowest first. -/
def digB (n : Nat) : List Int := (digs n).map chr
theorem digB_zero : digB 0 = [] := by simp [digB, digs_zero]
theorem digB_pos {n : Nat} (h : 0 < n) : digB n = (48 + ((n % 10 : Nat) : Int)) :: digB (n / 10) := by simp [digB, digs_pos h, chr]
theorem digB_byte (n : Nat) : ∀ x ∈ digB n, 0 ≤ x ∧ x < 256 := by
  intro x hx
  simp only [digB, List.mem_map] at hx
  obtain ⟨d, hd, rfl⟩ := hx
  have := digs_lt n d hd
  unfold chr; omega
theorem digB_len {k n : Nat} (h : n < 10 ^ k) : (digB n).length ≤ k := by simpa [digB] using digs_len k n h

/-- The text of a whole number, as bytes that are whole numbers. -/
def numB (z : Int) : List Int := if z = 0 then [48] else (digB z.natAbs ++ if z < 0 then [45] else []).reverse
/-- .. as bytes. -/
def strB (ds : List Int) : ByteArray := ⟨(ds.map (fun x : Int => UInt8.ofNat x.toNat)).toArray⟩
def numT (z : Int) : ByteArray := strB (numB z)
theorem numB_byte (z : Int) : ∀ x ∈ numB z, 0 ≤ x ∧ x < 256 := by
  intro x hx
  unfold numB at hx
  split at hx
  · simp at hx; omega
  · simp only [List.mem_reverse, List.mem_append] at hx
    rcases hx with hx | hx
    · exact digB_byte _ x hx
    · split at hx
      · simp at hx; omega
      · cases hx

/-! ### Divided by ten, limb by limb -/
/-- Of limbs xs those from place t on are divided by ten already: zs is what stands there, r the rest. -/
structure T10 (xs : List Int) (t : Nat) (r : Int) (zs : List Int) : Prop where
  le : t ≤ xs.length
  len : zs.length = xs.length
  low : zs.take t = xs.take t
  eq : val (zs.drop t) * 10 + r = val (xs.drop t)
  r0 : 0 ≤ r
  r1 : r < 10
  lim : Lim zs

theorem T10.start {xs : List Int} (h : Lim xs) : T10 xs xs.length 0 xs :=
  ⟨Nat.le_refl _, rfl, rfl, by simp [val], by decide, by decide, h⟩
theorem T10.get {xs zs : List Int} {t : Nat} {r : Int} (h : T10 xs (t + 1) r zs) : zs[t]?.getD 0 = xs[t]?.getD 0 := by
  have e : (zs.take (t + 1))[t]? = (xs.take (t + 1))[t]? := by rw [h.low]
  rw [List.getElem?_take, List.getElem?_take, if_pos (by omega), if_pos (by omega)] at e
  rw [e]
theorem drop_val {xs : List Int} {t : Nat} (h : t < xs.length) : val (xs.drop t) = xs[t]?.getD 0 + 4294967296 * val (xs.drop (t + 1)) := by
  rw [List.drop_eq_getElem_cons h, val, List.getElem?_eq_getElem h]; rfl
theorem T10.step {xs zs : List Int} {t : Nat} {r x : Int} (h : T10 xs (t + 1) r zs) (hx : xs[t]?.getD 0 = x) (hl : 0 ≤ x ∧ x < 4294967296) :
    T10 xs t ((r * 4294967296 + x) % 10) (zs.set t ((r * 4294967296 + x) / 10)) := by
  have ht : t < xs.length := h.le
  have hz : t < zs.length := by rw [h.len]; exact ht
  have hr0 := h.r0
  have hr1 := h.r1
  refine ⟨by omega, by rw [List.length_set]; exact h.len, ?_, ?_, by omega, by omega, ?_⟩
  · rw [List.take_set_of_le (Nat.le_refl _)]
    have e : (zs.take (t + 1)).take t = (xs.take (t + 1)).take t := by rw [h.low]
    rw [List.take_take, List.take_take, Nat.min_eq_left (by omega)] at e
    exact e
  · rw [drop_val (xs := xs) ht, hx, ← h.eq, drop_val (xs := zs.set t _) (by rw [List.length_set]; exact hz)]
    rw [List.getElem?_set_self (by exact hz), List.drop_set_of_lt (by omega)]
    simp only [Option.getD_some]
    omega
  · intro y hy
    rcases List.mem_or_eq_of_mem_set hy with hy | rfl
    · exact h.lim y hy
    · omega
theorem T10.done {xs zs : List Int} {r : Int} (h : T10 xs 0 r zs) : val zs = val xs / 10 ∧ r = val xs % 10 := by
  have e := h.eq
  have hr0 := h.r0
  have hr1 := h.r1
  simp only [List.drop_zero] at e
  omega

/-! ### The digits so far -/
/-- ds are the digits of V up to what is left, v. -/
def DigAt (V : Int) (ds : List Int) (v : Int) : Prop := 0 ≤ v ∧ ds ++ digB v.toNat = digB V.toNat
theorem DigAt.start {V : Int} (h : 0 ≤ V) : DigAt V [] V := ⟨h, by simp⟩
theorem DigAt.step {V v : Int} {ds : List Int} (h : DigAt V ds v) (h0 : 0 < v) : DigAt V (ds ++ [48 + v % 10]) (v / 10) := by
  refine ⟨by omega, ?_⟩
  rw [← h.2, List.append_assoc]
  congr 1
  rw [digB_pos (show 0 < v.toNat by omega)]
  simp only [List.singleton_append]
  have e1 : (48 + ((v.toNat % 10 : Nat) : Int)) = 48 + v % 10 := by omega
  have e2 : v.toNat / 10 = (v / 10).toNat := by omega
  rw [e1, e2]
theorem DigAt.done {V : Int} {ds : List Int} (h : DigAt V ds 0) : ds = digB V.toNat := by
  have := h.2
  simp only [Int.toNat_zero, digB_zero, List.append_nil] at this
  exact this
theorem DigAt.len {V v : Int} {ds : List Int} {k : Nat} (h : DigAt V ds v) (hV : V.toNat < 10 ^ k) : ds.length ≤ k := by
  have := digB_len hV
  rw [← h.2, List.length_append] at this
  omega

theorem p_digits : (4294967296 : Int) ^ 24 < (10 : Int) ^ 232 := by decide
theorem val_digits {xs : List Int} (hl : Lim xs) (h : xs.length ≤ 24) : (val xs).toNat < 10 ^ 232 := by
  have h1 := val_lt hl
  have h2 := p_mono xs.length (24 - xs.length)
  rw [show xs.length + (24 - xs.length) = 24 by omega] at h2
  have h3 := Int.lt_trans (Int.lt_of_lt_of_le h1 h2) p_digits
  have h4 : ((10 ^ 232 : Nat) : Int) = (10 : Int) ^ 232 := by simp
  rw [← h4] at h3
  generalize 10 ^ 232 = N at *
  omega

/-! ### Turned around in place -/
/-- The first k and the last k have changed places. -/
structure Flip (ds : List Int) (k : Nat) (zs : List Int) : Prop where
  len : zs.length = ds.length
  at' : ∀ i, i < ds.length → zs[i]?.getD 0 = if i < k ∨ ds.length - k ≤ i then ds[ds.length - 1 - i]?.getD 0 else ds[i]?.getD 0
theorem Flip.start (ds : List Int) : Flip ds 0 ds := ⟨rfl, fun i h => by rw [if_neg (by omega)]⟩
theorem set_at (zs : List Int) (j i : Nat) (v : Int) (h : j < zs.length) : (zs.set j v)[i]?.getD 0 = if i = j then v else zs[i]?.getD 0 := by
  rw [List.getElem?_set]
  by_cases e : j = i
  · subst e; simp [h]
  · rw [if_neg e, if_neg (Ne.symm e)]
theorem Flip.step {ds zs : List Int} {k : Nat} (h : Flip ds k zs) (hk : k < ds.length / 2) {x y : Int} (hx : zs[k]?.getD 0 = x) (hy : zs[ds.length - 1 - k]?.getD 0 = y) :
    Flip ds (k + 1) ((zs.set k y).set (ds.length - 1 - k) x) := by
  have hl := h.len
  refine ⟨by simp [hl], fun i hi => ?_⟩
  rw [set_at _ _ _ _ (by rw [List.length_set]; omega), set_at _ _ _ _ (by omega)]
  by_cases e1 : i = ds.length - 1 - k
  · rw [if_pos e1, if_pos (by omega), ← hx, h.at' k (by omega), if_neg (by omega)]
    congr 2; omega
  · rw [if_neg e1]
    by_cases e2 : i = k
    · rw [if_pos e2, if_pos (by omega), ← hy, h.at' _ (by omega), if_neg (by omega)]
      congr 2; omega
    · rw [if_neg e2, h.at' i hi]
      by_cases e3 : i < k ∨ ds.length - k ≤ i
      · rw [if_pos e3, if_pos (by omega)]
      · rw [if_neg e3, if_neg (by omega)]
theorem Flip.done {ds zs : List Int} {k : Nat} (h : Flip ds k zs) (hk : k = ds.length / 2) : zs = ds.reverse := by
  subst hk
  have hl := h.len
  refine List.ext_getElem (by simp [hl]) (fun i h1 h2 => ?_)
  have hi : i < ds.length := by omega
  have e := h.at' i hi
  rw [List.getElem?_eq_getElem h1] at e
  rw [List.getElem_reverse]
  simp only [Option.getD_some] at e
  rw [e]
  split
  · rw [List.getElem?_eq_getElem (by omega)]; rfl
  · have : i = ds.length - 1 - i := by omega
    rw [List.getElem?_eq_getElem hi]
    simp only [Option.getD_some]
    congr 1
end Go.Proofs.YthafgldgidmnlaaGreat

/- Rows of a call's own stay where nothing old is written. -/
namespace Go.Proofs.YthafgldgidmnlaaGreat
open Go.RowKit

theorem grown_of_below {w w' : World} (h : Below w.heap.size w w') : w.grownBy w' none := ⟨h.os, h.tape, h.output, h.size, fun i hi _ => h.block i hi⟩
theorem owns_below {w w' : World} {base e size n : Nat} {v : Value} {xs : List Value} (h : w.ownsRow base e size v n xs) (hb : Below w.heap.size w w') : w'.ownsRow base e size v n xs := by
  refine h.kept (grown_of_below hb) ?_
  cases e : v.ownBlock with
  | none => exact .inl rfl
  | some k => exact .inr (by simp)

theorem wp_append_at {P : Program} {w : World} {o : Oper} {a : Act} {K : Act → World → Prop} {Q : Exit → Act → World → Prop} (s x : Operand) (t : TypeId)
    (ho : o.op = .call { callee := .builtin .append, args := #[s, x], argTypes := #[t, t] })
    (base : Nat) (e : TypeId) (i : TypeInfo) (z : Value) (size bytes : Nat) (ht : P.underlying t = some (.slice e)) (hi : P.info? e = some i) (hz : i.zero = some z)
    (hsize : i.size = size) (hby : i.bytes = bytes) (hzs : z.cells.size = size) (hsz : 0 < size)
    (v : Value) (n : Nat) (xs : List Value) (hs : a.eval s = v) (hown : w.ownsRow base e size v n xs)
    (ad : Addr) (m c : Nat) (news : List Value) (hx : a.eval x = .slice (some ad) m c) (hl : news.length = m * size) (hnews : ∀ j u, news[j]? = some u → w.cell? (ad.add j) = some u) (h1 : ∀ u ∈ news, u.oneCell' = true)
    (h63 : n + m ≤ maxLen) (hbytes : (n + m) * bytes ≤ 140737488355328) (hbase : base ≤ w.heap.size)
    (h : ∀ v' w', w'.ownsRow base e size v' (n + m) (xs ++ news) → w.grownBy w' v.ownBlock → (v'.ownBlock = v.ownBlock ∨ v'.ownBlock = some w.heap.size) → K (a.put o.dst v') w') : o.wp P a w K Q := by
  obtain ⟨v', w', hr, h2, h3, _, h5⟩ := run_append_own_at (P := P) w base t o.type e i z size bytes ht hi hz hsize hby hzs hsz v n xs hown ad m c news hl hnews h1 h63 hbytes hbase
  unfold Oper.wp execOp
  simp only [ho, resolve, invoke, builtin, Sem.run_bind, Sem.run_pure, Result.andThen_ok, List.map_toArray, List.map_cons, List.map_nil, hs, hx, hr]
  exact h v' w' h2 h3 h5
theorem row_base {w : World} {base base' : Nat} {e : TypeId} {size : Nat} {v : Value} {n : Nat} {xs : List Value} (h : w.ownsRow base e size v n xs) (hb : base' ≤ base) : w.ownsRow base' e size v n xs := by
  obtain ⟨h1, h2⟩ := h
  refine ⟨h1, ?_⟩
  rcases h2 with h2 | ⟨q, cap, cur, hv, hb', r⟩
  · exact .inl h2
  · exact .inr ⟨q, cap, cur, hv, Nat.le_trans hb hb', r⟩
end Go.Proofs.YthafgldgidmnlaaGreat

/- Bytes in a row of a call's own. -/
namespace Go.Proofs.YthafgldgidmnlaaGreat
open Go.RowKit

theorem infoB : (Tryz.prog.info? 5).map (fun i => (i.zero, i.size, i.bytes)) = some (some (.int .u8 0), 1, 1) := by kernel_rfl
/-- Bytes in a row of the call's own. -/
def RowB (base : Nat) (w : World) (v : Value) (ds : List Int) : Prop := w.ownsRow base 5 1 v ds.length (ds.map (Value.int .u8))
theorem ones8 (ys : List Int) : ∀ u ∈ ys.map (Value.int .u8), u.oneCell' = true := by
  intro u hu
  obtain ⟨y, _, rfl⟩ := List.mem_map.1 hu
  rfl
theorem one_new8 (w : World) (e : TypeId) (y : Int) : ∀ j u, ([y].map (Value.int .u8))[j]? = some u → (w.alloc (.cells #[.int .u8 y] e)).cell? ((⟨w.heap.size, 0, none⟩ : Addr).add j) = some u := by
  intro j u hu
  cases j with
  | zero =>
    simp at hu
    subst hu
    exact cell_new w #[.int .u8 y] e 0 rfl
  | succ j => simp at hu
theorem RowB.snoc {base n : Nat} {w : World} {v : Value} {ds : List Int} {y : Int} (h : w.ownsRow base 5 1 v (ds.length + 1) (ds.map (Value.int .u8) ++ [y].map (Value.int .u8))) (_ : n = 0) : RowB base w v (ds ++ [y]) := by
  unfold RowB
  rw [List.map_append, List.length_append]
  exact h
theorem RowB.shape {base : Nat} {w : World} {v : Value} {ds : List Int} (h : RowB base w v ds) (hn : ds ≠ []) : ∃ q cap, v = .slice (some ⟨q, 0, none⟩) ds.length cap ∧ base ≤ q ∧ q < w.heap.size := by
  have hp : 0 < ds.length := List.length_pos_iff.2 hn
  rcases h.2 with ⟨_, h0⟩ | ⟨q, cap, cur, hv, hb, hh, _⟩
  · omega
  · refine ⟨q, cap, hv, hb, ?_⟩
    rcases Nat.lt_or_ge q w.heap.size with h1 | h1
    · exact h1
    · rw [Array.getElem?_eq_none h1] at hh; cases hh
theorem RowB.at' {base q cap : Nat} {w : World} {ds : List Int} (h : RowB base w (.slice (some ⟨q, 0, none⟩) ds.length cap) ds) {j : Nat} (hj : j < ds.length) : w.cell? ⟨q, j, none⟩ = some (.int .u8 (ds[j]?.getD 0)) := by
  rw [h.cellAt j (by omega), List.getElem?_map, List.getElem?_eq_getElem hj]
  rfl
theorem RowB.put {base q cap : Nat} {w : World} {ds : List Int} (h : RowB base w (.slice (some ⟨q, 0, none⟩) ds.length cap) ds) (j : Nat) (x : Int) : RowB base (w.setCell ⟨q, j, none⟩ (.int .u8 x)) (.slice (some ⟨q, 0, none⟩) (ds.set j x).length cap) (ds.set j x) := by
  have := (h.stored j (.int .u8 x)).1
  unfold RowB
  rw [List.length_set, List.map_set]
  exact this
theorem RowB.below {base : Nat} {w w' : World} {v : Value} {ds : List Int} (h : RowB base w v ds) (hb : Below w.heap.size w w') : RowB base w' v ds := owns_below h hb
theorem RowB.app {base : Nat} {w : World} {v : Value} {ds es : List Int} (h : w.ownsRow base 5 1 v (ds.length + es.length) (ds.map (Value.int .u8) ++ es.map (Value.int .u8))) : RowB base w v (ds ++ es) := by
  unfold RowB
  rw [List.map_append, List.length_append]
  exact h
theorem RowB.shape' {base : Nat} {w : World} {v : Value} {ds : List Int} (h : RowB base w v ds) : ∃ a cap, v = .slice a ds.length cap ∧ ds.length ≤ cap ∧ cap ≤ maxLen := by
  rcases h.2 with ⟨hv, h0⟩ | ⟨q, cap, cur, hv, _, _, hf, hm, _⟩
  · exact ⟨none, 0, by rw [hv, h0], by omega, by simp [maxLen]⟩
  · exact ⟨_, cap, hv, hf, hm⟩
theorem RowB.nil (base : Nat) (w : World) : RowB base w (.slice none 0 0) [] := ⟨rfl, .inl ⟨rfl, rfl⟩⟩
theorem RowB.empty (w : World) {base : Nat} (h : base ≤ w.heap.size) : RowB base (w.alloc (.cells #[] 5)) (.slice (some ⟨w.heap.size, 0, none⟩) 0 0) [] :=
  ⟨rfl, .inr ⟨w.heap.size, 0, #[], rfl, h, heap_alloc_new _ _, Nat.le_refl _, by simp [maxLen], rfl, rfl⟩⟩
theorem RowB.one (w : World) {base : Nat} (h : base ≤ w.heap.size) (x : Int) : RowB base (w.alloc (.cells #[.int .u8 x] 5)) (.slice (some ⟨w.heap.size, 0, none⟩) 1 1) [x] :=
  ⟨rfl, .inr ⟨w.heap.size, 1, #[.int .u8 x], rfl, h, heap_alloc_new _ _, Nat.le_refl _, by simp [maxLen], rfl, rfl⟩⟩
theorem RowB.at2 {base : Nat} {w : World} {a : Option Addr} {c : Nat} {ds : List Int} (h : RowB base w (.slice a ds.length c) ds) {j : Nat} (hj : j < ds.length) : ∃ q, a = some ⟨q, 0, none⟩ ∧ w.cell? ⟨q, j, none⟩ = some (.int .u8 (ds[j]?.getD 0)) ∧ base ≤ q := by
  obtain ⟨q, cap, e, hb, _⟩ := h.shape (by intro e; rw [e] at hj; simp at hj)
  injection e with e1 e2 e3
  subst e1 e3
  exact ⟨q, rfl, h.at' hj, hb⟩
theorem RowB.caps {base : Nat} {w : World} {a : Option Addr} {c : Nat} {ds : List Int} (h : RowB base w (.slice a ds.length c) ds) : ds.length ≤ c ∧ c ≤ maxLen := by
  obtain ⟨a', c', e, h1, h2⟩ := h.shape'
  injection e with e1 e2 e3
  subst e3
  exact ⟨h1, h2⟩
/-- Bytes in a row of the call's own, in a block of any type. -/
def RowE (t : TypeId) (base : Nat) (w : World) (v : Value) (ds : List Int) : Prop := w.ownsRow base t 1 v ds.length (ds.map (Value.int .u8))
theorem RowE.shape {t : TypeId} {base : Nat} {w : World} {v : Value} {ds : List Int} (h : RowE t base w v ds) (hn : ds ≠ []) : ∃ q cap, v = .slice (some ⟨q, 0, none⟩) ds.length cap ∧ base ≤ q ∧ q < w.heap.size := by
  have hp : 0 < ds.length := List.length_pos_iff.2 hn
  rcases h.2 with ⟨_, h0⟩ | ⟨q, cap, cur, hv, hb, hh, _⟩
  · omega
  · refine ⟨q, cap, hv, hb, ?_⟩
    rcases Nat.lt_or_ge q w.heap.size with h1 | h1
    · exact h1
    · rw [Array.getElem?_eq_none h1] at hh; cases hh
theorem RowE.at' {t : TypeId} {base q cap : Nat} {w : World} {ds : List Int} (h : RowE t base w (.slice (some ⟨q, 0, none⟩) ds.length cap) ds) {j : Nat} (hj : j < ds.length) : w.cell? ⟨q, j, none⟩ = some (.int .u8 (ds[j]?.getD 0)) := by
  rw [h.cellAt j (by omega), List.getElem?_map, List.getElem?_eq_getElem hj]
  rfl
theorem RowE.put {t : TypeId} {base q cap : Nat} {w : World} {ds : List Int} (h : RowE t base w (.slice (some ⟨q, 0, none⟩) ds.length cap) ds) (j : Nat) (x : Int) : RowE t base (w.setCell ⟨q, j, none⟩ (.int .u8 x)) (.slice (some ⟨q, 0, none⟩) (ds.set j x).length cap) (ds.set j x) := by
  have := (h.stored j (.int .u8 x)).1
  unfold RowE
  rw [List.length_set, List.map_set]
  exact this
theorem RowE.below {t : TypeId} {base : Nat} {w w' : World} {v : Value} {ds : List Int} (h : RowE t base w v ds) (hb : Below w.heap.size w w') : RowE t base w' v ds := owns_below h hb
theorem RowE.shape' {t : TypeId} {base : Nat} {w : World} {v : Value} {ds : List Int} (h : RowE t base w v ds) : ∃ a cap, v = .slice a ds.length cap ∧ ds.length ≤ cap ∧ cap ≤ maxLen := by
  rcases h.2 with ⟨hv, h0⟩ | ⟨q, cap, cur, hv, _, _, hf, hm, _⟩
  · exact ⟨none, 0, by rw [hv, h0], by omega, by simp [maxLen]⟩
  · exact ⟨_, cap, hv, hf, hm⟩
theorem RowE.at2 {t : TypeId} {base : Nat} {w : World} {a : Option Addr} {c : Nat} {ds : List Int} (h : RowE t base w (.slice a ds.length c) ds) {j : Nat} (hj : j < ds.length) : ∃ q, a = some ⟨q, 0, none⟩ ∧ w.cell? ⟨q, j, none⟩ = some (.int .u8 (ds[j]?.getD 0)) ∧ base ≤ q := by
  obtain ⟨q, cap, e, hb, _⟩ := h.shape (by intro e; rw [e] at hj; simp at hj)
  injection e with e1 e2 e3
  subst e1 e3
  exact ⟨q, rfl, h.at' hj, hb⟩
theorem RowE.caps {t : TypeId} {base : Nat} {w : World} {a : Option Addr} {c : Nat} {ds : List Int} (h : RowE t base w (.slice a ds.length c) ds) : ds.length ≤ c ∧ c ≤ maxLen := by
  obtain ⟨a', c', e, h1, h2⟩ := h.shape'
  injection e with e1 e2 e3
  subst e3
  exact ⟨h1, h2⟩
end Go.Proofs.YthafgldgidmnlaaGreat

/- The specification's text of a number: spec.NumText. -/
namespace Go.Proofs.YthafgldgidmnlaaGreat
open Go.RowKit

theorem field_magT (w : World) (g : Bool) (a : Option Addr) (n c : Nat) : Sem.run Tryz.prog (Instr.field 37 (Value.agg #[Value.bool g, Value.slice a n c]) 1) w = .ok (.slice a n c) w := by kernel_rfl


theorem okB_of {g : Bool} {xs : List Int} (h : tkL g xs ≠ []) : tkG g xs = g ∧ tkL g xs = xs := by
  unfold tkL at h ⊢
  unfold tkG
  by_cases k : okB g xs = true
  · rw [if_pos k, k]; simp
  · rw [if_neg k] at h; exact absurd rfl h

theorem Sees.allNews {w : World} {b off c : Nat} {xs : List Int} (h : Sees w (some ⟨b, off, none⟩) c xs) : ∀ j u, (xs.map (Value.int .u32))[j]? = some u → w.cell? ((⟨b, off, none⟩ : Addr).add j) = some u := by
  have := h.toCame.news (Nat.le_refl xs.length)
  rwa [List.take_length] at this

theorem ret_str {a b : ByteArray} (h : a = b) : Ending.returned (.string a) = .returned (.string b) := by rw [h]
end Go.Proofs.YthafgldgidmnlaaGreat
