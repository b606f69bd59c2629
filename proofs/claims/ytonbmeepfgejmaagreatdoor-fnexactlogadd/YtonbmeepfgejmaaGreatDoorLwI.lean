/- The writes of a record, the program's side. -/
import Derived.Test.YtonbmeepfgejmaaGreatDoorLrI
import Derived.Test.YtonbmeepfgejmaaGreatDoorPcS
import Derived.Test.YtonbmeepfgejmaaGreatDoorQuX
import Derived.Test.YtonbmeepfgejmaaGreatDoorLgW
namespace Go.Proofs.YtonbmeepfgejmaaGreatDoor
open Go.RowKit

/-- A log of a disk of so many sectors. -/
def LgIn (K F L X E : Int) : Prop := 0 ≤ F ∧ F ≤ L ∧ L < K ∧ 0 ≤ X ∧ X ≤ L - F + 1 ∧ 1 ≤ E ∧ E ≤ 1000000
theorem lgIn_fine {F L X E : Int} : LgIn 400 F L X E ↔ LgFine F L X E := Iff.rfl

def ArS (F L K : Int) : Prop := 0 ≤ F ∧ F ≤ L ∧ L < K
def IsE (E : Int) : Prop := 1 ≤ E ∧ E ≤ 1000000
theorem areSectors_any (F L K : Int) (w : World) :
    Calls Tryz.prog 54 #[.int .i64 F, .int .i64 L, .int .i64 K] w fun e w' => ∃ r : Bool, e = .returned (.bool r) ∧ (r = true ↔ ArS F L K) ∧ w' = w := by
  by_cases h1 : 0 ≤ F
  · by_cases h2 : F ≤ L
    · by_cases h3 : L < K
      · have Y : Hid (ArS F L K) := ⟨h1, h2, h3⟩
        go_enter Tryz.func54, Tryz.ntmps54
        go_wp2
        go_ret
        first | exact ⟨true, rfl, ⟨fun _ => Y.out, fun _ => rfl⟩, rfl⟩ | exact .inr ⟨rfl, Y.out, rfl⟩
      · have Y : Hid (¬ArS F L K) := fun q => h3 q.2.2
        go_enter Tryz.func54, Tryz.ntmps54
        go_wp2
        go_ret
        first | exact ⟨false, rfl, ⟨(fun q => by cases q), fun q => absurd q Y.out⟩, rfl⟩ | exact .inl ⟨rfl, Y.out, rfl⟩
    · have Y : Hid (¬ArS F L K) := fun q => h2 q.2.1
      go_enter Tryz.func54, Tryz.ntmps54
      go_wp2
      go_ret
      first | exact ⟨false, rfl, ⟨(fun q => by cases q), fun q => absurd q Y.out⟩, rfl⟩ | exact .inl ⟨rfl, Y.out, rfl⟩
  · have Y : Hid (¬ArS F L K) := fun q => h1 q.1
    go_enter Tryz.func54, Tryz.ntmps54
    go_wp2
    go_ret
    first | exact ⟨false, rfl, ⟨(fun q => by cases q), fun q => absurd q Y.out⟩, rfl⟩ | exact .inl ⟨rfl, Y.out, rfl⟩

theorem isEpoch_any (E : Int) (w : World) :
    Calls Tryz.prog 55 #[.int .i64 E] w fun e w' => ∃ r : Bool, e = .returned (.bool r) ∧ (r = true ↔ IsE E) ∧ w' = w := by
  by_cases h1 : 1 ≤ E
  · by_cases h2 : E ≤ 1000000
    · have Y : Hid (IsE E) := ⟨h1, h2⟩
      go_enter Tryz.func55, Tryz.ntmps55
      go_wp2
      go_ret
      first | exact ⟨true, rfl, ⟨fun _ => Y.out, fun _ => rfl⟩, rfl⟩ | exact .inr ⟨rfl, Y.out, rfl⟩
    · have Y : Hid (¬IsE E) := fun q => h2 q.2
      go_enter Tryz.func55, Tryz.ntmps55
      go_wp2
      go_ret
      first | exact ⟨false, rfl, ⟨(fun q => by cases q), fun q => absurd q Y.out⟩, rfl⟩ | exact .inl ⟨rfl, Y.out, rfl⟩
  · have Y : Hid (¬IsE E) := fun q => h1 q.1
    go_enter Tryz.func55, Tryz.ntmps55
    go_wp2
    go_ret
    first | exact ⟨false, rfl, ⟨(fun q => by cases q), fun q => absurd q Y.out⟩, rfl⟩ | exact .inl ⟨rfl, Y.out, rfl⟩

set_option maxRecDepth 20000 in
set_option maxHeartbeats 2000000 in
theorem lies_any (F L X E K : Int) (w : World) (hK : K ≤ 1000000) :
    Calls Tryz.prog 40 #[.agg #[.int .i64 F, .int .i64 L, .int .i64 X, .int .i64 E], .int .i64 K] w fun e w' => ∃ r : Bool, e = .returned (.bool r) ∧ (r = true ↔ LgIn K F L X E) ∧ Below w.heap.size w w' := by
  have B := below1 w (.cells #[.int .i64 F, .int .i64 L, .int .i64 X, .int .i64 E] 32)
  go_enter Tryz.func40, Tryz.ntmps40
  go_wp2_with fail
  refine (areSectors_any F L K _).mono ?_
  rintro e w1 ⟨r, rfl, hr, rfl⟩
  cases r with
  | false =>
    have Y : Hid (¬LgIn K F L X E) := fun q => by have := hr.2 ⟨q.1, q.2.1, q.2.2.1⟩; cases this
    clear hr
    go_wp2
    go_ret
    first | exact ⟨false, rfl, ⟨(fun q => by cases q), fun q => absurd q Y.out⟩, B⟩ | exact .inl ⟨rfl, Y.out, B⟩
  | true =>
    obtain ⟨f1, f2, f3⟩ := hr.1 rfl
    have HF : Hid (0 ≤ F ∧ F ≤ L ∧ L < K) := ⟨f1, f2, f3⟩
    clear hr
    by_cases h1 : 0 ≤ X
    · by_cases h2 : X ≤ L - F + 1
      · have h2' : ¬(L - F + 1 < X) := by omega
        go_wp2_with fail
        refine (isEpoch_any E _).mono ?_
        rintro e w1 ⟨r, rfl, hr, rfl⟩
        have HR : Hid (r = true ↔ LgIn K F L X E) := ⟨fun q => ⟨f1, f2, f3, h1, h2, (hr.1 q).1, (hr.1 q).2⟩, fun q => hr.2 ⟨q.2.2.2.2.2.1, q.2.2.2.2.2.2⟩⟩
        clear hr
        go_wp2
        go_ret
        first | exact ⟨_, rfl, HR.out, B⟩ | exact ⟨HR.out, B⟩
      · have Y : Hid (¬LgIn K F L X E) := fun q => h2 q.2.2.2.2.1
        go_wp2
        go_ret
        first | exact ⟨false, rfl, ⟨(fun q => by cases q), fun q => absurd q Y.out⟩, B⟩ | exact .inl ⟨rfl, Y.out, B⟩
    · have Y : Hid (¬LgIn K F L X E) := fun q => h1 q.2.2.2.1
      go_wp2
      go_ret
      first | exact ⟨false, rfl, ⟨(fun q => by cases q), fun q => absurd q Y.out⟩, B⟩ | exact .inl ⟨rfl, Y.out, B⟩

set_option maxHeartbeats 1000000 in
theorem pieceCount_any (a : Option Addr) (n c : Nat) (w : World) (hn : n ≤ 1048576) :
    Calls Tryz.prog 56 #[.slice a n c] w fun e w' => e = .returned (.int .i64 (lgMany n : Nat)) ∧ w' = w := by
  have HM : Hid (lgMany n = if n = 0 then 1 else (n + 43) / 44) := rfl
  by_cases h0 : n = 0
  · subst h0
    go_enter Tryz.func56, Tryz.ntmps56
    go_wp2
    go_ret
    exact ⟨by rw [HM.out]; rfl, rfl⟩
  · obtain ⟨m, hm⟩ : ∃ m : Nat, Hid (lgMany n = m) := ⟨_, rfl⟩
    have hq : Hid (((n : Int) + 44 - 1) / 44 = (m : Int)) := by show _ = _; rw [← hm.out, HM.out, if_neg h0]; omega
    have h1 : Hid (1 ≤ m) := by show _ ≤ _; have := hq.out; omega
    rw [hm.out]
    go_enter Tryz.func56, Tryz.ntmps56
    go_wp2
    all_goals
      go_ret
      have := hq.out
      have := h1.out
      refine ⟨?_, rfl⟩
      first
        | (show Ending.returned (.int .i64 (((n : Int) + 44 - 1) / 44)) = _; rw [hq.out])
        | (show Ending.returned (.int .i64 1) = _; rw [show (m : Int) = 1 by omega])


/-- The record may be taken. -/
def LgTk (F L X : Int) (n : Nat) : Prop := n ≤ 4000 ∧ (lgMany n : Int) ≤ L - F + 1 - X
set_option maxRecDepth 20000 in
set_option maxHeartbeats 2000000 in
theorem lgTakes_any (F L X E : Int) (a : Option Addr) (n c : Nat) (w : World) (hl : n ≤ 1048576) (f : LgIn 1000000 F L X E) :
    Calls Tryz.prog 42 #[.agg #[.int .i64 F, .int .i64 L, .int .i64 X, .int .i64 E], .slice a n c] w fun e w' => ∃ r : Bool, e = .returned (.bool r) ∧ (r = true ↔ LgTk F L X n) ∧ Below w.heap.size w w' := by
  have B := below1 w (.cells #[.int .i64 F, .int .i64 L, .int .i64 X, .int .i64 E] 32)
  have V := Box4.new w (lo := w.heap.size) (Nat.le_refl _) (.int .i64 F) (.int .i64 L) (.int .i64 X) (.int .i64 E) 32
  obtain ⟨f1, f2, f3, f4, f5, f6, f7⟩ := f
  have HF : Hid (0 ≤ F ∧ F ≤ L ∧ L < 1000000 ∧ 0 ≤ X ∧ X ≤ L - F + 1) := ⟨f1, f2, f3, f4, f5⟩
  clear f1 f2 f3 f4 f5 f6 f7
  go_enter Tryz.func42, Tryz.ntmps42
  go_upto_region 1 with fail
  generalize w.alloc (.cells #[.int .i64 F, .int .i64 L, .int .i64 X, .int .i64 E] 32) = W0 at *
  obtain ⟨v0, v1, v2, v3, vf, _⟩ := id V
  by_cases h4 : (n : Int) ≤ 4000
  · obtain ⟨z, hz⟩ : ∃ z, Hid (L + 1 + -F + -X = z) := ⟨_, rfl⟩
    obtain ⟨mm, hmm⟩ : ∃ m, Hid (lgMany n = m) := ⟨_, rfl⟩
    refine wp_region_held_drew (S := Below W0.heap.size W0) (by kernel_rfl) ((Below.refl _ _).drew) (fun hHeld => ?_)
    have N : Below W0.heap.size W0 W0.drew := hHeld
    revert hHeld N
    generalize W0.drew = ww0
    intro hHeld N
    refine takeQ (i := 0) (gt rfl) (by kernel_rfl) (fun _ _ _ h => h) (by rfl) (by intro wq _; go_simp <;> with_reducible rfl) (by assumption) ?_
    try simp only [Act.put, sA, sB, sC]
    refine takeQ (i := 1) (gt rfl) (by kernel_rfl) (fun _ _ _ h => h) (by rfl) (by intro wq _; go_simp <;> with_reducible rfl) (by assumption) ?_
    try simp only [Act.put, sA, sB, sC]
    refine takeQ (i := 2) (gt rfl) (by kernel_rfl) (fun _ _ _ h => h) (by rfl) (by intro wq _; go_simp <;> with_reducible rfl) (by assumption) ?_
    try simp only [Act.put, sA, sB, sC]
    refine takeQ (i := 3) (gt rfl) (by kernel_rfl) (fun _ _ _ h => h) (by rfl) (by intro wq _; go_simp <;> with_reducible rfl) (by assumption) ?_
    try simp only [Act.put, sA, sB, sC]
    refine takeQ (i := 4) (gt rfl) (by kernel_rfl) (fun _ _ _ h => h) (by rfl) (by intro wq _; go_simp <;> with_reducible rfl) (by assumption) ?_
    try simp only [Act.put, sA, sB, sC]
    refine takeQ (i := 6) (gt rfl) (by kernel_rfl) (fun _ _ _ h => h) (by rfl) (by intro wq hSw; have q0 := bat hSw v0; have q1 := bat hSw v1; have q2 := bat hSw v2; have q3 := bat hSw v3; go_simp <;> with_reducible rfl) (by assumption) ?_
    try simp only [Act.put, sA, sB, sC]
    refine wpAnyH_ready (rs := [5]) (by kernel_rfl) (by simp) (AllReadyH.cons (gt rfl) (fun K hK => ?_) AllReadyH.nil)
    go_simp
    refine (pieceCount_any a n c _ hl).mono ?_
    rintro e1 ww1 ⟨rfl, hq⟩
    rw [hmm.out]
    have hb : Below ww0.heap.size ww0 ww1 := by rw [hq]; exact Below.refl _ _
    clear hq
    replace N := N.trans (hb.mono N.size)
    clear hb
    refine hK.out _ _ N (fun hHeld => ?_)
    clear hK K
    try simp only [Act.put, sA, sB, sC]
    refine wpAnyH_ready (rs := [7]) (by kernel_rfl) (by simp) (AllReadyH.cons (gt rfl) (fun K hK => ?_) AllReadyH.nil)
    go_simp
    refine (implLogRoom F L X E _ (by have := HF.out; omega) (by have := HF.out; omega) (by have := HF.out; omega) (by have := HF.out; omega)).mono ?_
    rintro e2 ww2 ⟨rfl, hb⟩
    rw [hz.out]
    replace N := N.trans (hb.mono N.size)
    clear hb
    refine hK.out _ _ N (fun hHeld => ?_)
    clear hK K
    try simp only [Act.put, sA, sB, sC]
    refine takeQ (i := 8) (gt rfl) (by kernel_rfl) (fun _ _ _ h => h) (by rfl) (by intro wq _; go_simp <;> with_reducible rfl) (by assumption) ?_
    try simp only [Act.put, sA, sB, sC]
    refine takeQ (i := 9) (gt rfl) (by kernel_rfl) (fun _ _ _ h => h) (by rfl) (by intro wq _; go_simp <;> with_reducible rfl) (by assumption) ?_
    try simp only [Act.put, sA, sB, sC]
    refine takeQ (i := 10) (gt rfl) (by kernel_rfl) (fun _ _ _ h => h) (by rfl) (by intro wq _; go_simp <;> with_reducible rfl) (by assumption) ?_
    try simp only [Act.put, sA, sB, sC]
    refine wpAnyH_done (by kernel_rfl) ?_ _
    replace B := B.trans (N.mono B.size)
    have HR : Hid (decide ((mm : Int) ≤ z) = true ↔ LgTk F L X n) := by
      show _ ↔ _
      rw [decide_eq_true_iff, ← hz.out, ← hmm.out]
      exact ⟨fun q => ⟨by omega, by omega⟩, fun q => by have := q.2; omega⟩
    go_wp2
    go_ret
    first | exact ⟨_, rfl, HR.out, B⟩ | exact ⟨HR.out, B⟩
  · have Y : Hid (¬LgTk F L X n) := fun q => h4 (by have := q.1; omega)
    refine wp_region_held_drew (S := Below W0.heap.size W0) (by kernel_rfl) ((Below.refl _ _).drew) (fun hHeld => ?_)
    have N : Below W0.heap.size W0 W0.drew := hHeld
    revert hHeld N
    generalize W0.drew = ww0
    intro hHeld N
    refine takeQ (i := 0) (gt rfl) (by kernel_rfl) (fun _ _ _ h => h) (by rfl) (by intro wq _; go_simp <;> with_reducible rfl) (by assumption) ?_
    try simp only [Act.put, sA, sB, sC]
    refine takeQ (i := 1) (gt rfl) (by kernel_rfl) (fun _ _ _ h => h) (by rfl) (by intro wq _; go_simp <;> with_reducible rfl) (by assumption) ?_
    try simp only [Act.put, sA, sB, sC]
    refine takeQ (i := 2) (gt rfl) (by kernel_rfl) (fun _ _ _ h => h) (by rfl) (by intro wq _; go_simp <;> with_reducible rfl) (by assumption) ?_
    try simp only [Act.put, sA, sB, sC]
    refine takeQ (i := 3) (gt rfl) (by kernel_rfl) (fun _ _ _ h => h) (by rfl) (by intro wq _; go_simp <;> with_reducible rfl) (by assumption) ?_
    try simp only [Act.put, sA, sB, sC]
    refine takeN (i := 4) (gt rfl) (by kernel_rfl) (by kernel_rfl) (by kernel_rfl) (by exact fun _ _ _ h => h) (by rfl) (by assumption) ?_
    try simp only [Act.put, sA, sB, sC]
    refine takeN (i := 5) (gt rfl) (by kernel_rfl) (by kernel_rfl) (by kernel_rfl) (by exact fun _ _ _ h => h) (by rfl) (by assumption) ?_
    try simp only [Act.put, sA, sB, sC]
    refine takeN (i := 6) (gt rfl) (by kernel_rfl) (by kernel_rfl) (by kernel_rfl) (by exact fun _ _ _ h => h) (by rfl) (by assumption) ?_
    try simp only [Act.put, sA, sB, sC]
    refine takeN (i := 7) (gt rfl) (by kernel_rfl) (by kernel_rfl) (by kernel_rfl) (by exact fun _ _ _ h => h) (by rfl) (by assumption) ?_
    try simp only [Act.put, sA, sB, sC]
    refine takeN (i := 8) (gt rfl) (by kernel_rfl) (by kernel_rfl) (by kernel_rfl) (by exact fun _ _ _ h => h) (by rfl) (by assumption) ?_
    try simp only [Act.put, sA, sB, sC]
    refine takeQ (i := 9) (gt rfl) (by kernel_rfl) (fun _ _ _ h => h) (by rfl) (by intro wq _; go_simp <;> with_reducible rfl) (by assumption) ?_
    try simp only [Act.put, sA, sB, sC]
    refine takeQ (i := 10) (gt rfl) (by kernel_rfl) (fun _ _ _ h => h) (by rfl) (by intro wq _; go_simp <;> with_reducible rfl) (by assumption) ?_
    try simp only [Act.put, sA, sB, sC]
    refine wpAnyH_done (by kernel_rfl) ?_ _
    replace B := B.trans (N.mono B.size)
    go_wp2
    go_ret
    first | exact ⟨false, rfl, ⟨(fun q => by cases q), fun q => absurd q Y.out⟩, B⟩ | exact .inl ⟨rfl, Y.out, B⟩

set_option maxRecDepth 20000 in
set_option maxHeartbeats 2000000 in
theorem piece_any (F L X E : Int) (b off c i : Nat) (rs : List Int) (w : World) (h : SeesB w (some ⟨b, off, none⟩) c rs) (hl : rs.length ≤ 1048576) (hi : i < lgMany rs.length) (x0 : 0 ≤ X ∧ X ≤ 1000000) :
    Calls Tryz.prog 58 #[.agg #[.int .i64 F, .int .i64 L, .int .i64 X, .int .i64 E], .slice (some ⟨b, off, none⟩) rs.length c, .int .i64 (i : Int)] w fun e w' => ∃ ad c', e = .returned (.agg #[.int .i64 E, .int .i64 (X + (i : Int)), .int .u8 (if decide (i + 1 < lgMany rs.length) then 1 else 2), .slice (some ad) (lgP rs i).length c']) ∧ SeesB w' (some ad) c' (lgP rs i) ∧ Below w.heap.size w w' := by
  have hm := h.max
  have hf := h.fits
  unfold maxLen at hm
  have hjm := lgMany_lt hi
  have hla := lgMany_last hi
  have e44 : ((i : Int) * 44).toNat = i * 44 := by omega
  have PL : Hid ((lgP rs i).length = min ((i + 1) * 44) rs.length - i * 44) := by show _ = _; rw [← lgP_part rfl, List.length_take, List.length_drop]; omega
  have SP : c ≠ i * 44 → Hid (SeesB w (some ⟨b, off + i * 44, none⟩) (c - i * 44) (lgP rs i)) := fun hc => by
    have := h.part (i := i * 44) (n := min ((i + 1) * 44) rs.length - i * 44) (by omega)
    rw [lgP_part rfl] at this
    exact this
  have NS : c = i * 44 → Hid (lgP rs i = []) := fun hc => by
    show _ = _
    rw [← lgP_part rfl, show min ((i + 1) * 44) rs.length - i * 44 = 0 by omega]
    simp
  have B := below3 w (.cells #[.int .i64 F, .int .i64 L, .int .i64 X, .int .i64 E] 32) (.cells #[.int .i64 0, .int .i64 0, .int .u8 0, .slice none 0 0] 78) (.cells #[.int .i64 E, .int .i64 (X + (i : Int)), .int .u8 1, .slice none 0 0] 78)
  clear h e44
  obtain ⟨x1, x2⟩ := x0
  have hib : i ≤ 30000 := by omega
  by_cases hL : i + 1 < lgMany rs.length
  · have hr := hla.1 hL
    have PL4 : Hid (44 = (lgP rs i).length) := by show _ = _; rw [PL.out]; omega
    have SQ := SP (by omega)
    rw [decide_eq_true hL]
    generalize lgP rs i = ps at *
    clear hla hL hi PL SP NS
    go_enter Tryz.func58, Tryz.ntmps58
    go_wp2
    exact bodyPost_ret (v := .agg #[.int .i64 E, .int .i64 (X + (i : Int)), .int .u8 1, .slice (some ⟨b, off + i * 44, none⟩) 44 (c - i * 44)]) (by simp [results, Tryz.results58, go_sem]) rfl ⟨_, _, by rw [← PL4.out], SQ.out.below (below3 _ _ _ _), below3 _ _ _ _⟩
  · have hr : rs.length - i * 44 ≤ 44 := by have : ¬(44 < rs.length - i * 44) := fun q => hL (hla.2 q); omega
    have PL4 : Hid (rs.length - i * 44 = (lgP rs i).length) := by show _ = _; rw [PL.out]; omega
    have PZ : 44 ≤ rs.length - i * 44 → Hid (44 = (lgP rs i).length) := fun q => by show _ = _; rw [PL.out]; omega
    rw [decide_eq_false hL]
    by_cases hc : c = i * 44
    · have h0 : rs.length = i * 44 := by omega
      have SQ : Hid (SeesB w (some ⟨b, off, none⟩) (c - i * 44) (lgP rs i)) := by
        show SeesB _ _ _ _
        rw [(NS hc).out]
        exact ⟨by simp, by unfold maxLen; omega, fun q => absurd rfl q⟩
      generalize lgP rs i = ps at *
      clear hla hL hi PL SP NS PZ
      rw [h0, Nat.sub_self] at PL4
      rw [h0]
      subst hc
      rw [Nat.sub_self] at SQ
      go_enter Tryz.func58, Tryz.ntmps58
      go_wp2
      exact bodyPost_ret (v := .agg #[.int .i64 E, .int .i64 (X + (i : Int)), .int .u8 2, .slice (some ⟨b, off, none⟩) 0 0]) (by simp [results, Tryz.results58, go_sem]) rfl ⟨_, _, by rw [← PL4.out], SQ.out.below (below3 _ _ _ _), below3 _ _ _ _⟩
    · have SQ := SP hc
      generalize lgP rs i = ps at *
      clear hla hL hi PL SP NS
      go_enter Tryz.func58, Tryz.ntmps58
      go_wp2
      all_goals first
        | exact bodyPost_ret (v := .agg #[.int .i64 E, .int .i64 (X + (i : Int)), .int .u8 2, .slice (some ⟨b, off + i * 44, none⟩) (rs.length - i * 44) (c - i * 44)]) (by simp [results, Tryz.results58, go_sem]) rfl ⟨_, _, by rw [← PL4.out], SQ.out.below (below3 _ _ _ _), below3 _ _ _ _⟩
        | exact bodyPost_ret (v := .agg #[.int .i64 E, .int .i64 (X + (i : Int)), .int .u8 2, .slice (some ⟨b, off + i * 44, none⟩) 44 (c - i * 44)]) (by simp [results, Tryz.results58, go_sem]) rfl ⟨_, _, by rw [← (PZ (by omega)).out], SQ.out.below (below3 _ _ _ _), below3 _ _ _ _⟩

end Go.Proofs.YtonbmeepfgejmaaGreatDoor
