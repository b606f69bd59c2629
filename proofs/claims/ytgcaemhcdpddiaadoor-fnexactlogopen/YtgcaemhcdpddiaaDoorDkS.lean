/- Disks of the specification: a new one, whether one is good. -/
import Derived.Test.YtgcaemhcdpddiaaDoorQuR
import Derived.Deep.Cut
namespace Go.Proofs.YtgcaemhcdpddiaaDoor
open Go.RowKit

theorem l1InD (x a b : Int) (w : World) :
    Calls Tryd.prog 29 #[.int .i64 x, .int .i64 a, .int .i64 b] w fun e w' => e = .returned (.bool (decide (a ≤ x) && decide (x ≤ b))) ∧ w' = w := by
  by_cases h1 : a ≤ x
  · by_cases h2 : x ≤ b
    · go_enter Tryd.func29, Tryd.ntmps29
      go_wp2
      go_ret
      exact ⟨by simp [h1, h2], rfl⟩
    · go_enter Tryd.func29, Tryd.ntmps29
      go_wp2
      go_ret
      exact ⟨by simp [h2], rfl⟩
  · go_enter Tryd.func29, Tryd.ntmps29
    go_wp2
    go_ret
    exact ⟨by rw [decide_eq_false (show ¬ a ≤ x by omega)]; rfl, rfl⟩

theorem l1InB (x a b : Int) (w : World) :
    Calls Tryd.prog 29 #[.int .i64 x, .int .i64 a, .int .i64 b] w fun e w' => e = .returned (.bool (decide (a ≤ x) && decide (x ≤ b))) ∧ Below w.heap.size w w' :=
  (l1InD x a b w).mono fun _ _ q => ⟨q.1, q.2 ▸ Below.refl _ _⟩
theorem RowB.made {base g n : Nat} {w : World} (h : w.ownsRow base 5 1 (.slice (some ⟨g, 0, none⟩) n n) n (madeCells #[Value.int .u8 0] n).toList) : RowB base w (.slice (some ⟨g, 0, none⟩) n n) (List.replicate n 0) := by
  have ZE : (madeCells #[Value.int .u8 0] n).toList = (List.replicate n (0 : Int)).map (Value.int .u8) := by
    apply List.ext_getElem
    · simp [madeCells]
    · intro i h1 h2
      simp [madeCells, Nat.mod_one]
  unfold RowB
  rw [List.length_replicate, ← ZE]
  exact h
/-- The bytes of a new disk. -/
def dkN (s : Int) : List Int := if 1 ≤ s ∧ s ≤ 400 then List.replicate (s.toNat * 64) 0 else []
theorem dkN_some {s : Int} (h : 1 ≤ s ∧ s ≤ 400) : dkN s = List.replicate (s.toNat * 64) 0 := if_pos h
theorem dkN_none {s : Int} (h : ¬(1 ≤ s ∧ s ≤ 400)) : dkN s = [] := if_neg h
theorem dkN_len (s : Int) : (dkN s).length ≤ 25600 := by
  by_cases h : 1 ≤ s ∧ s ≤ 400
  · rw [dkN_some h, List.length_replicate]; omega
  · rw [dkN_none h]; simp

theorem l11Many_any (a a2 : Option Addr) (c n c2 n2 k : Nat) (w : World) (hk : n / 64 = k) (hn : n ≤ 9223372036854775807) :
    Calls Tryd.prog 30 #[.agg #[.slice a n c, .slice a2 n2 c2]] w fun e w' => e = .returned (.int .i64 (k : Int)) ∧ Below w.heap.size w w' := by
  have B := below1 w (.cells #[.slice a n c, .slice a2 n2 c2] 34)
  have hq : (n : Int).tdiv 64 = (k : Int) := by rw [Int.tdiv_eq_ediv_of_nonneg (by omega)]; omega
  go_enter Tryd.func30, Tryd.ntmps30
  go_wp2
  go_ret
  exact ⟨rfl, B⟩

def WrOk (n : Nat) (q : Wr) : Prop := 0 ≤ q.1 ∧ q.1 < (n : Int) ∧ q.2.length = 64
/-- A good disk. -/
def DkOk (bs : List Int) (qs : List Wr) : Prop := bs.length % 64 = 0 ∧ 1 ≤ bs.length / 64 ∧ bs.length / 64 ≤ 400 ∧ ∀ i, i < qs.length → WrOk (bs.length / 64) (wrN qs i)

set_option maxRecDepth 20000 in
set_option maxHeartbeats 4000000 in
theorem specDiskOk {lo : Nat} (a a2 : Option Addr) (c c2 : Nat) (vs : List Value) (bs : List Int) (qs : List Wr) (w : World) (h : DkR lo w (.slice a bs.length c) (.slice a2 qs.length c2) vs bs qs) :
    Calls Tryd.prog 28 #[.agg #[.slice a bs.length c, .slice a2 qs.length c2]] w fun e w' => ∃ r : Bool, e = .returned (.bool r) ∧ (r = true ↔ DkOk bs qs) ∧ Below w.heap.size w w' := by
  have B := below1 w (.cells #[.slice a bs.length c, .slice a2 qs.length c2] 34)
  have X := Box2.new w (lo := 0) (by omega) (.slice a bs.length c) (.slice a2 qs.length c2) 34
  obtain ⟨hf, hm⟩ := h.row.caps
  obtain ⟨-, hf2, hm2⟩ := h.que.caps
  unfold maxLen at hm hm2
  have HQ : Hid (QuR lo w (.slice a2 qs.length c2) vs qs) := h.que
  clear h
  obtain ⟨n, hn⟩ : ∃ n, Hid (bs.length = n) := ⟨_, rfl⟩
  obtain ⟨m, hnm⟩ : ∃ m, Hid (n / 64 = m) := ⟨_, rfl⟩
  have no1 : Hid (¬(n % 64 = 0 ∧ 1 ≤ m ∧ m ≤ 400) → ¬DkOk bs qs) := fun q d => q (by have := d.1; have := d.2.1; have := d.2.2.1; rw [hn.out] at *; rw [hnm.out] at *; exact ⟨by assumption, by assumption, by assumption⟩)
  have no2 : Hid (∀ i, i < qs.length → ¬WrOk m (wrN qs i) → ¬DkOk bs qs) := fun i hi q d => q (by have := d.2.2.2 i hi; rw [hn.out, hnm.out] at this; exact this)
  have yes : Hid (n % 64 = 0 → 1 ≤ m → m ≤ 400 → (∀ i, i < qs.length → WrOk m (wrN qs i)) → DkOk bs qs) := fun q1 q2 q3 q4 => by unfold DkOk; rw [hn.out, hnm.out]; exact ⟨q1, q2, q3, q4⟩
  rw [hn.out] at B X hf ⊢
  have hr : (n : Int).tmod 64 = ((n % 64 : Nat) : Int) := by rw [Int.tmod_eq_emod_of_nonneg (by omega)]; omega
  by_cases h1 : n % 64 = 0
  · have hr2 : (n : Int).tmod 64 = 0 := by omega
    clear hr
    by_cases h2 : 1 ≤ m ∧ m ≤ 400
    · have hd : (decide ((1 : Int) ≤ (m : Int)) && decide ((m : Int) ≤ 400)) = true := by rw [decide_eq_true (by omega), decide_eq_true (by omega)]; rfl
      obtain ⟨h3, h4⟩ := h2
      obtain ⟨x0, x1, xf, _⟩ := id X
      go_enter Tryd.func28, Tryd.ntmps28
      go_wp2_with fail
      refine (l11Many_any a a2 c n c2 qs.length m _ hnm.out (by omega)).mono ?_
      rintro e w1 ⟨rfl, hb⟩
      replace X := X.below hb
      replace B := B.trans (hb.mono B.size)
      clear hb x0 x1 xf
      go_wp2_with fail
      refine (l1InD _ _ _ _).mono ?_
      rintro e w2 ⟨rfl, rfl⟩
      rw [hd]
      go_wp2
      go_loopw [3] (fun i wr => ∃ j : Nat, j ≤ qs.length ∧ i = .int .i64 j ∧ Hid (∀ k, k < j → WrOk m (wrN qs k)) ∧ Box2 0 wr w.heap.size (.slice a n c) (.slice a2 qs.length c2) ∧ Below w.heap.size w wr) (fun i _ => qs.length - (intOf i).toNat)
      case atStart => exact ⟨0, Nat.zero_le _, rfl, (fun k hk => absurd hk (by omega)), X, B⟩
      case round =>
        clear X B
        obtain ⟨j, hj, rfl, hk, X, B⟩ := hrel
        rename World => wr
        obtain ⟨x0, x1, xf, _⟩ := id X
        by_cases hlt : j < qs.length
        · obtain ⟨g, c0, a', c', e, _, g1, g2, _, _⟩ := (HQ.out.below B).at' hlt
          injection e with e1 e2 e3
          subst e1
          clear e2 e3
          obtain ⟨q, eq⟩ : ∃ q, Hid (wrN qs j = q) := ⟨_, rfl⟩
          rw [eq.out] at g1 g2
          obtain ⟨x, ds⟩ := q
          dsimp only at g1 g2
          have B1 : Below wr.heap.size wr wr := Below.refl _ _
          have k0 : wr.cell? ⟨w.heap.size, 0, none⟩ = some (.slice a n c) ∧ wr.cell? ⟨w.heap.size, 1, none⟩ = some (.slice (some ⟨g, 0, none⟩) qs.length c2) ∧ wr.cell? ⟨g, j * 2, none⟩ = some (.int .i64 x) ∧ wr.cell? ⟨g, j * 2 + 1, none⟩ = some (.slice a' ds.length c') := ⟨x0, x1, g1, g2⟩
          obtain ⟨l, hl⟩ : ∃ l, Hid (ds.length = l) := ⟨_, rfl⟩
          rw [hl.out] at g2 k0
          have hwm : IntKind.i64.wrap ((m : Int) - 1) = (m : Int) - 1 := by rw [IntKind.wrap_i64]; omega
          have bad : Hid (¬(0 ≤ x ∧ x < (m : Int) ∧ l = 64) → ¬DkOk bs qs) := fun q => no2.out j hlt (by rw [eq.out]; intro d; exact q ⟨d.1, d.2.1, by rw [← hl.out]; exact d.2.2⟩)
          have good : Hid (0 ≤ x → x < (m : Int) → l = 64 → ∀ k, k < j + 1 → WrOk m (wrN qs k)) := fun q1 q2 q3 k hk' => by
            by_cases e : k = j
            · subst e; rw [eq.out]; exact ⟨q1, q2, hl.out.trans q3⟩
            · exact hk.out k (by omega)
          clear hk
          by_cases hx : 0 ≤ x ∧ x < (m : Int)
          · have hd2 : (decide ((0 : Int) ≤ x) && decide (x ≤ (m : Int) - 1)) = true := by rw [decide_eq_true (by omega), decide_eq_true (by omega)]; rfl
            clear x0 x1 xf g1 g2
            by_cases h64 : l = 64
            · have hne : ((l : Int) != 64) = false := by simp; omega
              go_wp2_with fail
              go_region_held3 (fun w' => w'.cell? ⟨w.heap.size, 0, none⟩ = some (.slice a n c) ∧ w'.cell? ⟨w.heap.size, 1, none⟩ = some (.slice (some ⟨g, 0, none⟩) qs.length c2) ∧ w'.cell? ⟨g, j * 2, none⟩ = some (.int .i64 x) ∧ w'.cell? ⟨g, j * 2 + 1, none⟩ = some (.slice a' l c'))
                (first | exact k0 | exact ⟨bat B1 k0.1, bat B1 k0.2.1, bat B1 k0.2.2.1, bat B1 k0.2.2.2⟩)
                (first
                  | (go_at_call 30; refine (l11Many_any a (some ⟨g, 0, none⟩) c n c2 qs.length m _ hnm.out (by omega)).mono ?_; rintro e w5 ⟨rfl, hb⟩; replace B1 := B1.drew.trans (hb.mono B1.drew.size))
                  | (go_at_call 29; refine (l1InD _ _ _ _).mono ?_; rintro e w5 ⟨rfl, rfl⟩; rw [hd2]))
              replace B := B.trans (B1.mono B.size)
              replace X := X.below B1
              have G := good.out hx.1 hx.2 h64
              have HG : Hid (∀ k, k < j + 1 → WrOk m (wrN qs k)) := G
              clear G good bad
              go_wp2_with fail
              go_roundw
              case rel => exact ⟨j + 1, by omega, by go_num, HG, X, B⟩
              case measure => simp [intOf]; omega
            · have hne : ((l : Int) != 64) = true := by simp; omega
              have N := bad.out (fun q => h64 q.2.2)
              have HN : Hid (¬DkOk bs qs) := N
              clear N good bad
              go_wp2_with fail
              go_region_held3 (fun w' => w'.cell? ⟨w.heap.size, 0, none⟩ = some (.slice a n c) ∧ w'.cell? ⟨w.heap.size, 1, none⟩ = some (.slice (some ⟨g, 0, none⟩) qs.length c2) ∧ w'.cell? ⟨g, j * 2, none⟩ = some (.int .i64 x) ∧ w'.cell? ⟨g, j * 2 + 1, none⟩ = some (.slice a' l c'))
                (first | exact k0 | exact ⟨bat B1 k0.1, bat B1 k0.2.1, bat B1 k0.2.2.1, bat B1 k0.2.2.2⟩)
                (first
                  | (go_at_call 30; refine (l11Many_any a (some ⟨g, 0, none⟩) c n c2 qs.length m _ hnm.out (by omega)).mono ?_; rintro e w5 ⟨rfl, hb⟩; replace B1 := B1.drew.trans (hb.mono B1.drew.size))
                  | (go_at_call 29; refine (l1InD _ _ _ _).mono ?_; rintro e w5 ⟨rfl, rfl⟩; rw [hd2]))
              replace B := B.trans (B1.mono B.size)
              replace X := X.below B1
              go_wp2
              go_ret
              exact ⟨false, rfl, ⟨(fun e => by cases e), fun d => absurd d HN.out⟩, B⟩
          · have hd2 : (decide ((0 : Int) ≤ x) && decide (x ≤ (m : Int) - 1)) = false := by
              rcases Classical.not_and_iff_not_or_not.1 hx with q | q
              · rw [decide_eq_false q]; rfl
              · rw [decide_eq_false (show ¬ x ≤ (m : Int) - 1 by omega), Bool.and_false]
            have N := bad.out (fun q => hx ⟨q.1, q.2.1⟩)
            have HN : Hid (¬DkOk bs qs) := N
            clear N good bad hx k0 B1
            go_wp2_with fail
            refine wp_region_held_drew (S := Below wr.heap.size wr) (by kernel_rfl) ((Below.refl _ _).drew) (fun hHeld => ?_)
            have N : Below wr.heap.size wr wr.drew := hHeld
            revert hHeld N
            generalize wr.drew = ww0
            intro hHeld N
            refine takeQ (i := 0) (gt rfl) (by kernel_rfl) (fun _ _ _ h => h) (by rfl) (by intro wq _; go_simp <;> with_reducible rfl) (by assumption) ?_
            try simp only [Act.put, sA, sB, sC]
            refine takeQ (i := 1) (gt rfl) (by kernel_rfl) (fun _ _ _ h => h) (by rfl) (by intro wq hSw; have q0 := bat hSw x0; have q1 := bat hSw x1; have q2 := bat hSw g1; have q3 := bat hSw g2; go_simp <;> with_reducible rfl) (by assumption) ?_
            try simp only [Act.put, sA, sB, sC]
            refine takeQ (i := 2) (gt rfl) (by kernel_rfl) (fun _ _ _ h => h) (by rfl) (by intro wq _; go_simp <;> with_reducible rfl) (by assumption) ?_
            try simp only [Act.put, sA, sB, sC]
            refine takeQ (i := 3) (gt rfl) (by kernel_rfl) (fun _ _ _ h => h) (by rfl) (by intro wq _; go_simp <;> with_reducible rfl) (by assumption) ?_
            try simp only [Act.put, sA, sB, sC]
            refine takeQ (i := 4) (gt rfl) (by kernel_rfl) (fun _ _ _ h => h) (by rfl) (by intro wq _; go_simp <;> with_reducible rfl) (by assumption) ?_
            try simp only [Act.put, sA, sB, sC]
            refine takeQ (i := 5) (gt rfl) (by kernel_rfl) (fun _ _ _ h => h) (by rfl) (by intro wq hSw; have q0 := bat hSw x0; have q1 := bat hSw x1; have q2 := bat hSw g1; have q3 := bat hSw g2; go_simp <;> with_reducible rfl) (by assumption) ?_
            try simp only [Act.put, sA, sB, sC]
            refine takeQ (i := 6) (gt rfl) (by kernel_rfl) (fun _ _ _ h => h) (by rfl) (by intro wq hSw; have q0 := bat hSw x0; have q1 := bat hSw x1; have q2 := bat hSw g1; have q3 := bat hSw g2; go_simp <;> with_reducible rfl) (by assumption) ?_
            try simp only [Act.put, sA, sB, sC]
            refine wpAnyH_ready (rs := [7]) (by kernel_rfl) (by simp) (AllReadyH.cons (gt rfl) (fun K hK => ?_) AllReadyH.nil)
            go_simp
            refine (l11Many_any a (some ⟨g, 0, none⟩) c n c2 qs.length m _ hnm.out (by omega)).mono ?_
            rintro e1 ww1 ⟨rfl, hb⟩
            replace N := N.trans (hb.mono N.size)
            clear hb
            refine hK.out _ _ N (fun hHeld => ?_)
            clear hK K
            try simp only [Act.put, sA, sB, sC]
            refine takeQ (i := 8) (gt rfl) (by kernel_rfl) (fun _ _ _ h => h) (by rfl) (by intro wq _; go_simp <;> with_reducible rfl) (by assumption) ?_
            try simp only [Act.put, sA, sB, sC]
            refine wpAnyH_ready (rs := [9]) (by kernel_rfl) (by simp) (AllReadyH.cons (gt rfl) (fun K hK => ?_) AllReadyH.nil)
            go_simp
            refine (l1InB _ _ _ _).mono ?_
            rintro e1 ww2 ⟨rfl, hb⟩
            rw [hd2]
            replace N := N.trans (hb.mono N.size)
            clear hb
            refine hK.out _ _ N (fun hHeld => ?_)
            clear hK K
            try simp only [Act.put, sA, sB, sC]
            refine takeQ (i := 10) (gt rfl) (by kernel_rfl) (fun _ _ _ h => h) (by rfl) (by intro wq _; go_simp <;> with_reducible rfl) (by assumption) ?_
            try simp only [Act.put, sA, sB, sC]
            refine takeQ (i := 11) (gt rfl) (by kernel_rfl) (fun _ _ _ h => h) (by rfl) (by intro wq _; go_simp <;> with_reducible rfl) (by assumption) ?_
            try simp only [Act.put, sA, sB, sC]
            refine takeN (i := 12) (gt rfl) (by kernel_rfl) (by kernel_rfl) (by kernel_rfl) (by exact fun _ _ _ h => h) (by rfl) (by assumption) ?_
            try simp only [Act.put, sA, sB, sC]
            refine takeN (i := 13) (gt rfl) (by kernel_rfl) (by kernel_rfl) (by kernel_rfl) (by exact fun _ _ _ h => h) (by rfl) (by assumption) ?_
            try simp only [Act.put, sA, sB, sC]
            refine takeN (i := 14) (gt rfl) (by kernel_rfl) (by kernel_rfl) (by kernel_rfl) (by exact fun _ _ _ h => h) (by rfl) (by assumption) ?_
            try simp only [Act.put, sA, sB, sC]
            refine takeN (i := 15) (gt rfl) (by kernel_rfl) (by kernel_rfl) (by kernel_rfl) (by exact fun _ _ _ h => h) (by rfl) (by assumption) ?_
            try simp only [Act.put, sA, sB, sC]
            refine takeN (i := 16) (gt rfl) (by kernel_rfl) (by kernel_rfl) (by kernel_rfl) (by exact fun _ _ _ h => h) (by rfl) (by assumption) ?_
            try simp only [Act.put, sA, sB, sC]
            refine takeN (i := 17) (gt rfl) (by kernel_rfl) (by kernel_rfl) (by kernel_rfl) (by exact fun _ _ _ h => h) (by rfl) (by assumption) ?_
            try simp only [Act.put, sA, sB, sC]
            refine takeN (i := 18) (gt rfl) (by kernel_rfl) (by kernel_rfl) (by kernel_rfl) (by exact fun _ _ _ h => h) (by rfl) (by assumption) ?_
            try simp only [Act.put, sA, sB, sC]
            refine takeN (i := 19) (gt rfl) (by kernel_rfl) (by kernel_rfl) (by kernel_rfl) (by exact fun _ _ _ h => h) (by rfl) (by assumption) ?_
            try simp only [Act.put, sA, sB, sC]
            refine takeQ (i := 20) (gt rfl) (by kernel_rfl) (fun _ _ _ h => h) (by rfl) (by intro wq _; go_simp <;> with_reducible rfl) (by assumption) ?_
            try simp only [Act.put, sA, sB, sC]
            refine wpAnyH_done (by kernel_rfl) ?_ _
            replace B := B.trans (N.mono B.size)
            go_wp2
            go_ret
            exact ⟨false, rfl, ⟨(fun e => by cases e), fun d => absurd d HN.out⟩, B⟩
        · obtain rfl : j = qs.length := by omega
          have HY : Hid (DkOk bs qs) := yes.out h1 h3 h4 hk.out
          clear hk yes no1 no2
          go_wp2
          go_ret
          exact ⟨true, rfl, ⟨fun _ => HY.out, fun _ => rfl⟩, B⟩
    · have hd : (decide ((1 : Int) ≤ (m : Int)) && decide ((m : Int) ≤ 400)) = false := by
        rcases Classical.not_and_iff_not_or_not.1 h2 with q | q
        · rw [decide_eq_false (by omega)]; rfl
        · rw [decide_eq_false (show ¬ (m : Int) ≤ 400 by omega), Bool.and_false]
      have HN : Hid (¬DkOk bs qs) := no1.out (fun q => h2 q.2)
      clear h2 no1 no2 yes
      obtain ⟨x0, x1, xf, _⟩ := id X
      go_enter Tryd.func28, Tryd.ntmps28
      go_wp2_with fail
      refine (l11Many_any a a2 c n c2 qs.length m _ hnm.out (by omega)).mono ?_
      rintro e w1 ⟨rfl, hb⟩
      replace B := B.trans (hb.mono B.size)
      clear hb x0 x1 xf X
      go_wp2_with fail
      refine (l1InD _ _ _ _).mono ?_
      rintro e w2 ⟨rfl, rfl⟩
      rw [hd]
      go_wp2
      go_ret
      exact ⟨false, rfl, ⟨(fun e => by cases e), fun d => absurd d HN.out⟩, B⟩
  · have hne : ((n : Int).tmod 64 != 0) = true := by rw [hr]; simp; omega
    have HN : Hid (¬DkOk bs qs) := no1.out (fun q => h1 q.1)
    clear no1 no2 yes hr
    obtain ⟨x0, x1, xf, _⟩ := id X
    go_enter Tryd.func28, Tryd.ntmps28
    go_wp2
    go_ret
    exact ⟨false, rfl, ⟨(fun e => by cases e), fun d => absurd d HN.out⟩, B⟩
end Go.Proofs.YtgcaemhcdpddiaaDoor
