/- How great a tree is (szNode, szNodeS, szIntS). -/
import Derived.Test.YtilobdohoaoikaaTrL
namespace Go.Proofs.Ytilobdohoaoikaa
open Go.RowKit

theorem szInts (a : Option Addr) (c n : Nat) (left : Int) (w : World) (hl : 0 ≤ left ∧ left ≤ 1048576) (hn : n ≤ 9223372036854775807) :
    Calls Try.prog 20 #[.slice a n c, .int .i64 left] w fun e w' => e = .returned (.int .i64 (if left - n < 0 then -1 else left - n)) ∧ w' = w := by
  obtain ⟨h1, h2⟩ := hl
  by_cases hc : left - n < 0
  · rw [if_pos hc]
    go_enter Try.func20, Try.ntmps20
    go_wp2
    go_ret
    exact ⟨rfl, rfl⟩
  · rw [if_neg hc]
    go_enter Try.func20, Try.ntmps20
    go_wp2
    go_ret
    exact ⟨rfl, rfl⟩
/-- A node's value. -/
def ndV (t : Nd) (v1 v2 v3 : Value) : Value := .agg #[.int .i64 t.b.1, .int .i64 t.b.2.1, .int .i64 t.b.2.2.1, .int .i64 t.b.2.2.2, v1, v2, v3]
theorem Sev.new (w : World) (x1 x2 x3 x4 : Int) (v1 v2 v3 : Value) (T : TypeId) : Sev (w.alloc (.cells #[.int .i64 x1, .int .i64 x2, .int .i64 x3, .int .i64 x4, v1, v2, v3] T)) w.heap.size 0 (x1, x2, x3, x4) v1 v2 v3 :=
  ⟨⟨cell_new w _ T 0 rfl, cell_new w _ T 1 rfl, cell_new w _ T 2 rfl, cell_new w _ T 3 rfl⟩, cell_new w _ T 4 rfl, cell_new w _ T 5 rfl, cell_new w _ T 6 rfl⟩
theorem lenI {w : World} {a : Option Addr} {c : Nat} {is : List Int} (h : SeesI w a c is) : is.length ≤ 9223372036854775807 := by have := h.fits; have := h.max; unfold maxLen at this; omega
theorem lenX {w : World} {a : Option Addr} {c : Nat} {bs : List Bx} (h : SeesX w a c bs) : bs.length ≤ 9223372036854775807 := by have := h.fits; have := h.max; unfold maxLen at this; omega
theorem lenN {lo : Nat} {w : World} {a : Option Addr} {c : Nat} {ks : List Nd} (h : NdsIn lo w a c ks) : ks.length ≤ 9223372036854775807 := by have := h.fits; have := h.max; unfold maxLen at this; omega
/-- What szNode answers of a tree. -/
def SzC (t : Nd) : Prop := ∀ (v1 v2 v3 : Value) (left : Int) (w : World), NdIn 0 w t v1 v2 v3 → 0 ≤ left → left ≤ 1048576 →
  Calls Try.prog 6 #[ndV t v1 v2 v3, .int .i64 left] w fun e w' => ∃ z : Int, e = .returned (.int .i64 z) ∧ (z = -1 ∨ (0 ≤ z ∧ z + (ndSz t : Nat) = left)) ∧ Below w.heap.size w w'
def SzsC (ks : List Nd) : Prop := ∀ (a : Option Addr) (c : Nat) (left : Int) (w : World), NdsIn 0 w a c ks → 0 ≤ left → left ≤ 1048576 →
  Calls Try.prog 21 #[.slice a ks.length c, .int .i64 left] w fun e w' => ∃ z : Int, e = .returned (.int .i64 z) ∧ (z = -1 ∨ (0 ≤ z ∧ z + (ks.length + ndSz.ndsSz ks : Nat) = left)) ∧ Below w.heap.size w w'
theorem ndsSz_at {ks : List Nd} : ∀ {j : Nat}, j < ks.length → ndSz.ndsSz (ks.take (j + 1)) = ndSz.ndsSz (ks.take j) + ndSz (ndA ks j) := by
  induction ks with
  | nil => intro j h; simp at h
  | cons k ks ih =>
    intro j h
    cases j with
    | zero => simp [ndSz.ndsSz, ndA]
    | succ j =>
      have := ih (j := j) (by simpa using h)
      simp only [List.take_succ_cons, ndSz.ndsSz]
      rw [this]
      have e : ndA (k :: ks) (j + 1) = ndA ks j := by simp [ndA]
      rw [e]
      omega

set_option maxRecDepth 20000 in
set_option maxHeartbeats 2000000 in
theorem szNodeS_step {ks : List Nd} (ih : ∀ k ∈ ks, SzC k) : SzsC ks := by
  intro a c left w h h0 h1
  have hn := lenN h
  have IH : Hid (∀ k ∈ ks, SzC k) := ih
  clear ih
  by_cases hc : left - ks.length < 0
  · go_enter Try.func21, Try.ntmps21
    go_wp2
    go_ret
    exact ⟨-1, rfl, .inl rfl, Below.refl _ _⟩
  · go_enter Try.func21, Try.ntmps21
    go_wp2
    go_loopw [1, 5] (fun s1 s5 wr => ∃ (j : Nat) (z : Int), j ≤ ks.length ∧ s5 = .int .i64 j ∧ s1 = .int .i64 z ∧ Hid (0 ≤ z ∧ z + (ks.length + ndSz.ndsSz (ks.take j) : Nat) = left) ∧ Below w.heap.size w wr) (fun _ s5 _ => ks.length - (intOf s5).toNat)
    case atStart => exact ⟨0, left - ks.length, Nat.zero_le _, rfl, rfl, ⟨by omega, by simp [ndSz.ndsSz]⟩, Below.refl _ _⟩
    case round =>
      obtain ⟨j, z, hj, rfl, rfl, Z, B⟩ := hrel
      rename World => wr
      by_cases hlt : j < ks.length
      · obtain ⟨p, o, rfl, hcell⟩ := (h.below B).cells (by intro e; simp [e] at hlt)
        obtain ⟨v1, v2, v3, ⟨⟨g0, g1, g2, g3⟩, g4, g5, g6⟩, N⟩ := hcell j hlt
        have C := IH.out _ (ndA_mem hlt) v1 v2 v3 z wr N Z.out.1 (by have := Z.out.2; omega)
        have HZ : Hid (ndSz.ndsSz (ks.take (j + 1)) = ndSz.ndsSz (ks.take j) + ndSz (ndA ks j)) := ndsSz_at hlt
        unfold ndV at C
        clear hcell N
        generalize ndA ks j = t at *
        go_wp2_with fail
        refine C.mono ?_
        rintro e w2 ⟨z2, rfl, hz2, hb⟩
        replace B := B.trans (hb.mono B.size)
        clear hb g0 g1 g2 g3 g4 g5 g6 C
        rcases hz2 with rfl | ⟨hz0, hz2⟩
        · go_wp2
          go_ret
          exact ⟨-1, rfl, .inl rfl, B⟩
        · have hnz : ¬ z2 < 0 := by omega
          have Z2 : Hid (0 ≤ z2 ∧ z2 + (ks.length + ndSz.ndsSz (ks.take (j + 1)) : Nat) = left) := ⟨hz0, by have := Z.out.2; rw [HZ.out]; omega⟩
          clear hz2 Z HZ
          go_wp2
          go_roundw
          case rel => exact ⟨j + 1, z2, by omega, by go_num, rfl, Z2, B⟩
          case measure => simp [intOf]; omega
      · obtain rfl : j = ks.length := by omega
        have F : Hid (z = -1 ∨ (0 ≤ z ∧ z + (ks.length + ndSz.ndsSz ks : Nat) = left)) := by have := Z.out; rw [List.take_length] at this; exact .inr this
        clear Z
        go_wp2
        go_ret
        exact ⟨z, rfl, F.out, B⟩

set_option maxRecDepth 20000 in
set_option maxHeartbeats 2000000 in
theorem szNode_step (b : Bx) (bs : List Bx) (is : List Int) (ks : List Nd) (ih : SzsC ks) : SzC (.mk b bs is ks) := by
  intro v1 v2 v3 left w h h0 h1
  obtain ⟨a1, c1, a2, c2, a3, c3, rfl, rfl, rfl, s1, _, s2, _, s3⟩ := h.open
  obtain ⟨x1, x2, x3, x4⟩ := b
  simp only [Nd.bs, Nd.is, Nd.ks] at s1 s2 s3
  have l1 := lenX s1
  have l2 := lenI s2
  have l3 := lenN s3
  have e : ndV (.mk (x1, x2, x3, x4) bs is ks) (.slice a1 bs.length c1) (.slice a2 is.length c2) (.slice a3 ks.length c3) = .agg #[.int .i64 x1, .int .i64 x2, .int .i64 x3, .int .i64 x4, .slice a1 bs.length c1, .slice a2 is.length c2, .slice a3 ks.length c3] := rfl
  have HS : Hid (ndSz (.mk (x1, x2, x3, x4) bs is ks) = bs.length + is.length + ks.length + ndSz.ndsSz ks) := (rfl : ndSz (.mk (x1, x2, x3, x4) bs is ks) = _)
  show Calls Try.prog 6 #[ndV (.mk (x1, x2, x3, x4) bs is ks) (.slice a1 bs.length c1) (.slice a2 is.length c2) (.slice a3 ks.length c3), .int .i64 left] w _
  rw [e]
  clear e
  have B := below1 w (.cells #[.int .i64 x1, .int .i64 x2, .int .i64 x3, .int .i64 x4, .slice a1 bs.length c1, .slice a2 is.length c2, .slice a3 ks.length c3] 30)
  have V := Sev.new w x1 x2 x3 x4 (.slice a1 bs.length c1) (.slice a2 is.length c2) (.slice a3 ks.length c3) 30
  replace s3 := s3.below B
  obtain ⟨_, k4, k5, k6⟩ := id V
  rw [Nat.zero_add] at k4 k5 k6
  go_enter Try.func6, Try.ntmps6
  go_wp2_with fail
  generalize w.alloc (.cells #[.int .i64 x1, .int .i64 x2, .int .i64 x3, .int .i64 x4, .slice a1 bs.length c1, .slice a2 is.length c2, .slice a3 ks.length c3] 30) = W at *
  refine (szBoxs a1 c1 bs.length left _ ⟨h0, h1⟩ l1).mono ?_
  rintro e w1 ⟨rfl, rfl⟩
  by_cases q1 : left - bs.length < 0
  · rw [if_pos q1]
    clear q1
    go_wp2
    go_ret
    exact ⟨-1, rfl, .inl rfl, B⟩
  rw [if_neg q1]
  obtain ⟨z1, H1⟩ : ∃ z : Int, left - bs.length = z := ⟨_, rfl⟩
  rw [H1] at q1 ⊢
  have r1 : z1 ≤ 1048576 := by omega
  have r0 : 0 ≤ z1 := by omega
  go_wp2_with fail
  refine (szInts a2 c2 is.length z1 _ ⟨r0, r1⟩ l2).mono ?_
  rintro e w1 ⟨rfl, rfl⟩
  by_cases q2 : z1 - is.length < 0
  · rw [if_pos q2]
    clear q2
    go_wp2
    go_ret
    exact ⟨-1, rfl, .inl rfl, B⟩
  rw [if_neg q2]
  obtain ⟨z2, H2⟩ : ∃ z : Int, z1 - is.length = z := ⟨_, rfl⟩
  rw [H2] at q2 ⊢
  have r2 : z2 ≤ 1048576 := by omega
  have r3 : 0 ≤ z2 := by omega
  go_wp2_with fail
  refine (ih a3 c3 z2 _ s3 r3 r2).mono ?_
  rintro e w2 ⟨z3, rfl, hz3, hb⟩
  replace B := B.trans (hb.mono B.size)
  clear hb k4 k5 k6 V s3
  rcases hz3 with rfl | ⟨hz0, hz3⟩
  · go_wp2
    go_ret
    exact ⟨-1, rfl, .inl rfl, B⟩
  · have hnz : ¬ z3 < 0 := by omega
    have F : Hid (z3 = -1 ∨ (0 ≤ z3 ∧ z3 + (ndSz (.mk (x1, x2, x3, x4) bs is ks) : Nat) = left)) := .inr ⟨hz0, by rw [HS.out]; omega⟩
    clear hz3 H1 H2 HS q1 q2
    go_wp2
    go_ret
    exact ⟨z3, rfl, F.out, B⟩
theorem szNode_any : ∀ t, SzC t := Nd.ind (fun b bs is ks ih => szNode_step b bs is ks (szNodeS_step ih))
end Go.Proofs.Ytilobdohoaoikaa
