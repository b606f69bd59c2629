/- slices.Chunk in fours: over items, over nodes at work. -/
import Derived.Test.YthompofbdjdloaaGreatWideR
import Derived.Test.YthompofbdjdloaaGreatIterD
import Derived.Test.YthompofbdjdloaaGreatTrI
namespace Go.Proofs.YthompofbdjdloaaGreat
open Go.RowKit Go.Shelf
attribute [local go_sem] Oper.semAt_some

/-- How many the i-th four has. -/
def chM (n k : Nat) : Nat := min 4 (n - 4 * k)
def encH (s g o n : Nat) (k : Nat) : Array Value := #[.slice (some ⟨g, o + 4 * k * s, none⟩) (chM n k) (chM n k)]
/-- What the iterator reads. -/
def ChG (b b2 : Nat) (a : Option Addr) (n c : Nat) (A : World) : Prop := A.cell? ⟨b, 0, none⟩ = some (.slice a n c) ∧ A.cell? ⟨b2, 0, none⟩ = some (.int .i64 4)

theorem midIt (g o n c i m : Nat) (h : i + m ≤ n) (hn : n ≤ c) (h0 : 0 < m) (w : World) : (Instr.sliceAt 107 (.slice (some ⟨g, o, none⟩) n c) (some (.int .i64 (i : Int))) (some (.int .i64 ((i : Int) + (m : Int)))) (some (.int .i64 ((i : Int) + (m : Int))))).run Tryz.prog w = .ok (.slice (some ⟨g, o + i * 5, none⟩) m m) w := by
  obtain ⟨i0, hi, k0, k1, k2⟩ := info_parts infoIt
  obtain ⟨e, he⟩ : ∃ e : Nat, i + m = e := ⟨_, rfl⟩
  have f0 : (i : Int) + (m : Int) = (e : Int) := by omega
  have f1 : (0 : Int) ≤ (i : Int) := by omega
  have f2 : (0 : Int) ≤ (e : Int) := by omega
  have f3 : (e : Int) ≤ (c : Int) := by omega
  have f4 : (i : Int) ≤ (e : Int) := by omega
  have f5 : i ≤ e := by omega
  have f6 : ¬ e = i := by omega
  have f7 : e - i = m := by omega
  rw [f0]
  go_simp
theorem fstIt (g o n c i : Nat) (h : i < n) (hn : n ≤ c) : ∃ a', ∀ w, (Instr.sliceAt 107 (.slice (some ⟨g, o, none⟩) n c) (some (.int .i64 (i : Int))) none none).run Tryz.prog w = .ok (.slice a' (n - i) (c - i)) w := by
  obtain ⟨i0, hi, k0, k1, k2⟩ := info_parts infoIt
  have f1 : (0 : Int) ≤ (i : Int) := by omega
  have f2 : (i : Int) ≤ (n : Int) := by omega
  have f3 : ¬ c = i := by omega
  refine ⟨some ⟨g, o + i * 5, none⟩, fun w => ?_⟩
  go_simp

set_option maxRecDepth 100000 in
set_option maxHeartbeats 4000000 in
theorem chunk_seqIt (b b2 g o c n : Nat) (a : Option Addr) (w : World) (nn : Nat) (hnn : 1 ≤ nn) (hl : n ≤ 2000000) (hc : n ≤ c) (_ : c ≤ 9223372036854775807) (ha : 0 < n → a = some ⟨g, o, none⟩) :
    SeqD Fence.wide nn Tryz.prog 160 #[.pointer (some ⟨b, 0, none⟩), .pointer (some ⟨b2, 0, none⟩)] (encH 5 g o n) (fun (s : Nat) (x : Nat) (s' : Nat) => s = x ∧ s' = x + 1 ∧ x < (n + 3) / 4) 0 (fun s => s = (n + 3) / 4) (ChG b b2 a n c) w := fun l J D W hW hG hDr hY hJ0 => by
  have HY : Hid (∀ (s x s' : Nat) (W1 : World), J s W1 → (s = x ∧ s' = x + 1 ∧ x < (n + 3) / 4) → YieldAt Fence.wide (nn - 1) Tryz.prog l (encH 5 g o n x) W1 fun e W' => (e = .returned (.bool true) ∧ J s' W') ∨ (e = .returned (.bool false) ∧ D W')) := hY
  have HG : Hid (∀ s A, J s A → ChG b b2 a n c A) := hG
  have HDR : Hid (∀ s A, J s A → J s A.drew) := hDr
  have HA : Hid (0 < n → a = some ⟨g, o, none⟩) := ha
  clear hW hG hY hDr ha
  refine callsIn_of_wp Tryz.func160 rfl trivial ?_ rfl
  simp only [Tryz.ntmps160, List.size_toArray, List.length_cons, List.length_nil, Nat.reduceAdd, Nat.reduceSub, Array.replicate_succ, Array.replicate_zero, List.push_toArray, List.append_toArray, List.nil_append, List.cons_append]
  gi_wp2
  gi_loopw [4, 5] (fun s4 _ wr => ∃ k i : Nat, i = 4 * k ∧ k ≤ (n + 3) / 4 ∧ s4 = .int .i64 (i : Int) ∧ J k wr) (fun s4 _ _ => n + 4 - (intOf s4).toNat)
  case atStart => exact ⟨0, 0, rfl, Nat.zero_le _, rfl, hJ0⟩
  case round =>
    obtain ⟨k, i, hik, hk, rfl, hj⟩ := hrel
    rename World => wr
    clear hJ0
    obtain ⟨g0, g1⟩ := HG.out _ _ hj
    by_cases hlt : i < n
    · have ea := HA.out (by omega)
      subst ea
      obtain ⟨m, hmm⟩ : ∃ m, Hid (chM n k = m) := ⟨_, rfl⟩
      have hm2 : m = min 4 (n - i) := by rw [← hmm.out, hik]; rfl
      have hmp : 0 < m := by omega
      have hmn : i + m ≤ n := by omega
      have hm4 : m ≤ 4 := by omega
      have hlt' : (i : Int) < (n : Int) := by omega
      obtain ⟨a', e16⟩ := fstIt g o n c i hlt hc
      have e18 : ∀ (ts : Array TypeId) (t : TypeId) W, (Builtin.min_ ts t #[.int .i64 4, .int .i64 ((n - i : Nat) : Int)]).run Tryz.prog W = .ok (.int .i64 (m : Int)) W := fun ts t W => by
        rw [run_min_int2]
        congr 2
        split <;> omega
      have eM := midIt g o n c i m hmn hc hmp
      have ew : IntKind.i64.wrap ((i : Int) + (m : Int)) = (i : Int) + (m : Int) := by rw [IntKind.wrap_i64]; omega
      have HJD : Hid (J k wr.drew) := HDR.out _ _ hj
      have HH : Hid (hik = hik ∧ True) := ⟨rfl, trivial⟩
      have HIK : Hid (i = 4 * k) := hik
      have HKN : Hid (k < (n + 3) / 4) := by show k < _; omega
      clear hik hm2 HH hj
      gi_wp2_with fail
      refine wpIn_region_wideM 99 (fun _ => True) (fun W => ChG b b2 (some ⟨g, o, none⟩) n c W) (by kernel_rfl) (by intro a w' h; obtain ⟨⟨v, e⟩, _⟩ : (∃ v, Ending.outgrown = Ending.returned v) ∧ _ := h; cases e) ?_
      have NT : ChG b b2 (some ⟨g, o, none⟩) n c wr.drew := ⟨g0, g1⟩
      have NL : True := trivial
      clear g0 g1
      generalize wr.drew = ww0 at *
      refine takeT (i := 0) (by simp only [List.getElem?_toArray, List.getElem?_cons_zero]; exact rfl) (by kernel_rfl) (by kernel_rfl) (by kernel_rfl) (by exact fun _ _ _ h => h) (by decide) (by rfl) (by intro wq hSw; have y0 := hSw.1; have y1 := hSw.2; go_simp <;> with_reducible rfl) ⟨NT, .inr NL⟩ ?_
      try simp only [Act.put, List.setIfInBounds_toArray, List.set_cons_zero, List.set_cons_succ]
      refine takeT (i := 1) (by simp only [List.getElem?_toArray, List.getElem?_cons_succ, List.getElem?_cons_zero]; exact rfl) (by kernel_rfl) (by kernel_rfl) (by kernel_rfl) (by exact fun _ _ _ h => h) (by decide) (by rfl) (by intro wq hSw; have y0 := hSw.1; have y1 := hSw.2; go_simp <;> with_reducible rfl) ⟨NT, .inr NL⟩ ?_
      try simp only [Act.put, List.setIfInBounds_toArray, List.set_cons_zero, List.set_cons_succ]
      refine takeT (i := 2) (by simp only [List.getElem?_toArray, List.getElem?_cons_succ, List.getElem?_cons_zero]; exact rfl) (by kernel_rfl) (by kernel_rfl) (by kernel_rfl) (by exact fun _ _ _ h => h) (by decide) (by rfl) (by intro wq hSw; go_simp <;> with_reducible rfl) ⟨NT, .inr NL⟩ ?_
      try simp only [Act.put, List.setIfInBounds_toArray, List.set_cons_zero, List.set_cons_succ]
      refine takeT (i := 3) (v := .slice a' (n - i) (c - i)) (by simp only [List.getElem?_toArray, List.getElem?_cons_succ, List.getElem?_cons_zero]; exact rfl) (by kernel_rfl) (by kernel_rfl) (by kernel_rfl) (by exact fun _ _ _ h => h) (by decide) (by rfl) (by intro wq hSw; simp [execOp, Act.eval, e16]) ⟨NT, .inr NL⟩ ?_
      try simp only [Act.put, List.setIfInBounds_toArray, List.set_cons_zero, List.set_cons_succ]
      refine takeT (i := 4) (v := .int .i64 ((n - i : Nat) : Int)) (by simp only [List.getElem?_toArray, List.getElem?_cons_succ, List.getElem?_cons_zero]; exact rfl) (by kernel_rfl) (by kernel_rfl) (by kernel_rfl) (by exact fun _ _ _ h => h) (by decide) (by rfl) (by intro wq hSw; go_simp <;> with_reducible rfl) ⟨NT, .inr NL⟩ ?_
      try simp only [Act.put, List.setIfInBounds_toArray, List.set_cons_zero, List.set_cons_succ]
      refine takeT (i := 5) (v := .int .i64 (m : Int)) (by simp only [List.getElem?_toArray, List.getElem?_cons_succ, List.getElem?_cons_zero]; exact rfl) (by kernel_rfl) (by kernel_rfl) (by kernel_rfl) (by exact fun _ _ _ h => h) (by decide) (by rfl) (by intro wq hSw; simp [execOp, Act.eval, e18, resolve, invoke, builtin, Result.andThen]) ⟨NT, .inr NL⟩ ?_
      try simp only [Act.put, List.setIfInBounds_toArray, List.set_cons_zero, List.set_cons_succ]
      refine takeT (i := 6) (by simp only [List.getElem?_toArray, List.getElem?_cons_succ, List.getElem?_cons_zero]; exact rfl) (by kernel_rfl) (by kernel_rfl) (by kernel_rfl) (by exact fun _ _ _ h => h) (by decide) (by rfl) (by intro wq hSw; go_simp <;> with_reducible rfl) ⟨NT, .inr NL⟩ ?_
      try simp only [Act.put, List.setIfInBounds_toArray, List.set_cons_zero, List.set_cons_succ]
      refine wpAnyM_done (by kernel_rfl) ?_ _
      skip
      obtain ⟨g0, g1⟩ := NT
      obtain ⟨fn, tmps, assign, body, hy1, hR⟩ := HY.out k k (k + 1) ww0 HJD.out ⟨rfl, rfl, HKN.out⟩
      unfold encH at hy1
      rw [hmm.out, ← HIK.out] at hy1
      clear e16 e18
      gi_wp2_with fail
      refine hR.mono ?_
      rintro e w2 (⟨rfl, hj2⟩ | ⟨rfl, hd⟩)
      · clear hR hy1 g0 g1 HJD NL
        obtain ⟨g0, g1⟩ := HG.out _ _ hj2
        have HI2 : Hid (i + 4 = 4 * (k + 1)) := by have := HIK.out; show _ = _; omega
        have hk1 := HKN.out
        gi_wp2
        go_roundw
        case rel => exact ⟨k + 1, i + 4, HI2.out, by omega, by go_num, hj2⟩
        case measure => simp [intOf]; omega
      · clear hR hy1 g0 g1 HJD NL
        gi_wp2
        exact bodyPost_ret (results_none rfl _ _ _) rfl ⟨⟨_, rfl⟩, .inr hd⟩
    · have hlt' : ¬ (i : Int) < (n : Int) := by omega
      have HF : Hid (k = (n + 3) / 4) := by show k = _; omega
      gi_wp2
      go_end0
      exact ⟨⟨_, rfl⟩, .inl (by have h := hj; rw [HF.out] at h; exact h)⟩
theorem chunk_anyIt (a : Option Addr) (n c : Nat) (w : World) :
    Calls Tryz.prog 121 #[.slice a n c, .int .i64 4] w fun e w' => e = .returned (.func (.func 160) #[] #[.pointer (some ⟨w.heap.size, 0, none⟩), .pointer (some ⟨w.heap.size + 1, 0, none⟩)]) ∧ w' = (w.alloc (.cells #[.slice a n c] 107)).alloc (.cells #[.int .i64 4] 3) := by
  go_enter Tryz.func121, Tryz.ntmps121
  go_wp2
  go_ret
  exact ⟨rfl, rfl⟩

theorem midWp (g o n c i m : Nat) (h : i + m ≤ n) (hn : n ≤ c) (h0 : 0 < m) (w : World) : (Instr.sliceAt 137 (.slice (some ⟨g, o, none⟩) n c) (some (.int .i64 (i : Int))) (some (.int .i64 ((i : Int) + (m : Int)))) (some (.int .i64 ((i : Int) + (m : Int))))).run Tryz.prog w = .ok (.slice (some ⟨g, o + i, none⟩) m m) w := by
  obtain ⟨i0, hi, k0, k1, k2⟩ := info_parts infoWp
  obtain ⟨e, he⟩ : ∃ e : Nat, i + m = e := ⟨_, rfl⟩
  have f0 : (i : Int) + (m : Int) = (e : Int) := by omega
  have f1 : (0 : Int) ≤ (i : Int) := by omega
  have f2 : (0 : Int) ≤ (e : Int) := by omega
  have f3 : (e : Int) ≤ (c : Int) := by omega
  have f4 : (i : Int) ≤ (e : Int) := by omega
  have f5 : i ≤ e := by omega
  have f6 : ¬ e = i := by omega
  have f7 : e - i = m := by omega
  rw [f0]
  go_simp
theorem fstWp (g o n c i : Nat) (h : i < n) (hn : n ≤ c) : ∃ a', ∀ w, (Instr.sliceAt 137 (.slice (some ⟨g, o, none⟩) n c) (some (.int .i64 (i : Int))) none none).run Tryz.prog w = .ok (.slice a' (n - i) (c - i)) w := by
  obtain ⟨i0, hi, k0, k1, k2⟩ := info_parts infoWp
  have f1 : (0 : Int) ≤ (i : Int) := by omega
  have f2 : (i : Int) ≤ (n : Int) := by omega
  have f3 : ¬ c = i := by omega
  refine ⟨some ⟨g, o + i, none⟩, fun w => ?_⟩
  go_simp

set_option maxRecDepth 100000 in
set_option maxHeartbeats 4000000 in
theorem chunk_seqWp (b b2 g o c n : Nat) (a : Option Addr) (w : World) (nn : Nat) (hnn : 1 ≤ nn) (hl : n ≤ 2000000) (hc : n ≤ c) (_ : c ≤ 9223372036854775807) (ha : 0 < n → a = some ⟨g, o, none⟩) :
    SeqD Fence.wide nn Tryz.prog 163 #[.pointer (some ⟨b, 0, none⟩), .pointer (some ⟨b2, 0, none⟩)] (encH 1 g o n) (fun (s : Nat) (x : Nat) (s' : Nat) => s = x ∧ s' = x + 1 ∧ x < (n + 3) / 4) 0 (fun s => s = (n + 3) / 4) (ChG b b2 a n c) w := fun l J D W hW hG hDr hY hJ0 => by
  have HY : Hid (∀ (s x s' : Nat) (W1 : World), J s W1 → (s = x ∧ s' = x + 1 ∧ x < (n + 3) / 4) → YieldAt Fence.wide (nn - 1) Tryz.prog l (encH 1 g o n x) W1 fun e W' => (e = .returned (.bool true) ∧ J s' W') ∨ (e = .returned (.bool false) ∧ D W')) := hY
  have HG : Hid (∀ s A, J s A → ChG b b2 a n c A) := hG
  have HDR : Hid (∀ s A, J s A → J s A.drew) := hDr
  have HA : Hid (0 < n → a = some ⟨g, o, none⟩) := ha
  clear hW hG hY hDr ha
  refine callsIn_of_wp Tryz.func163 rfl trivial ?_ rfl
  simp only [Tryz.ntmps163, List.size_toArray, List.length_cons, List.length_nil, Nat.reduceAdd, Nat.reduceSub, Array.replicate_succ, Array.replicate_zero, List.push_toArray, List.append_toArray, List.nil_append, List.cons_append]
  gi_wp2
  gi_loopw [4, 5] (fun s4 _ wr => ∃ k i : Nat, i = 4 * k ∧ k ≤ (n + 3) / 4 ∧ s4 = .int .i64 (i : Int) ∧ J k wr) (fun s4 _ _ => n + 4 - (intOf s4).toNat)
  case atStart => exact ⟨0, 0, rfl, Nat.zero_le _, rfl, hJ0⟩
  case round =>
    obtain ⟨k, i, hik, hk, rfl, hj⟩ := hrel
    rename World => wr
    clear hJ0
    obtain ⟨g0, g1⟩ := HG.out _ _ hj
    by_cases hlt : i < n
    · have ea := HA.out (by omega)
      subst ea
      obtain ⟨m, hmm⟩ : ∃ m, Hid (chM n k = m) := ⟨_, rfl⟩
      have hm2 : m = min 4 (n - i) := by rw [← hmm.out, hik]; rfl
      have hmp : 0 < m := by omega
      have hmn : i + m ≤ n := by omega
      have hm4 : m ≤ 4 := by omega
      have hlt' : (i : Int) < (n : Int) := by omega
      obtain ⟨a', e16⟩ := fstWp g o n c i hlt hc
      have e18 : ∀ (ts : Array TypeId) (t : TypeId) W, (Builtin.min_ ts t #[.int .i64 4, .int .i64 ((n - i : Nat) : Int)]).run Tryz.prog W = .ok (.int .i64 (m : Int)) W := fun ts t W => by
        rw [run_min_int2]
        congr 2
        split <;> omega
      have eM := midWp g o n c i m hmn hc hmp
      have ew : IntKind.i64.wrap ((i : Int) + (m : Int)) = (i : Int) + (m : Int) := by rw [IntKind.wrap_i64]; omega
      have HJD : Hid (J k wr.drew) := HDR.out _ _ hj
      have HH : Hid (hik = hik ∧ True) := ⟨rfl, trivial⟩
      have HIK : Hid (i = 4 * k) := hik
      have HKN : Hid (k < (n + 3) / 4) := by show k < _; omega
      clear hik hm2 HH hj
      gi_wp2_with fail
      refine wpIn_region_wideM 99 (fun _ => True) (fun W => ChG b b2 (some ⟨g, o, none⟩) n c W) (by kernel_rfl) (by intro a w' h; obtain ⟨⟨v, e⟩, _⟩ : (∃ v, Ending.outgrown = Ending.returned v) ∧ _ := h; cases e) ?_
      have NT : ChG b b2 (some ⟨g, o, none⟩) n c wr.drew := ⟨g0, g1⟩
      have NL : True := trivial
      clear g0 g1
      generalize wr.drew = ww0 at *
      refine takeT (i := 0) (by simp only [List.getElem?_toArray, List.getElem?_cons_zero]; exact rfl) (by kernel_rfl) (by kernel_rfl) (by kernel_rfl) (by exact fun _ _ _ h => h) (by decide) (by rfl) (by intro wq hSw; have y0 := hSw.1; have y1 := hSw.2; go_simp <;> with_reducible rfl) ⟨NT, .inr NL⟩ ?_
      try simp only [Act.put, List.setIfInBounds_toArray, List.set_cons_zero, List.set_cons_succ]
      refine takeT (i := 1) (by simp only [List.getElem?_toArray, List.getElem?_cons_succ, List.getElem?_cons_zero]; exact rfl) (by kernel_rfl) (by kernel_rfl) (by kernel_rfl) (by exact fun _ _ _ h => h) (by decide) (by rfl) (by intro wq hSw; have y0 := hSw.1; have y1 := hSw.2; go_simp <;> with_reducible rfl) ⟨NT, .inr NL⟩ ?_
      try simp only [Act.put, List.setIfInBounds_toArray, List.set_cons_zero, List.set_cons_succ]
      refine takeT (i := 2) (by simp only [List.getElem?_toArray, List.getElem?_cons_succ, List.getElem?_cons_zero]; exact rfl) (by kernel_rfl) (by kernel_rfl) (by kernel_rfl) (by exact fun _ _ _ h => h) (by decide) (by rfl) (by intro wq hSw; go_simp <;> with_reducible rfl) ⟨NT, .inr NL⟩ ?_
      try simp only [Act.put, List.setIfInBounds_toArray, List.set_cons_zero, List.set_cons_succ]
      refine takeT (i := 3) (v := .slice a' (n - i) (c - i)) (by simp only [List.getElem?_toArray, List.getElem?_cons_succ, List.getElem?_cons_zero]; exact rfl) (by kernel_rfl) (by kernel_rfl) (by kernel_rfl) (by exact fun _ _ _ h => h) (by decide) (by rfl) (by intro wq hSw; simp [execOp, Act.eval, e16]) ⟨NT, .inr NL⟩ ?_
      try simp only [Act.put, List.setIfInBounds_toArray, List.set_cons_zero, List.set_cons_succ]
      refine takeT (i := 4) (v := .int .i64 ((n - i : Nat) : Int)) (by simp only [List.getElem?_toArray, List.getElem?_cons_succ, List.getElem?_cons_zero]; exact rfl) (by kernel_rfl) (by kernel_rfl) (by kernel_rfl) (by exact fun _ _ _ h => h) (by decide) (by rfl) (by intro wq hSw; go_simp <;> with_reducible rfl) ⟨NT, .inr NL⟩ ?_
      try simp only [Act.put, List.setIfInBounds_toArray, List.set_cons_zero, List.set_cons_succ]
      refine takeT (i := 5) (v := .int .i64 (m : Int)) (by simp only [List.getElem?_toArray, List.getElem?_cons_succ, List.getElem?_cons_zero]; exact rfl) (by kernel_rfl) (by kernel_rfl) (by kernel_rfl) (by exact fun _ _ _ h => h) (by decide) (by rfl) (by intro wq hSw; simp [execOp, Act.eval, e18, resolve, invoke, builtin, Result.andThen]) ⟨NT, .inr NL⟩ ?_
      try simp only [Act.put, List.setIfInBounds_toArray, List.set_cons_zero, List.set_cons_succ]
      refine takeT (i := 6) (by simp only [List.getElem?_toArray, List.getElem?_cons_succ, List.getElem?_cons_zero]; exact rfl) (by kernel_rfl) (by kernel_rfl) (by kernel_rfl) (by exact fun _ _ _ h => h) (by decide) (by rfl) (by intro wq hSw; go_simp <;> with_reducible rfl) ⟨NT, .inr NL⟩ ?_
      try simp only [Act.put, List.setIfInBounds_toArray, List.set_cons_zero, List.set_cons_succ]
      refine wpAnyM_done (by kernel_rfl) ?_ _
      skip
      obtain ⟨g0, g1⟩ := NT
      obtain ⟨fn, tmps, assign, body, hy1, hR⟩ := HY.out k k (k + 1) ww0 HJD.out ⟨rfl, rfl, HKN.out⟩
      unfold encH at hy1
      rw [hmm.out, ← HIK.out, Nat.mul_one] at hy1
      clear e16 e18
      gi_wp2_with fail
      refine hR.mono ?_
      rintro e w2 (⟨rfl, hj2⟩ | ⟨rfl, hd⟩)
      · clear hR hy1 g0 g1 HJD NL
        obtain ⟨g0, g1⟩ := HG.out _ _ hj2
        have HI2 : Hid (i + 4 = 4 * (k + 1)) := by have := HIK.out; show _ = _; omega
        have hk1 := HKN.out
        gi_wp2
        go_roundw
        case rel => exact ⟨k + 1, i + 4, HI2.out, by omega, by go_num, hj2⟩
        case measure => simp [intOf]; omega
      · clear hR hy1 g0 g1 HJD NL
        gi_wp2
        exact bodyPost_ret (results_none rfl _ _ _) rfl ⟨⟨_, rfl⟩, .inr hd⟩
    · have hlt' : ¬ (i : Int) < (n : Int) := by omega
      have HF : Hid (k = (n + 3) / 4) := by show k = _; omega
      gi_wp2
      go_end0
      exact ⟨⟨_, rfl⟩, .inl (by have h := hj; rw [HF.out] at h; exact h)⟩
theorem chunk_anyWp (a : Option Addr) (n c : Nat) (w : World) :
    Calls Tryz.prog 123 #[.slice a n c, .int .i64 4] w fun e w' => e = .returned (.func (.func 163) #[] #[.pointer (some ⟨w.heap.size, 0, none⟩), .pointer (some ⟨w.heap.size + 1, 0, none⟩)]) ∧ w' = (w.alloc (.cells #[.slice a n c] 137)).alloc (.cells #[.int .i64 4] 3) := by
  go_enter Tryz.func123, Tryz.ntmps123
  go_wp2
  go_ret
  exact ⟨rfl, rfl⟩
end Go.Proofs.YthompofbdjdloaaGreat
