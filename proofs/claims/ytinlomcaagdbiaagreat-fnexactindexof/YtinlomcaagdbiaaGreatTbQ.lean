import Derived.Test.YtinlomcaagdbiaaGreatHeldM
import Derived.Test.YtinlomcaagdbiaaGreatTrH
import Derived.Test.YtinlomcaagdbiaaGreatSBox
import Derived.Deep.Cut
import Derived.LaidEqlPtr
/- slices.Chunk in fours: over items, over nodes at work. -/
namespace Go.Proofs.YtinlomcaagdbiaaGreat
open Go.RowKit Go.Shelf
attribute [local go_sem] Oper.semAt_some

def chM (n k : Nat) : Nat := min 4 (n - 4 * k)
def encH (s g o n : Nat) (k : Nat) : Array Value := #[.slice (some ⟨g, o + 4 * k * s, none⟩) (chM n k) (chM n k)]
def ChG (b b2 : Nat) (a : Option Addr) (n c : Nat) (A : World) : Prop := A.cell? ⟨b, 0, none⟩ = some (.slice a n c) ∧ A.cell? ⟨b2, 0, none⟩ = some (.int .i64 4)

theorem midIt (g o n c i m : Nat) (h : i + m ≤ n) (hn : n ≤ c) (h0 : 0 < m) (w : World) : (Instr.sliceAt 107 (.slice (some ⟨g, o, none⟩) n c) (some (.int .i64 (i : Int))) (some (.int .i64 ((i : Int) + (m : Int)))) (some (.int .i64 ((i : Int) + (m : Int))))).run Tryz.prog w = .ok (.slice (some ⟨g, o + i * 5, none⟩) m m) w := by
 obtain ⟨i0, hi, k0, k1, k2⟩ := info_parts infoIt
 obtain ⟨e, he⟩ : ∃ e : Nat, i + m = e := ⟨_, rfl⟩
 have f0 : (i : Int) + (m : Int) = (e : Int) := by omega
 have f1 : (0 : Int) ≤ (i : Int) := by omega
 have f2 : (0 : Int) ≤ (e : Int) := by omega
 have f3 : (e : Int) ≤ (c : Int) := by omega
 have f4 : (i : Int) ≤ (e : Int) := by omega
 have f5 : i ≤ e := by omega
 have f6 : ¬ e = i := by omega
 have f7 : e - i = m := by omega
 rw [f0]
 go_simp
theorem fstIt (g o n c i : Nat) (h : i < n) (hn : n ≤ c) : ∃ a', ∀ w, (Instr.sliceAt 107 (.slice (some ⟨g, o, none⟩) n c) (some (.int .i64 (i : Int))) none none).run Tryz.prog w = .ok (.slice a' (n - i) (c - i)) w := by
 obtain ⟨i0, hi, k0, k1, k2⟩ := info_parts infoIt
 have f1 : (0 : Int) ≤ (i : Int) := by omega
 have f2 : (i : Int) ≤ (n : Int) := by omega
 have f3 : ¬ c = i := by omega
 refine ⟨some ⟨g, o + i * 5, none⟩, fun w => ?_⟩
 go_simp

set_option maxRecDepth 100000 in
set_option maxHeartbeats 4000000 in
theorem chunk_seqIt (b b2 g o c n : Nat) (a : Option Addr) (w : World) (nn : Nat) (hnn : 1 ≤ nn) (hl : n ≤ 2000000) (hc : n ≤ c) (_ : c ≤ 9223372036854775807) (ha : 0 < n → a = some ⟨g, o, none⟩) :
  SeqD Fence.wide nn Tryz.prog 127 #[.pointer (some ⟨b, 0, none⟩), .pointer (some ⟨b2, 0, none⟩)] (encH 5 g o n) (fun (s : Nat) (x : Nat) (s' : Nat) => s = x ∧ s' = x + 1 ∧ x < (n + 3) / 4) 0 (fun s => s = (n + 3) / 4) (ChG b b2 a n c) w := fun l J D W hW hG hDr hY hJ0 => by
 have HY : Hid (∀ (s x s' : Nat) (W1 : World), J s W1 → (s = x ∧ s' = x + 1 ∧ x < (n + 3) / 4) → YieldAt Fence.wide (nn - 1) Tryz.prog l (encH 5 g o n x) W1 fun e W' => (e = .returned (.bool true) ∧ J s' W') ∨ (e = .returned (.bool false) ∧ D W')) := hY
 have HG : Hid (∀ s A, J s A → ChG b b2 a n c A) := hG
 have HDR : Hid (∀ s A, J s A → J s A.drew) := hDr
 have HA : Hid (0 < n → a = some ⟨g, o, none⟩) := ha
 clear hW hG hY hDr ha
 refine callsIn_of_wp Tryz.func127 rfl trivial ?_ rfl
 simp only [Tryz.ntmps127, List.size_toArray, List.length_cons, List.length_nil, Nat.reduceAdd, Nat.reduceSub, Array.replicate_succ, Array.replicate_zero, List.push_toArray, List.append_toArray, List.nil_append, List.cons_append]
 gi_wp2
 gi_loopw [4, 5] (fun s4 _ wr => ∃ k i : Nat, i = 4 * k ∧ k ≤ (n + 3) / 4 ∧ s4 = .int .i64 (i : Int) ∧ J k wr) (fun s4 _ _ => n + 4 - (intOf s4).toNat)
 case atStart => exact ⟨0, 0, rfl, Nat.zero_le _, rfl, hJ0⟩
 case round =>
  obtain ⟨k, i, hik, hk, rfl, hj⟩ := hrel
  rename World => wr
  clear hJ0
  obtain ⟨g0, g1⟩ := HG.out _ _ hj
  by_cases hlt : i < n
  ·have ea := HA.out (by omega)
   subst ea
   obtain ⟨m, hmm⟩ : ∃ m, Hid (chM n k = m) := ⟨_, rfl⟩
   have hm2 : m = min 4 (n - i) := by rw [← hmm.out, hik]; rfl
   have hmp : 0 < m := by omega
   have hmn : i + m ≤ n := by omega
   have hm4 : m ≤ 4 := by omega
   have hlt' : (i : Int) < (n : Int) := by omega
   obtain ⟨a', e16⟩ := fstIt g o n c i hlt hc
   have e18 : ∀ (ts : Array TypeId) (t : TypeId) W, (Builtin.min_ ts t #[.int .i64 4, .int .i64 ((n - i : Nat) : Int)]).run Tryz.prog W = .ok (.int .i64 (m : Int)) W := fun ts t W => by
    rw [run_min_int2]
    congr 2
    split <;> omega
   have eM := midIt g o n c i m hmn hc hmp
   have ew : IntKind.i64.wrap ((i : Int) + (m : Int)) = (i : Int) + (m : Int) := by rw [IntKind.wrap_i64]; omega
   have HJD : Hid (J k wr.drew) := HDR.out _ _ hj
   have HH : Hid (hik = hik ∧ True) := ⟨rfl, trivial⟩
   have HIK : Hid (i = 4 * k) := hik
   have HKN : Hid (k < (n + 3) / 4) := by show k < _; omega
   clear hik hm2 HH hj
   gi_wp2_with fail
   refine wpIn_region_wideM 99 (fun _ => True) (fun W => ChG b b2 (some ⟨g, o, none⟩) n c W) (by kernel_rfl) (by intro a w' h; obtain ⟨⟨v, e⟩, _⟩ : (∃ v, Ending.outgrown = Ending.returned v) ∧ _ := h; cases e) ?_
   have NT : ChG b b2 (some ⟨g, o, none⟩) n c wr.drew := ⟨g0, g1⟩
   have NL : True := trivial
   clear g0 g1
   generalize wr.drew = ww0 at *
   refine takeT (i := 0) (by simp only [List.getElem?_toArray, List.getElem?_cons_zero]; exact rfl) (by kernel_rfl) (by kernel_rfl) (by kernel_rfl) (by exact fun _ _ _ h => h) (by decide) (by rfl) (by intro wq hSw; have y0 := hSw.1; have y1 := hSw.2; go_simp <;> with_reducible rfl) ⟨NT, .inr NL⟩ ?_
   try simp only [Act.put, pA, pB, pC]
   refine takeT (i := 1) (by simp only [List.getElem?_toArray, List.getElem?_cons_succ, List.getElem?_cons_zero]; exact rfl) (by kernel_rfl) (by kernel_rfl) (by kernel_rfl) (by exact fun _ _ _ h => h) (by decide) (by rfl) (by intro wq hSw; have y0 := hSw.1; have y1 := hSw.2; go_simp <;> with_reducible rfl) ⟨NT, .inr NL⟩ ?_
   try simp only [Act.put, pA, pB, pC]
   refine takeT (i := 2) (by simp only [List.getElem?_toArray, List.getElem?_cons_succ, List.getElem?_cons_zero]; exact rfl) (by kernel_rfl) (by kernel_rfl) (by kernel_rfl) (by exact fun _ _ _ h => h) (by decide) (by rfl) (by intro wq hSw; go_simp <;> with_reducible rfl) ⟨NT, .inr NL⟩ ?_
   try simp only [Act.put, pA, pB, pC]
   refine takeT (i := 3) (v := .slice a' (n - i) (c - i)) (by simp only [List.getElem?_toArray, List.getElem?_cons_succ, List.getElem?_cons_zero]; exact rfl) (by kernel_rfl) (by kernel_rfl) (by kernel_rfl) (by exact fun _ _ _ h => h) (by decide) (by rfl) (by intro wq hSw; simp [execOp, Act.eval, e16]) ⟨NT, .inr NL⟩ ?_
   try simp only [Act.put, pA, pB, pC]
   refine takeT (i := 4) (v := .int .i64 ((n - i : Nat) : Int)) (by simp only [List.getElem?_toArray, List.getElem?_cons_succ, List.getElem?_cons_zero]; exact rfl) (by kernel_rfl) (by kernel_rfl) (by kernel_rfl) (by exact fun _ _ _ h => h) (by decide) (by rfl) (by intro wq hSw; go_simp <;> with_reducible rfl) ⟨NT, .inr NL⟩ ?_
   try simp only [Act.put, pA, pB, pC]
   refine takeT (i := 5) (v := .int .i64 (m : Int)) (by simp only [List.getElem?_toArray, List.getElem?_cons_succ, List.getElem?_cons_zero]; exact rfl) (by kernel_rfl) (by kernel_rfl) (by kernel_rfl) (by exact fun _ _ _ h => h) (by decide) (by rfl) (by intro wq hSw; simp [execOp, Act.eval, e18, resolve, invoke, builtin, Result.andThen]) ⟨NT, .inr NL⟩ ?_
   try simp only [Act.put, pA, pB, pC]
   refine takeT (i := 6) (by simp only [List.getElem?_toArray, List.getElem?_cons_succ, List.getElem?_cons_zero]; exact rfl) (by kernel_rfl) (by kernel_rfl) (by kernel_rfl) (by exact fun _ _ _ h => h) (by decide) (by rfl) (by intro wq hSw; go_simp <;> with_reducible rfl) ⟨NT, .inr NL⟩ ?_
   try simp only [Act.put, pA, pB, pC]
   refine wpAnyM_done (by kernel_rfl) ?_ _
   skip
   obtain ⟨g0, g1⟩ := NT
   obtain ⟨fn, tmps, assign, body, hy1, hR⟩ := HY.out k k (k + 1) ww0 HJD.out ⟨rfl, rfl, HKN.out⟩
   unfold encH at hy1
   rw [hmm.out, ← HIK.out] at hy1
   clear e16 e18
   gi_wp2_with fail
   refine hR.mono ?_
   rintro e w2 (⟨rfl, hj2⟩ | ⟨rfl, hd⟩)
   ·clear hR hy1 g0 g1 HJD NL
    obtain ⟨g0, g1⟩ := HG.out _ _ hj2
    have HI2 : Hid (i + 4 = 4 * (k + 1)) := by have := HIK.out; show _ = _; omega
    have hk1 := HKN.out
    gi_wp2
    go_roundw
    case rel => exact ⟨k + 1, i + 4, HI2.out, by omega, by go_num, hj2⟩
    case measure => simp [intOf]; omega
   ·clear hR hy1 g0 g1 HJD NL
    gi_wp2
    exact bodyPost_ret (results_none rfl _ _ _) rfl ⟨⟨_, rfl⟩, .inr hd⟩
  ·have hlt' : ¬ (i : Int) < (n : Int) := by omega
   have HF : Hid (k = (n + 3) / 4) := by show k = _; omega
   gi_wp2
   go_end0
   exact ⟨⟨_, rfl⟩, .inl (by have h := hj; rw [HF.out] at h; exact h)⟩
theorem chunk_anyIt (a : Option Addr) (n c : Nat) (w : World) :
  Calls Tryz.prog 109 #[.slice a n c, .int .i64 4] w fun e w' => e = .returned (.func (.func 127) #[] #[.pointer (some ⟨w.heap.size, 0, none⟩), .pointer (some ⟨w.heap.size + 1, 0, none⟩)]) ∧ w' = (w.alloc (.cells #[.slice a n c] 107)).alloc (.cells #[.int .i64 4] 3) := by
 go_enter Tryz.func109, Tryz.ntmps109
 go_wp2
 go_ret
 exact ⟨rfl, rfl⟩

theorem midWp (g o n c i m : Nat) (h : i + m ≤ n) (hn : n ≤ c) (h0 : 0 < m) (w : World) : (Instr.sliceAt 108 (.slice (some ⟨g, o, none⟩) n c) (some (.int .i64 (i : Int))) (some (.int .i64 ((i : Int) + (m : Int)))) (some (.int .i64 ((i : Int) + (m : Int))))).run Tryz.prog w = .ok (.slice (some ⟨g, o + i, none⟩) m m) w := by
 obtain ⟨i0, hi, k0, k1, k2⟩ := info_parts infoWp
 obtain ⟨e, he⟩ : ∃ e : Nat, i + m = e := ⟨_, rfl⟩
 have f0 : (i : Int) + (m : Int) = (e : Int) := by omega
 have f1 : (0 : Int) ≤ (i : Int) := by omega
 have f2 : (0 : Int) ≤ (e : Int) := by omega
 have f3 : (e : Int) ≤ (c : Int) := by omega
 have f4 : (i : Int) ≤ (e : Int) := by omega
 have f5 : i ≤ e := by omega
 have f6 : ¬ e = i := by omega
 have f7 : e - i = m := by omega
 rw [f0]
 go_simp
theorem fstWp (g o n c i : Nat) (h : i < n) (hn : n ≤ c) : ∃ a', ∀ w, (Instr.sliceAt 108 (.slice (some ⟨g, o, none⟩) n c) (some (.int .i64 (i : Int))) none none).run Tryz.prog w = .ok (.slice a' (n - i) (c - i)) w := by
 obtain ⟨i0, hi, k0, k1, k2⟩ := info_parts infoWp
 have f1 : (0 : Int) ≤ (i : Int) := by omega
 have f2 : (i : Int) ≤ (n : Int) := by omega
 have f3 : ¬ c = i := by omega
 refine ⟨some ⟨g, o + i, none⟩, fun w => ?_⟩
 go_simp

set_option maxRecDepth 100000 in
set_option maxHeartbeats 4000000 in
theorem chunk_seqWp (b b2 g o c n : Nat) (a : Option Addr) (w : World) (nn : Nat) (hnn : 1 ≤ nn) (hl : n ≤ 2000000) (hc : n ≤ c) (_ : c ≤ 9223372036854775807) (ha : 0 < n → a = some ⟨g, o, none⟩) :
  SeqD Fence.wide nn Tryz.prog 130 #[.pointer (some ⟨b, 0, none⟩), .pointer (some ⟨b2, 0, none⟩)] (encH 1 g o n) (fun (s : Nat) (x : Nat) (s' : Nat) => s = x ∧ s' = x + 1 ∧ x < (n + 3) / 4) 0 (fun s => s = (n + 3) / 4) (ChG b b2 a n c) w := fun l J D W hW hG hDr hY hJ0 => by
 have HY : Hid (∀ (s x s' : Nat) (W1 : World), J s W1 → (s = x ∧ s' = x + 1 ∧ x < (n + 3) / 4) → YieldAt Fence.wide (nn - 1) Tryz.prog l (encH 1 g o n x) W1 fun e W' => (e = .returned (.bool true) ∧ J s' W') ∨ (e = .returned (.bool false) ∧ D W')) := hY
 have HG : Hid (∀ s A, J s A → ChG b b2 a n c A) := hG
 have HDR : Hid (∀ s A, J s A → J s A.drew) := hDr
 have HA : Hid (0 < n → a = some ⟨g, o, none⟩) := ha
 clear hW hG hY hDr ha
 refine callsIn_of_wp Tryz.func130 rfl trivial ?_ rfl
 simp only [Tryz.ntmps130, List.size_toArray, List.length_cons, List.length_nil, Nat.reduceAdd, Nat.reduceSub, Array.replicate_succ, Array.replicate_zero, List.push_toArray, List.append_toArray, List.nil_append, List.cons_append]
 gi_wp2
 gi_loopw [4, 5] (fun s4 _ wr => ∃ k i : Nat, i = 4 * k ∧ k ≤ (n + 3) / 4 ∧ s4 = .int .i64 (i : Int) ∧ J k wr) (fun s4 _ _ => n + 4 - (intOf s4).toNat)
 case atStart => exact ⟨0, 0, rfl, Nat.zero_le _, rfl, hJ0⟩
 case round =>
  obtain ⟨k, i, hik, hk, rfl, hj⟩ := hrel
  rename World => wr
  clear hJ0
  obtain ⟨g0, g1⟩ := HG.out _ _ hj
  by_cases hlt : i < n
  ·have ea := HA.out (by omega)
   subst ea
   obtain ⟨m, hmm⟩ : ∃ m, Hid (chM n k = m) := ⟨_, rfl⟩
   have hm2 : m = min 4 (n - i) := by rw [← hmm.out, hik]; rfl
   have hmp : 0 < m := by omega
   have hmn : i + m ≤ n := by omega
   have hm4 : m ≤ 4 := by omega
   have hlt' : (i : Int) < (n : Int) := by omega
   obtain ⟨a', e16⟩ := fstWp g o n c i hlt hc
   have e18 : ∀ (ts : Array TypeId) (t : TypeId) W, (Builtin.min_ ts t #[.int .i64 4, .int .i64 ((n - i : Nat) : Int)]).run Tryz.prog W = .ok (.int .i64 (m : Int)) W := fun ts t W => by
    rw [run_min_int2]
    congr 2
    split <;> omega
   have eM := midWp g o n c i m hmn hc hmp
   have ew : IntKind.i64.wrap ((i : Int) + (m : Int)) = (i : Int) + (m : Int) := by rw [IntKind.wrap_i64]; omega
   have HJD : Hid (J k wr.drew) := HDR.out _ _ hj
   have HH : Hid (hik = hik ∧ True) := ⟨rfl, trivial⟩
   have HIK : Hid (i = 4 * k) := hik
   have HKN : Hid (k < (n + 3) / 4) := by show k < _; omega
   clear hik hm2 HH hj
   gi_wp2_with fail
   refine wpIn_region_wideM 99 (fun _ => True) (fun W => ChG b b2 (some ⟨g, o, none⟩) n c W) (by kernel_rfl) (by intro a w' h; obtain ⟨⟨v, e⟩, _⟩ : (∃ v, Ending.outgrown = Ending.returned v) ∧ _ := h; cases e) ?_
   have NT : ChG b b2 (some ⟨g, o, none⟩) n c wr.drew := ⟨g0, g1⟩
   have NL : True := trivial
   clear g0 g1
   generalize wr.drew = ww0 at *
   refine takeT (i := 0) (by simp only [List.getElem?_toArray, List.getElem?_cons_zero]; exact rfl) (by kernel_rfl) (by kernel_rfl) (by kernel_rfl) (by exact fun _ _ _ h => h) (by decide) (by rfl) (by intro wq hSw; have y0 := hSw.1; have y1 := hSw.2; go_simp <;> with_reducible rfl) ⟨NT, .inr NL⟩ ?_
   try simp only [Act.put, pA, pB, pC]
   refine takeT (i := 1) (by simp only [List.getElem?_toArray, List.getElem?_cons_succ, List.getElem?_cons_zero]; exact rfl) (by kernel_rfl) (by kernel_rfl) (by kernel_rfl) (by exact fun _ _ _ h => h) (by decide) (by rfl) (by intro wq hSw; have y0 := hSw.1; have y1 := hSw.2; go_simp <;> with_reducible rfl) ⟨NT, .inr NL⟩ ?_
   try simp only [Act.put, pA, pB, pC]
   refine takeT (i := 2) (by simp only [List.getElem?_toArray, List.getElem?_cons_succ, List.getElem?_cons_zero]; exact rfl) (by kernel_rfl) (by kernel_rfl) (by kernel_rfl) (by exact fun _ _ _ h => h) (by decide) (by rfl) (by intro wq hSw; go_simp <;> with_reducible rfl) ⟨NT, .inr NL⟩ ?_
   try simp only [Act.put, pA, pB, pC]
   refine takeT (i := 3) (v := .slice a' (n - i) (c - i)) (by simp only [List.getElem?_toArray, List.getElem?_cons_succ, List.getElem?_cons_zero]; exact rfl) (by kernel_rfl) (by kernel_rfl) (by kernel_rfl) (by exact fun _ _ _ h => h) (by decide) (by rfl) (by intro wq hSw; simp [execOp, Act.eval, e16]) ⟨NT, .inr NL⟩ ?_
   try simp only [Act.put, pA, pB, pC]
   refine takeT (i := 4) (v := .int .i64 ((n - i : Nat) : Int)) (by simp only [List.getElem?_toArray, List.getElem?_cons_succ, List.getElem?_cons_zero]; exact rfl) (by kernel_rfl) (by kernel_rfl) (by kernel_rfl) (by exact fun _ _ _ h => h) (by decide) (by rfl) (by intro wq hSw; go_simp <;> with_reducible rfl) ⟨NT, .inr NL⟩ ?_
   try simp only [Act.put, pA, pB, pC]
   refine takeT (i := 5) (v := .int .i64 (m : Int)) (by simp only [List.getElem?_toArray, List.getElem?_cons_succ, List.getElem?_cons_zero]; exact rfl) (by kernel_rfl) (by kernel_rfl) (by kernel_rfl) (by exact fun _ _ _ h => h) (by decide) (by rfl) (by intro wq hSw; simp [execOp, Act.eval, e18, resolve, invoke, builtin, Result.andThen]) ⟨NT, .inr NL⟩ ?_
   try simp only [Act.put, pA, pB, pC]
   refine takeT (i := 6) (by simp only [List.getElem?_toArray, List.getElem?_cons_succ, List.getElem?_cons_zero]; exact rfl) (by kernel_rfl) (by kernel_rfl) (by kernel_rfl) (by exact fun _ _ _ h => h) (by decide) (by rfl) (by intro wq hSw; go_simp <;> with_reducible rfl) ⟨NT, .inr NL⟩ ?_
   try simp only [Act.put, pA, pB, pC]
   refine wpAnyM_done (by kernel_rfl) ?_ _
   skip
   obtain ⟨g0, g1⟩ := NT
   obtain ⟨fn, tmps, assign, body, hy1, hR⟩ := HY.out k k (k + 1) ww0 HJD.out ⟨rfl, rfl, HKN.out⟩
   unfold encH at hy1
   rw [hmm.out, ← HIK.out, Nat.mul_one] at hy1
   clear e16 e18
   gi_wp2_with fail
   refine hR.mono ?_
   rintro e w2 (⟨rfl, hj2⟩ | ⟨rfl, hd⟩)
   ·clear hR hy1 g0 g1 HJD NL
    obtain ⟨g0, g1⟩ := HG.out _ _ hj2
    have HI2 : Hid (i + 4 = 4 * (k + 1)) := by have := HIK.out; show _ = _; omega
    have hk1 := HKN.out
    gi_wp2
    go_roundw
    case rel => exact ⟨k + 1, i + 4, HI2.out, by omega, by go_num, hj2⟩
    case measure => simp [intOf]; omega
   ·clear hR hy1 g0 g1 HJD NL
    gi_wp2
    exact bodyPost_ret (results_none rfl _ _ _) rfl ⟨⟨_, rfl⟩, .inr hd⟩
  ·have hlt' : ¬ (i : Int) < (n : Int) := by omega
   have HF : Hid (k = (n + 3) / 4) := by show k = _; omega
   gi_wp2
   go_end0
   exact ⟨⟨_, rfl⟩, .inl (by have h := hj; rw [HF.out] at h; exact h)⟩
theorem chunk_anyWp (a : Option Addr) (n c : Nat) (w : World) :
  Calls Tryz.prog 111 #[.slice a n c, .int .i64 4] w fun e w' => e = .returned (.func (.func 130) #[] #[.pointer (some ⟨w.heap.size, 0, none⟩), .pointer (some ⟨w.heap.size + 1, 0, none⟩)]) ∧ w' = (w.alloc (.cells #[.slice a n c] 108)).alloc (.cells #[.int .i64 4] 3) := by
 go_enter Tryz.func111, Tryz.ntmps111
 go_wp2
 go_ret
 exact ⟨rfl, rfl⟩
end Go.Proofs.YtinlomcaagdbiaaGreat

/- Trees whose rows lie in blocks of their own, each in one; what the law's marks make of a tree. -/
namespace Go.Proofs.YtinlomcaagdbiaaGreat
open Go.RowKit

structure Chg (F : Nat → Prop) (w w' : World) : Prop where
 os : w'.os = w.os
 tape : w'.tape = w.tape
 output : w'.output = w.output
 size : w.heap.size ≤ w'.heap.size
 blk : ∀ k, k < w.heap.size → ¬ F k → w'.heap[k]? = w.heap[k]?
 fr : ∀ b o, b < w.heap.size → w.frozen? ⟨b, o, none⟩ = false → w'.frozen? ⟨b, o, none⟩ = false
theorem Chg.refl (F : Nat → Prop) (w : World) : Chg F w w := ⟨rfl, rfl, rfl, Nat.le_refl _, fun _ _ _ => rfl, fun _ _ _ h => h⟩
theorem Chg.trans {F : Nat → Prop} {w w1 w2 : World} (h : Chg F w w1) (k : Chg F w1 w2) : Chg F w w2 :=
 ⟨k.os.trans h.os, k.tape.trans h.tape, k.output.trans h.output, Nat.le_trans h.size k.size, fun q hq nf => (k.blk q (Nat.lt_of_lt_of_le hq h.size) nf).trans (h.blk q hq nf), fun b o hb e => k.fr b o (Nat.lt_of_lt_of_le hb h.size) (h.fr b o hb e)⟩
theorem Chg.mono {F F' : Nat → Prop} {w w' : World} (h : Chg F w w') (hs : ∀ q, F q → F' q) : Chg F' w w' := ⟨h.os, h.tape, h.output, h.size, fun q hq nf => h.blk q hq (fun f => nf (hs q f)), h.fr⟩
theorem Chg.put {F : Nat → Prop} {w w' : World} (h : Chg F w w') {p k : Nat} (hp : F p) (u : Value) : Chg F w (w'.setCell ⟨p, k, none⟩ u) :=
 ⟨h.os, h.tape, h.output, by simpa [World.setCell] using h.size, fun q hq nf => (Below.heap_setCell _ _ _ _ (fun e => nf (by have e' : q = p := e; rw [e']; exact hp))).trans (h.blk q hq nf), fun b o hb e => by rw [World.frozen?_setCell]; exact h.fr b o hb e⟩
theorem Chg.at {F : Nat → Prop} {w w' : World} (h : Chg F w w') {b k : Nat} {v : Value} (nf : ¬ F b) (e : w.cell? ⟨b, k, none⟩ = some v) : w'.cell? ⟨b, k, none⟩ = some v :=
 (World.cell?_of_block (a := ⟨b, k, none⟩) (h.blk b (World.block_lt_of_cell? w _ e) nf)).trans e
theorem Chg.bel {F : Nat → Prop} {w w' : World} {n : Nat} (h : Chg F w w') (hn : ∀ q, F q → n ≤ q) (hl : n ≤ w.heap.size) : Below n w w' := ⟨h.os, h.tape, h.output, h.size, fun k hk => h.blk k (by omega) (fun f => by have := hn k f; omega)⟩
structure In1 (w : World) (F : Nat → Prop) (n : Nat) (a : Option Addr) (q : Nat) : Prop where
 ad : 0 < n → a = some ⟨q, 0, none⟩
 mem : 0 < n → F q
 lt : 0 < n → q < w.heap.size
 fr : 0 < n → ∀ o, w.frozen? ⟨q, o, none⟩ = false
theorem In1.chg {w w' : World} {F H : Nat → Prop} {n q : Nat} {a : Option Addr} (h : In1 w F n a q) (c : Chg H w w') : In1 w' F n a q := ⟨h.ad, h.mem, fun hn => Nat.lt_of_lt_of_le (h.lt hn) c.size, fun hn o => c.fr q o (h.lt hn) (h.fr hn o)⟩
theorem In1.mono {w : World} {F F' : Nat → Prop} {n q : Nat} {a : Option Addr} (h : In1 w F n a q) (hs : ∀ q, F q → F' q) : In1 w F' n a q := ⟨h.ad, fun hn => hs _ (h.mem hn), h.lt, h.fr⟩
theorem SeesX.chg {w w' : World} {F : Nat → Prop} {a : Option Addr} {c q : Nat} {bs : List Bx} (h : SeesX w a c bs) (C : Chg F w w') (ha : 0 < bs.length → a = some ⟨q, 0, none⟩) (nf : 0 < bs.length → ¬ F q) : SeesX w' a c bs :=
 ⟨h.fits, h.max, fun hn => by
  have hp := List.length_pos_iff.2 hn
  obtain ⟨b, off, ea, hc⟩ := h.cells hn
  have e := ha hp
  rw [ea] at e
  injection e with e
  injection e with e1 e2
  subst e1 e2
  have nf := nf hp
  exact ⟨b, 0, ea, fun i hi => ⟨C.at nf (hc i hi).1, C.at nf (hc i hi).2.1, C.at nf (hc i hi).2.2.1, C.at nf (hc i hi).2.2.2⟩⟩⟩
theorem SeesI.chg {w w' : World} {F : Nat → Prop} {a : Option Addr} {c q : Nat} {is : List Int} (h : SeesI w a c is) (C : Chg F w w') (ha : 0 < is.length → a = some ⟨q, 0, none⟩) (nf : 0 < is.length → ¬ F q) : SeesI w' a c is :=
 ⟨h.fits, h.max, fun hn => by
  have hp := List.length_pos_iff.2 hn
  obtain ⟨b, off, ea, hc⟩ := h.cells hn
  have e := ha hp
  rw [ea] at e
  injection e with e
  injection e with e1 e2
  subst e1 e2
  have nf := nf hp
  exact ⟨b, 0, ea, fun i hi => C.at nf (hc i hi)⟩⟩
theorem Sev.chg {w w' : World} {F : Nat → Prop} {p o : Nat} {x : Bx} {v1 v2 v3 : Value} (h : Sev w p o x v1 v2 v3) (C : Chg F w w') (nf : ¬ F p) : Sev w' p o x v1 v2 v3 :=
 ⟨⟨C.at nf h.four.1, C.at nf h.four.2.1, C.at nf h.four.2.2.1, C.at nf h.four.2.2.2⟩, C.at nf h.c4, C.at nf h.c5, C.at nf h.c6⟩
structure Aps (n1 n2 n3 q1 q2 q3 : Nat) (G : Nat → Nat → Prop) : Prop where
 d12 : 0 < n1 → 0 < n2 → q1 ≠ q2
 d13 : 0 < n1 → 0 < n3 → q1 ≠ q3
 d23 : 0 < n2 → 0 < n3 → q2 ≠ q3
 k1 : 0 < n1 → ∀ i, i < n3 → ¬ G i q1
 k2 : 0 < n2 → ∀ i, i < n3 → ¬ G i q2
 k3 : ∀ i, i < n3 → ¬ G i q3
 kk : ∀ i j q, i < n3 → j < n3 → i ≠ j → G i q → ¬ G j q
inductive NdFp (w : World) : (Nat → Prop) → Nd → Value → Value → Value → Prop where
 | mk {F : Nat → Prop} {b : Bx} {bs : List Bx} {is : List Int} {ks : List Nd} {a1 a2 a3 : Option Addr} {c1 c2 c3 q1 q2 q3 : Nat} {G : Nat → Nat → Prop} {g1 g2 g3 : Nat → Value}
   (s1 : SeesX w a1 c1 bs) (s2 : SeesI w a2 c2 is) (h3 : ks.length ≤ c3) (m3 : c3 ≤ maxLen) (i1 : In1 w F bs.length a1 q1) (i2 : In1 w F is.length a2 q2) (i3 : In1 w F ks.length a3 q3) (A : Aps bs.length is.length ks.length q1 q2 q3 G) (hG : ∀ i q, i < ks.length → G i q → F q)
   (hS : ∀ i, i < ks.length → Sev w q3 (i * 7) (ndA ks i).b (g1 i) (g2 i) (g3 i)) (hN : ∀ i, i < ks.length → NdFp w (G i) (ndA ks i) (g1 i) (g2 i) (g3 i)) : NdFp w F (.mk b bs is ks) (.slice a1 bs.length c1) (.slice a2 is.length c2) (.slice a3 ks.length c3)
theorem NdFp.chg {w w' : World} {H : Nat → Prop} (C : Chg H w w') : ∀ (t : Nd) {F : Nat → Prop} {v1 v2 v3 : Value}, (∀ q, F q → ¬ H q) → NdFp w F t v1 v2 v3 → NdFp w' F t v1 v2 v3 := by
 refine Nd.ind (P := fun t => ∀ {F : Nat → Prop} {v1 v2 v3 : Value}, (∀ q, F q → ¬ H q) → NdFp w F t v1 v2 v3 → NdFp w' F t v1 v2 v3) ?_
 intro b bs is ks ih F v1 v2 v3 hf h
 cases h with
 | mk s1 s2 h3 m3 i1 i2 i3 A hG hS hN =>
  exact .mk (s1.chg C i1.ad (fun hn => hf _ (i1.mem hn))) (s2.chg C i2.ad (fun hn => hf _ (i2.mem hn))) h3 m3 (i1.chg C) (i2.chg C) (i3.chg C) A hG (fun i hi => (hS i hi).chg C (hf _ (i3.mem (by omega)))) (fun i hi => ih _ (ndA_mem hi) (fun q g => hf q (hG i q hi g)) (hN i hi))
theorem NdFp.mono {w : World} {F F' : Nat → Prop} (hs : ∀ q, F q → F' q) (t : Nd) {v1 v2 v3 : Value} (h : NdFp w F t v1 v2 v3) : NdFp w F' t v1 v2 v3 := by
 cases h with
 | mk s1 s2 h3 m3 i1 i2 i3 A hG hS hN => exact .mk s1 s2 h3 m3 (i1.mono hs) (i2.mono hs) (i3.mono hs) A (fun i q hi g => hs q (hG i q hi g)) hS hN
theorem Chg.of {F : Nat → Prop} {w w' : World} (hb : Below w.heap.size w w') : Chg F w w' :=
 ⟨hb.os, hb.tape, hb.output, hb.size, fun k hk _ => hb.block k hk, fun b o hb' e => (World.frozen?_of_block (a := ⟨b, o, none⟩) (hb.block b hb')).trans e⟩
theorem NdFp.toIn {w : World} : ∀ (t : Nd) {F : Nat → Prop} {v1 v2 v3 : Value}, NdFp w F t v1 v2 v3 → NdIn 0 w t v1 v2 v3 := by
 refine Nd.ind (P := fun t => ∀ {F : Nat → Prop} {v1 v2 v3 : Value}, NdFp w F t v1 v2 v3 → NdIn 0 w t v1 v2 v3) ?_
 intro b bs is ks ih F v1 v2 v3 h
 cases h with
 | mk s1 s2 h3 m3 i1 i2 i3 A hG hS hN =>
  refine .mk (p := _) (o := 0) s1 (fun _ _ _ _ => Nat.zero_le _) s2 (fun _ _ _ _ => Nat.zero_le _) h3 m3 (fun _ _ _ _ => Nat.zero_le _) (fun hn => i3.ad (List.length_pos_iff.2 hn)) (fun i hi => ?_) (fun i hi => ih _ (ndA_mem hi) (hN i hi))
  rw [Nat.zero_add]
  exact hS i hi

def ndC : Nd → Nat
 | .mk _ bs is ks => 4 * bs.length + is.length + ndsC ks
where ndsC : List Nd → Nat
 | [] => 0
 | k :: ks => 4 + ndC k + ndsC ks
def mkBs (k : Int) (n : Nat) : List Bx := (List.range n).map fun (i : Nat) => (k + 4 * (i : Int), k + 4 * (i : Int) + 1, k + 4 * (i : Int) + 1 + 1, k + 4 * (i : Int) + 1 + 1 + 1)
def mkIs (k : Int) (n : Nat) : List Int := (List.range n).map fun (i : Nat) => k + (i : Int)
theorem mkBs_len (k : Int) (n : Nat) : (mkBs k n).length = n := by simp [mkBs]
theorem mkIs_len (k : Int) (n : Nat) : (mkIs k n).length = n := by simp [mkIs]
theorem mkBs_at {k : Int} {n j : Nat} (h : j < n) : bxAt (mkBs k n) j = (k + 4 * (j : Int), k + 4 * (j : Int) + 1, k + 4 * (j : Int) + 1 + 1, k + 4 * (j : Int) + 1 + 1 + 1) := by simp [bxAt, mkBs, h]
theorem mkIs_at {k : Int} {n j : Nat} (h : j < n) : (mkIs k n)[j]?.getD 0 = k + (j : Int) := by simp [mkIs, h]
def mkN : Nd → Bx → Int → Nd
 | .mk _ bs is ks, b, k => .mk b (mkBs k bs.length) (mkIs (k + 4 * bs.length) is.length) (mkNs ks (k + 4 * bs.length + is.length))
where mkNs : List Nd → Int → List Nd
 | [], _ => []
 | t :: ts, k => mkN t (k, k + 1, k + 1 + 1, k + 1 + 1 + 1) (k + 1 + 1 + 1 + 1) :: mkNs ts (k + 4 + ndC t)
theorem mkNs_len : ∀ (ks : List Nd) (k : Int), (mkN.mkNs ks k).length = ks.length
 | [], _ => rfl
 | t :: ts, k => by simp [mkN.mkNs, mkNs_len ts]
theorem ndsC_app : ∀ (a b : List Nd), ndC.ndsC (a ++ b) = ndC.ndsC a + ndC.ndsC b
 | [], b => by simp [ndC.ndsC]
 | t :: ts, b => by simp [ndC.ndsC, ndsC_app ts]; omega
theorem ndsC_at {ks : List Nd} {j : Nat} (h : j < ks.length) : ndC.ndsC (ks.take (j + 1)) = ndC.ndsC (ks.take j) + (4 + ndC (ndA ks j)) := by
 rw [List.take_succ_eq_append_getElem h, ndsC_app]
 unfold ndA
 rw [List.getElem?_eq_getElem h]
 simp [ndC.ndsC]
theorem ndsC_le (ks : List Nd) (j : Nat) : ndC.ndsC (ks.take j) ≤ ndC.ndsC ks := by
 have := ndsC_app (ks.take j) (ks.drop j)
 rw [List.take_append_drop] at this
 omega
theorem mkNs_at : ∀ (ks : List Nd) (k : Int) (j : Nat), j < ks.length → ndA (mkN.mkNs ks k) j = mkN (ndA ks j) (k + ndC.ndsC (ks.take j), k + ndC.ndsC (ks.take j) + 1, k + ndC.ndsC (ks.take j) + 1 + 1, k + ndC.ndsC (ks.take j) + 1 + 1 + 1) (k + ndC.ndsC (ks.take j) + 1 + 1 + 1 + 1)
 | [], _, _, h => absurd h (by simp)
 | t :: ts, k, 0, _ => by simp [mkN.mkNs, ndA, ndC.ndsC]
 | t :: ts, k, j + 1, h => by
  have := mkNs_at ts (k + 4 + ndC t) j (by simpa using h)
  unfold ndA at this ⊢
  simp only [mkN.mkNs, List.getElem?_cons_succ, List.take_succ_cons, ndC.ndsC]
  rw [this]
  have e : (k + ((4 + ndC t + ndC.ndsC (ts.take j) : Nat) : Int)) = k + 4 + (ndC t : Int) + (ndC.ndsC (ts.take j) : Int) := by omega
  rw [e]
theorem ndC_sz : ∀ t, ndC t ≤ 4 * ndSz t := by
 refine Nd.ind ?_
 intro b bs is ks ih
 have key : ∀ l : List Nd, (∀ k ∈ l, ndC k ≤ 4 * ndSz k) → ndC.ndsC l ≤ 4 * l.length + 4 * ndSz.ndsSz l := by
  intro l
  induction l with
  | nil => intro _; simp [ndC.ndsC]
  | cons k l ih2 =>
   intro hk
   have h1 := hk k (by simp)
   have h2 := ih2 (fun x hx => hk x (by simp [hx]))
   simp only [ndC.ndsC, ndSz.ndsSz, List.length_cons]
   omega
 have := key ks ih
 simp only [ndC, ndSz]
 omega
end Go.Proofs.YtinlomcaagdbiaaGreat

/- The levels of a tree, of the program (levelsOf over *Node). -/
namespace Go.Proofs.YtinlomcaagdbiaaGreat
open Go.RowKit

end Go.Proofs.YtinlomcaagdbiaaGreat
