import Derived.Test.YtinlomcaagdbiaaGreatSBox
import Derived.Test.YtinlomcaagdbiaaGreatPtsA
import Derived.Test.YtinlomcaagdbiaaGreatTrG
import Derived.Test.YtinlomcaagdbiaaGreatTbB
import Derived.Test.YtinlomcaagdbiaaGreatTbQ
import Derived.Test.YtinlomcaagdbiaaGreatTrZ
import Derived.Test.YtinlomcaagdbiaaGreatTbW
import Derived.Test.YtinlomcaagdbiaaGreatIntsL
import Derived.Laws.AppendOwnNone
import Derived.Lib.SliceRun
/- The Ids and the boxes of a map's shapes: mathematics. -/
namespace Go.Proofs.YtinlomcaagdbiaaGreat
open Go.RowKit

def ixB (rs : List (List (Int × Int))) : Bx := (bA rs.flatten, bB rs.flatten, bC rs.flatten, bD rs.flatten)
def ixI (es : List En) : List Int := es.map fun e => e.1
def ixX (es : List En) : List Bx := es.map fun e => ixB e.2.2
noncomputable def ixV (es : List En) : Nd := if mpB es = true then tbT (ixI es) (ixX es) else .mk (0, 0, 0, 0) [] [] []
theorem ixI_len (es : List En) : (ixI es).length = es.length := List.length_map ..
theorem ixX_len (es : List En) : (ixX es).length = es.length := List.length_map ..
theorem ix_take {es : List En} {j : Nat} (h : j < es.length) : ixI (es.take (j + 1)) = ixI (es.take j) ++ [(enA es j).1] ∧ ixX (es.take (j + 1)) = ixX (es.take j) ++ [ixB (enA es j).2.2] := by
 have e : es.take (j + 1) = es.take j ++ [enA es j] := by
  rw [List.take_add_one, List.getElem?_eq_getElem h]
  unfold enA
  rw [List.getElem?_eq_getElem h]
  rfl
 rw [e]
 unfold ixI ixX
 exact ⟨by rw [List.map_append]; rfl, by rw [List.map_append]; rfl⟩
theorem ixX_at {es : List En} {i : Nat} (h : i < es.length) : bxAt (ixX es) i = ixB (enA es i).2.2 := by
 unfold bxAt ixX enA
 rw [List.getElem?_map, List.getElem?_eq_getElem h]
 rfl
theorem mp_good {es : List En} (h : mpB es = true) {j : Nat} (hj : j < es.length) : goodB (enA es j).2.1 (enA es j).2.2 = true := by
 cases g : goodB (enA es j).2.1 (enA es j).2.2
 ·unfold mpB at h
  rw [mpTo_no hj (by unfold atE; rw [g]; simp), Bool.and_false] at h
  cases h
 ·rfl
theorem mp_few {es : List En} (h : mpB es = true) : es.length ≤ 500 := by
 unfold mpB at h
 simp only [Bool.and_eq_true, decide_eq_true_eq] at h
 exact h.1
theorem f_ok : ∀ (ps : List (Int × Int)) (x1 y1 x2 y2 : Int), okL ps = true → Crd x1 → Crd y1 → Crd x2 → Crd y2 → x1 ≤ x2 → y1 ≤ y2 → boxOk (bxA ps x1) (bxB ps y1) (bxC ps x2) (bxD ps y2) = true
 | [], _, _, _, _, _, h1, h2, h3, h4, h5, h6 => crd_boxOk h1 h2 h3 h4 h5 h6
 | p :: r, x1, y1, x2, y2, h, h1, h2, h3, h4, h5, h6 => by
  have hp : ptOk p.1 p.2 = true ∧ okL r = true := by unfold okL at h ⊢; simpa using h
  have c : Crd p.1 ∧ Crd p.2 := by
   have := hp.1
   unfold ptOk at this
   simp only [Bool.and_eq_true] at this
   exact ⟨inB_true.1 this.1, inB_true.1 this.2⟩
  exact f_ok r (min x1 p.1) (min y1 p.2) (max x2 p.1) (max y2 p.2) hp.2 (crd_min h1 c.1) (crd_min h2 c.2) (crd_max h3 c.1) (crd_max h4 c.2) (by omega) (by omega)
theorem b_boxOk {ps : List (Int × Int)} (h : bOk ps = true) : boxOk (bA ps) (bB ps) (bC ps) (bD ps) = true := by
 obtain ⟨e1, e2, e3, e4⟩ := b_good h
 rw [e1, e2, e3, e4]
 unfold bOk at h
 simp only [Bool.and_eq_true] at h
 cases ps with
 | nil => simp at h
 | cons p r =>
  have hp : ptOk p.1 p.2 = true := by have := h.2; unfold okL at this; simp at this; exact this.1
  unfold ptOk at hp
  simp only [Bool.and_eq_true] at hp
  have c1 : Crd p.1 := inB_true.1 hp.1
  have c2 : Crd p.2 := inB_true.1 hp.2
  exact f_ok (p :: r) p.1 p.2 p.1 p.2 h.2 c1 c2 c1 c2 (Int.le_refl _) (Int.le_refl _)
theorem okL_flat : ∀ {rs : List (List (Int × Int))}, (∀ i, i < rs.length → okL (rowA rs i) = true) → okL rs.flatten = true
 | [], _ => rfl
 | r :: t, h => by
  have h0 := h 0 (by simp)
  have ht : okL t.flatten = true := okL_flat (fun i hi => by have := h (i + 1) (by simp; omega); unfold rowA at this ⊢; simpa using this)
  unfold rowA at h0
  simp at h0
  unfold okL at h0 ht ⊢
  rw [List.flatten_cons, List.all_append, h0, ht]
  rfl
theorem fl_ok {k : Int} {rs : List (List (Int × Int))} (h : goodB k rs = true) : bOk rs.flatten = true := by
 have hf : formB k rs = true := by
  unfold goodB goodTo at h
  rw [Bool.and_eq_true] at h
  exact h.1
 obtain ⟨_, h2⟩ := good_rows h
 have hl : 0 < rs.length := by
  cases rs with
  | nil =>
   have hk : 1 ≤ k ∧ k ≤ 5 := by
    by_cases c : 1 ≤ k ∧ k ≤ 5
    ·exact c
    ·rw [good_none c] at h
     cases h
   rw [formB_kind hk] at hf
   simp at hf
  | cons r t => simp
 have ok := okL_flat (rs := rs) (fun i hi => (form_row hf hi).2)
 unfold bOk
 rw [ok, Bool.and_true]
 obtain ⟨h3, _⟩ := h2 0 hl
 cases rs with
 | nil => simp at hl
 | cons r t =>
  unfold rowA at h3
  simp at h3
  cases r with
  | nil => simp at h3
  | cons p q => rfl
theorem ix_ok {es : List En} (h : mpB es = true) : allOk (ixX es) (ixX es).length = true := by
 rw [allOk_iff]
 intro i hi
 rw [ixX_len] at hi
 rw [ixX_at hi]
 exact b_boxOk (fl_ok (mp_good h hi))
theorem ix_tb {es : List En} (h : mpB es = true) : tbOk (ixI es) (ixX es) = true ∧ tbV (ixI es) (ixX es) = ixV es := by
 have h1 : tbOk (ixI es) (ixX es) = true := by
  unfold tbOk
  rw [ix_ok h, ixI_len, ixX_len]
  have := mp_few h
  simp
  omega
 refine ⟨h1, ?_⟩
 unfold tbV ixV
 rw [if_pos h1, if_pos h]
end Go.Proofs.YtinlomcaagdbiaaGreat

/- Nodes in rows of a call's own, whatever their own lists lie in: for the specification's trees. -/
namespace Go.Proofs.YtinlomcaagdbiaaGreat
open Go.RowKit

def Blk (P : Nat → Prop) (n : Nat) (a : Option Addr) : Prop := ∀ b off, a = some ⟨b, off, none⟩ → 0 < n → P b
inductive NdP (P : Nat → Prop) (w : World) : Nd → Value → Value → Value → Prop where
 | mk {b : Bx} {bs : List Bx} {is : List Int} {ks : List Nd} {a1 a2 a3 : Option Addr} {c1 c2 c3 : Nat} (s1 : SeesX w a1 c1 bs) (f1 : Blk P bs.length a1) (s2 : SeesI w a2 c2 is) (f2 : Blk P is.length a2) (h3 : ks.length ≤ c3) (m3 : c3 ≤ maxLen) (f3 : Blk P ks.length a3)
   {p o : Nat} {g1 g2 g3 : Nat → Value} (ha : ks ≠ [] → a3 = some ⟨p, o, none⟩) (hS : ∀ i, i < ks.length → Sev w p (o + i * 7) (ndA ks i).b (g1 i) (g2 i) (g3 i)) (hN : ∀ i, i < ks.length → NdP P w (ndA ks i) (g1 i) (g2 i) (g3 i)) : NdP P w (.mk b bs is ks) (.slice a1 bs.length c1) (.slice a2 is.length c2) (.slice a3 ks.length c3)
theorem NdP.toIn {P : Nat → Prop} {w : World} : ∀ (t : Nd) {v1 v2 v3 : Value}, NdP P w t v1 v2 v3 → NdIn 0 w t v1 v2 v3 := by
 refine Nd.ind (P := fun t => ∀ {v1 v2 v3 : Value}, NdP P w t v1 v2 v3 → NdIn 0 w t v1 v2 v3) ?_
 intro b bs is ks ih v1 v2 v3 h
 cases h with
 | mk s1 f1 s2 f2 h3 m3 f3 ha hS hN => exact .mk s1 (fun _ _ _ _ => Nat.zero_le _) s2 (fun _ _ _ _ => Nat.zero_le _) h3 m3 (fun _ _ _ _ => Nat.zero_le _) ha hS (fun i hi => ih _ (ndA_mem hi) (hN i hi))
theorem NdP.mono {P P' : Nat → Prop} {w : World} (hp : ∀ q, P q → P' q) : ∀ (t : Nd) {v1 v2 v3 : Value}, NdP P w t v1 v2 v3 → NdP P' w t v1 v2 v3 := by
 refine Nd.ind (P := fun t => ∀ {v1 v2 v3 : Value}, NdP P w t v1 v2 v3 → NdP P' w t v1 v2 v3) ?_
 intro b bs is ks ih v1 v2 v3 h
 cases h with
 | mk s1 f1 s2 f2 h3 m3 f3 ha hS hN => exact .mk s1 (fun q o e n => hp _ (f1 q o e n)) s2 (fun q o e n => hp _ (f2 q o e n)) h3 m3 (fun q o e n => hp _ (f3 q o e n)) ha hS (fun i hi => ih _ (ndA_mem hi) (hN i hi))
def ChC (H : Nat → Prop) (w w' : World) : Prop := ∀ b k v, ¬ H b → w.cell? ⟨b, k, none⟩ = some v → w'.cell? ⟨b, k, none⟩ = some v
theorem sevC {H : Nat → Prop} {w w' : World} {p o : Nat} {x : Bx} {v1 v2 v3 : Value} (C : ChC H w w') (nf : ¬ H p) (h : Sev w p o x v1 v2 v3) : Sev w' p o x v1 v2 v3 :=
 ⟨⟨C _ _ _ nf h.four.1, C _ _ _ nf h.four.2.1, C _ _ _ nf h.four.2.2.1, C _ _ _ nf h.four.2.2.2⟩, C _ _ _ nf h.c4, C _ _ _ nf h.c5, C _ _ _ nf h.c6⟩
theorem NdP.chg {P H : Nat → Prop} {w w' : World} (C : ChC H w w') (hd : ∀ q, P q → ¬ H q) : ∀ (t : Nd) {v1 v2 v3 : Value}, NdP P w t v1 v2 v3 → NdP P w' t v1 v2 v3 := by
 refine Nd.ind (P := fun t => ∀ {v1 v2 v3 : Value}, NdP P w t v1 v2 v3 → NdP P w' t v1 v2 v3) ?_
 intro b bs is ks ih v1 v2 v3 h
 cases h with
 | @mk _ _ _ _ a1 a2 a3 c1 c2 c3 s1 f1 s2 f2 h3 m3 f3 p o g1 g2 g3 ha hS hN =>
  have X : SeesX w' a1 c1 bs := ⟨s1.fits, s1.max, fun hn => by
   obtain ⟨q, off, ea, hc⟩ := s1.cells hn
   have nh := hd _ (f1 q off ea (List.length_pos_iff.2 hn))
   exact ⟨q, off, ea, fun i hi => ⟨C _ _ _ nh (hc i hi).1, C _ _ _ nh (hc i hi).2.1, C _ _ _ nh (hc i hi).2.2.1, C _ _ _ nh (hc i hi).2.2.2⟩⟩⟩
  have I : SeesI w' a2 c2 is := ⟨s2.fits, s2.max, fun hn => by
   obtain ⟨q, off, ea, hc⟩ := s2.cells hn
   have nh := hd _ (f2 q off ea (List.length_pos_iff.2 hn))
   exact ⟨q, off, ea, fun i hi => C _ _ _ nh (hc i hi)⟩⟩
  exact .mk X f1 I f2 h3 m3 f3 ha (fun i hi => sevC C (hd _ (f3 p o (ha (by intro e; rw [e] at hi; simp at hi)) (by omega))) (hS i hi)) (fun i hi => ih _ (ndA_mem hi) (hN i hi))
theorem NdP.keep {P : Nat → Prop} {w w' : World} {t : Nd} {v1 v2 v3 : Value} (h : NdP P w t v1 v2 v3) (hb : Below w.heap.size w w') : NdP P w' t v1 v2 v3 := NdP.chg (H := fun _ => False) (fun _ _ _ _ e => bat hb e) (fun _ _ h => h) _ h
theorem NdP.lt {P : Nat → Prop} {w : World} : ∀ (t : Nd) {v1 v2 v3 : Value}, NdP P w t v1 v2 v3 → NdP (fun q => P q ∧ q < w.heap.size) w t v1 v2 v3 := by
 refine Nd.ind (P := fun t => ∀ {v1 v2 v3 : Value}, NdP P w t v1 v2 v3 → NdP (fun q => P q ∧ q < w.heap.size) w t v1 v2 v3) ?_
 intro b bs is ks ih v1 v2 v3 h
 cases h with
 | @mk _ _ _ _ a1 a2 a3 c1 c2 c3 s1 f1 s2 f2 h3 m3 f3 p o g1 g2 g3 ha hS hN =>
  refine .mk s1 (fun q off e n => ⟨f1 q off e n, ?_⟩) s2 (fun q off e n => ⟨f2 q off e n, ?_⟩) h3 m3 (fun q off e n => ⟨f3 q off e n, ?_⟩) ha hS (fun i hi => ih _ (ndA_mem hi) (hN i hi))
  ·obtain ⟨q', off', ea, hc⟩ := s1.cells (List.length_pos_iff.1 n)
   rw [e] at ea
   injection ea with ea
   injection ea with e1 _
   rw [e1]
   exact World.block_lt_of_cell? w _ (hc 0 n).1
  ·obtain ⟨q', off', ea, hc⟩ := s2.cells (List.length_pos_iff.1 n)
   rw [e] at ea
   injection ea with ea
   injection ea with e1 _
   rw [e1]
   exact World.block_lt_of_cell? w _ (hc 0 n)
  ·have ea := ha (List.length_pos_iff.1 n)
   rw [e] at ea
   injection ea with ea
   injection ea with e1 _
   rw [e1]
   exact World.block_lt_of_cell? w _ (hS 0 n).c6
theorem NdP.rebox {P : Nat → Prop} {w : World} {b b' : Bx} {bs : List Bx} {is : List Int} {ks : List Nd} {v1 v2 v3 : Value} (h : NdP P w (.mk b bs is ks) v1 v2 v3) : NdP P w (.mk b' bs is ks) v1 v2 v3 := by
 cases h with
 | mk s1 f1 s2 f2 h3 m3 f3 ha hS hN => exact .mk s1 f1 s2 f2 h3 m3 f3 ha hS hN

abbrev Sl := Option Addr × Nat × Nat
def slV (s : Sl) : Value := .slice s.1 s.2.1 s.2.2
abbrev Ke := Bx × Sl × Sl × Sl
def kC (es : List Ke) : List Value := es.flatMap fun e => [.int .i64 e.1.1, .int .i64 e.1.2.1, .int .i64 e.1.2.2.1, .int .i64 e.1.2.2.2, slV e.2.1, slV e.2.2.1, slV e.2.2.2]
def keAt (es : List Ke) (i : Nat) : Ke := es[i]?.getD ((0, 0, 0, 0), (none, 0, 0), (none, 0, 0), (none, 0, 0))
theorem kC_append (ps qs : List Ke) : kC (ps ++ qs) = kC ps ++ kC qs := by simp [kC]
theorem kC_len : ∀ es : List Ke, (kC es).length = es.length * 7
 | [] => rfl
 | e :: r => by
  have := kC_len r
  have e2 : kC (e :: r) = [.int .i64 e.1.1, .int .i64 e.1.2.1, .int .i64 e.1.2.2.1, .int .i64 e.1.2.2.2, slV e.2.1, slV e.2.2.1, slV e.2.2.2] ++ kC r := rfl
  rw [e2, List.length_append, this, List.length_cons]
  simp only [List.length_cons, List.length_nil]
  omega
theorem kC_at : ∀ (es : List Ke) (j k : Nat) (v : Value), j < es.length → [Value.int .i64 (keAt es j).1.1, .int .i64 (keAt es j).1.2.1, .int .i64 (keAt es j).1.2.2.1, .int .i64 (keAt es j).1.2.2.2, slV (keAt es j).2.1, slV (keAt es j).2.2.1, slV (keAt es j).2.2.2][k]? = some v → (kC es)[j * 7 + k]? = some v
 | [], j, k, v, h, _ => absurd h (by simp)
 | e :: r, 0, k, v, _, hv => by
  have e2 : kC (e :: r) = [.int .i64 e.1.1, .int .i64 e.1.2.1, .int .i64 e.1.2.2.1, .int .i64 e.1.2.2.2, slV e.2.1, slV e.2.2.1, slV e.2.2.2] ++ kC r := rfl
  have hk : k < 7 := by
   have := (List.getElem?_eq_some_iff.1 hv).1
   simpa using this
  rw [e2, Nat.zero_mul, Nat.zero_add, List.getElem?_append_left (by simpa using hk)]
  exact hv
 | e :: r, j + 1, k, v, h, hv => by
  have ih := kC_at r j k v (by simpa using h) hv
  have e2 : kC (e :: r) = [.int .i64 e.1.1, .int .i64 e.1.2.1, .int .i64 e.1.2.2.1, .int .i64 e.1.2.2.2, slV e.2.1, slV e.2.2.1, slV e.2.2.2] ++ kC r := rfl
  rw [e2, show (j + 1) * 7 + k = 7 + (j * 7 + k) by omega, List.getElem?_append_right (by simp)]
  simpa using ih
theorem kC_ones (es : List Ke) : ∀ u ∈ kC es, u.oneCell' = true := by
 intro u hu
 simp only [kC, List.mem_flatMap] at hu
 obtain ⟨p, _, h⟩ := hu
 simp only [List.mem_cons, List.not_mem_nil, or_false] at h
 rcases h with rfl | rfl | rfl | rfl | rfl | rfl | rfl <;> rfl
def RowK (base : Nat) (w : World) (v : Value) (es : List Ke) : Prop := w.ownsRow base 32 7 v es.length (kC es)
theorem RowK.empty (w : World) {base : Nat} (h : base ≤ w.heap.size) : RowK base (w.alloc (.cells #[] 32)) (.slice (some ⟨w.heap.size, 0, none⟩) 0 0) [] :=
 ⟨rfl, .inr ⟨w.heap.size, 0, #[], rfl, h, heap_alloc_new _ _, Nat.le_refl _, by simp [maxLen], rfl, rfl⟩⟩
theorem RowK.nil (base : Nat) (w : World) : RowK base w (.slice none 0 0) [] := ⟨rfl, .inl ⟨rfl, rfl⟩⟩
theorem RowK.snoc {base : Nat} {w : World} {v : Value} {es : List Ke} {e : Ke} (h : w.ownsRow base 32 7 v (es.length + 1) (kC es ++ kC [e])) : RowK base w v (es ++ [e]) := by
 unfold RowK
 rw [kC_append, List.length_append]
 exact h
theorem k_new (w : World) (T : TypeId) (e : Ke) : ∀ j z, (kC [e])[j]? = some z → (w.alloc (.cells #[.int .i64 e.1.1, .int .i64 e.1.2.1, .int .i64 e.1.2.2.1, .int .i64 e.1.2.2.2, slV e.2.1, slV e.2.2.1, slV e.2.2.2] T)).cell? ((⟨w.heap.size, 0, none⟩ : Addr).add j) = some z := by
 intro j z hz
 rw [Addr.add_lit, Nat.zero_add]
 refine cell_new w _ T j ?_
 have e2 : kC [e] = [.int .i64 e.1.1, .int .i64 e.1.2.1, .int .i64 e.1.2.2.1, .int .i64 e.1.2.2.2, slV e.2.1, slV e.2.2.1, slV e.2.2.2] := rfl
 rw [e2] at hz
 rw [← hz]
 simp
theorem RowK.sees {base : Nat} {w : World} {v : Value} {es : List Ke} (h : RowK base w v es) : ∃ a c, v = .slice a es.length c ∧ es.length ≤ c ∧ c ≤ maxLen ∧ (es ≠ [] → ∃ g, a = some ⟨g, 0, none⟩ ∧ base ≤ g ∧ ∀ i, i < es.length → Sev w g (i * 7) (keAt es i).1 (slV (keAt es i).2.1) (slV (keAt es i).2.2.1) (slV (keAt es i).2.2.2)) := by
 rcases h.2 with ⟨hv, h0⟩ | ⟨q, cap', cur, hv, hb, hh, hf, hm, hs, ht⟩
 ·exact ⟨none, 0, by rw [hv, h0], by omega, by simp [maxLen], fun hn => absurd (List.eq_nil_of_length_eq_zero h0) hn⟩
 ·refine ⟨_, cap', hv, hf, hm, fun _ => ⟨q, rfl, hb, fun i hi => ?_⟩⟩
  have c : ∀ k u, [Value.int .i64 (keAt es i).1.1, .int .i64 (keAt es i).1.2.1, .int .i64 (keAt es i).1.2.2.1, .int .i64 (keAt es i).1.2.2.2, slV (keAt es i).2.1, slV (keAt es i).2.2.1, slV (keAt es i).2.2.2][k]? = some u → w.cell? ⟨q, i * 7 + k, none⟩ = some u := by
   intro k u hk
   have h9 := kC_at es i k u hi hk
   have hk2 : i * 7 + k < es.length * 7 := by
    have := (List.getElem?_eq_some_iff.mp h9).1
    rw [kC_len] at this
    exact this
   rw [← ht, List.getElem?_take_of_lt hk2] at h9
   exact (cell_of_row w q _ _ _ _ hh).trans (by simpa using h9)
  exact ⟨⟨c 0 _ rfl, c 1 _ rfl, c 2 _ rfl, c 3 _ rfl⟩, c 4 _ rfl, c 5 _ rfl, c 6 _ rfl⟩
structure LvE (rb pb : Nat) (w : World) (v : Value) (es : List Ke) (ks : List Nd) : Prop where
 row : RowK rb w v es
 len : es.length = ks.length
 nd : ∀ i, i < ks.length → (keAt es i).1 = (ndA ks i).b ∧ NdP (fun q => pb ≤ q ∧ v.ownBlock ≠ some q) w (ndA ks i) (slV (keAt es i).2.1) (slV (keAt es i).2.2.1) (slV (keAt es i).2.2.2)
theorem LvE.below {rb pb : Nat} {w w' : World} {v : Value} {es : List Ke} {ks : List Nd} (h : LvE rb pb w v es ks) (hb : Below w.heap.size w w') : LvE rb pb w' v es ks := ⟨owns_below h.row hb, h.len, fun i hi => ⟨(h.nd i hi).1, (h.nd i hi).2.keep hb⟩⟩
theorem LvE.nil (rb pb : Nat) (w : World) {v : Value} (R : RowK rb w v []) : LvE rb pb w v [] [] := ⟨R, rfl, fun _ hi => absurd hi (Nat.not_lt_zero _)⟩
theorem keAt_snoc (es : List Ke) (e : Ke) (i : Nat) : keAt (es ++ [e]) i = if i = es.length then e else keAt es i := by
 unfold keAt
 by_cases c : i = es.length
 ·subst c; simp
 ·rw [if_neg c]
  by_cases d : i < es.length
  ·rw [List.getElem?_append_left d]
  ·rw [List.getElem?_eq_none (by simp; omega), List.getElem?_eq_none (by omega)]
theorem ndA_snocK (ks : List Nd) (t : Nd) (i : Nat) (hi : i < (ks ++ [t]).length) : ndA (ks ++ [t]) i = if i = ks.length then t else ndA ks i := by
 unfold ndA
 by_cases c : i = ks.length
 ·subst c; simp
 ·rw [if_neg c, List.getElem?_append_left (by simp at hi; omega)]
theorem LvE.snoc {rb pb : Nat} {w w7 : World} {v v7 : Value} {es : List Ke} {ks : List Nd} {e : Ke} {t : Nd} (h : LvE rb pb w v es ks) (g : w.grownBy w7 v.ownBlock) (R : RowK rb w7 v7 (es ++ [e])) (hv : v7.ownBlock = v.ownBlock ∨ v7.ownBlock = some w.heap.size) (hb : e.1 = t.b) (N : NdP (fun q => pb ≤ q ∧ v.ownBlock ≠ some q) w t (slV e.2.1) (slV e.2.2.1) (slV e.2.2.2)) : LvE rb pb w7 v7 (es ++ [e]) (ks ++ [t]) := by
 have C : ChC (fun q => v.ownBlock = some q) w w7 := fun b k u nf e => g.cell e (fun e' => nf e'.symm)
 have keep : ∀ {t : Nd} {v1 v2 v3 : Value}, NdP (fun q => pb ≤ q ∧ v.ownBlock ≠ some q) w t v1 v2 v3 → NdP (fun q => pb ≤ q ∧ v7.ownBlock ≠ some q) w7 t v1 v2 v3 := fun {t v1 v2 v3} n => by
  refine NdP.mono (fun q hq => ⟨hq.1.1, fun e => ?_⟩) _ (NdP.chg C (fun q hq e => hq.1.2 e) _ n.lt)
  rcases hv with c | c
  ·exact hq.1.2 (by rw [← c]; exact e)
  ·rw [c] at e
   injection e with e
   have := hq.2
   omega
 refine ⟨R, by simp [h.len], fun i hi => ?_⟩
 rw [keAt_snoc, ndA_snocK _ _ _ hi, h.len]
 by_cases c : i = ks.length
 ·rw [if_pos c, if_pos c]
  exact ⟨hb, keep N⟩
 ·rw [if_neg c, if_neg c]
  rw [List.length_append, List.length_singleton] at hi
  obtain ⟨h1, h2⟩ := h.nd i (by omega)
  exact ⟨h1, keep h2⟩
end Go.Proofs.YtinlomcaagdbiaaGreat

/- Appends of lists that are only seen, in a drawn region: numbers, boxes. -/
namespace Go.Proofs.YtinlomcaagdbiaaGreat
open Go.RowKit

theorem run_append_zeroS {P : Program} {w : World} (base : Nat) (t ty e : TypeId) (i : TypeInfo) (size : Nat) (ht : P.underlying t = some (.slice e)) (hi : P.info? e = some i) (v : Value) (n c : Nat) (xs : List Value) (hown : w.ownsRow base e size v n xs) :
  (Builtin.append_ #[t, t] ty #[v, .slice none 0 c]).run P w = .ok v w := by
 rcases hown.2 with ⟨rfl, rfl⟩ | ⟨g, cap, cur, rfl, _, _, hnc, _⟩
 ·simp [Builtin.append_, run_underlying ht, sizeOf, typeInfo, hi, Builtin.lenOf, Builtin.firstCells]
 ·simp [Builtin.append_, run_underlying ht, sizeOf, typeInfo, hi, Builtin.lenOf, Builtin.firstCells, hnc, storeCells]
set_option maxRecDepth 100000 in
theorem wp_append_sI {w : World} {o : Oper} {a : Act} {K : Act → World → Prop} {Q : Exit → Act → World → Prop} (s x : Operand)
  (ho : o.op = .call { callee := .builtin .append, args := #[s, x], argTypes := #[29, 29] }) (base : Nat) (v : Value) (ds : List Int) (hs : a.eval s = v) (R : RowI base w v ds) (aa : Option Addr) (cc : Nat) (is : List Int) (hx : a.eval x = .slice aa is.length cc) (S : SeesI w aa cc is) (hl : ds.length + is.length ≤ 4000000) (hb : base ≤ w.heap.size)
  (h : ∀ v' w', RowI base w' v' (ds ++ is) → w.grownBy w' v.ownBlock → K (a.put o.dst v') w') : o.wp Tryz.prog a w K Q := by
 obtain ⟨iX, hiX, hx0, hx1, hx2⟩ := info_parts infoI
 cases aa with
 | none =>
  have e : is = [] := by
   rcases is with _ | ⟨y, l⟩
   ·rfl
   ·obtain ⟨b, off, e, _⟩ := S.cells (by simp)
    cases e
  subst e
  have hrun := run_append_zeroS (P := Tryz.prog) (w := w) base 29 o.type 3 iX 1 Tryz.underlying29 hiX v ds.length cc (ds.map (Value.int .i64)) R
  unfold Oper.wp execOp
  simp only [List.length_nil] at hx
  simp only [ho, resolve, invoke, builtin, Sem.run_bind, Sem.run_pure, Result.andThen_ok, List.map_toArray, List.map_cons, List.map_nil, hs, hx, hrun]
  exact h v w (by rw [List.append_nil]; exact R) (grownBy_refl _ _)
 | some ad =>
  refine wp_append_at s x 29 ho base 3 iX (.int .i64 0) 1 8 Tryz.underlying29 hiX hx0 hx1 hx2 rfl (by decide) v ds.length (ds.map (Value.int .i64)) hs R ad is.length cc (is.map (Value.int .i64)) hx (by simp) (fun j u hu => ?_) (onesI _) (by unfold maxLen; omega) (by omega) hb (fun v' w' R' G _ => h v' w' ?_ G)
  ·have hj : j < is.length := by have := (List.getElem?_eq_some_iff.mp hu).1; simpa using this
   obtain ⟨b, off, e, hc⟩ := S.cells (by intro e; rw [e] at hj; simp at hj)
   injection e with e
   subst e
   rw [Addr.add_lit, hc j hj, ← hu, List.getElem?_map, List.getElem?_eq_getElem hj]
   rfl
  ·unfold RowI
   rw [List.map_append, List.length_append]
   exact R'
theorem boxC_len : ∀ bs : List Bx, (boxC bs).length = bs.length * 4
 | [] => rfl
 | e :: r => by
  have := boxC_len r
  have e2 : boxC (e :: r) = [.int .i64 e.1, .int .i64 e.2.1, .int .i64 e.2.2.1, .int .i64 e.2.2.2] ++ boxC r := rfl
  rw [e2, List.length_append, this, List.length_cons]
  simp only [List.length_cons, List.length_nil]
  omega
theorem boxC_seen {w : World} {b off : Nat} : ∀ (bs : List Bx) (j : Nat) (u : Value), (∀ i, i < bs.length → Four w b (off + i * 4) (bxAt bs i)) → (boxC bs)[j]? = some u → w.cell? ⟨b, off + j, none⟩ = some u := by
 intro bs j u hc hu
 have hj : j < bs.length * 4 := by have := (List.getElem?_eq_some_iff.mp hu).1; rw [boxC_len] at this; exact this
 obtain ⟨c0, c1, c2, c3⟩ := boxC_at bs (j / 4) (by omega)
 obtain ⟨f0, f1, f2, f3⟩ := hc (j / 4) (by omega)
 rcases (show j % 4 = 0 ∨ j % 4 = 1 ∨ j % 4 = 2 ∨ j % 4 = 3 by omega) with m | m | m | m
 ·have e : j = j / 4 * 4 := by omega
  rw [← e] at c0 f0
  rw [c0] at hu
  rw [f0, ← hu]
 ·have e : j / 4 * 4 + 1 = j := by omega
  rw [e] at c1
  rw [show off + j / 4 * 4 + 1 = off + j by omega] at f1
  rw [c1] at hu
  rw [f1, ← hu]
 ·have e : j / 4 * 4 + 2 = j := by omega
  rw [e] at c2
  rw [show off + j / 4 * 4 + 2 = off + j by omega] at f2
  rw [c2] at hu
  rw [f2, ← hu]
 ·have e : j / 4 * 4 + 3 = j := by omega
  rw [e] at c3
  rw [show off + j / 4 * 4 + 3 = off + j by omega] at f3
  rw [c3] at hu
  rw [f3, ← hu]
set_option maxRecDepth 100000 in
theorem wp_append_sX {w : World} {o : Oper} {a : Act} {K : Act → World → Prop} {Q : Exit → Act → World → Prop} (s x : Operand)
  (ho : o.op = .call { callee := .builtin .append, args := #[s, x], argTypes := #[28, 28] }) (base : Nat) (v : Value) (ds : List Bx) (hs : a.eval s = v) (R : RowBx base w v ds) (aa : Option Addr) (cc : Nat) (bs : List Bx) (hx : a.eval x = .slice aa bs.length cc) (S : SeesX w aa cc bs) (hl : ds.length + bs.length ≤ 4000000) (hb : base ≤ w.heap.size)
  (h : ∀ v' w', RowBx base w' v' (ds ++ bs) → w.grownBy w' v.ownBlock → K (a.put o.dst v') w') : o.wp Tryz.prog a w K Q := by
 obtain ⟨iX, hiX, hx0, hx1, hx2⟩ := info_parts infoX
 cases aa with
 | none =>
  have e : bs = [] := by
   rcases bs with _ | ⟨y, l⟩
   ·rfl
   ·obtain ⟨b, off, e, _⟩ := S.cells (by simp)
    cases e
  subst e
  have hrun := run_append_zeroS (P := Tryz.prog) (w := w) base 28 o.type 27 iX 4 Tryz.underlying28 hiX v ds.length cc (boxC ds) R
  unfold Oper.wp execOp
  simp only [List.length_nil] at hx
  simp only [ho, resolve, invoke, builtin, Sem.run_bind, Sem.run_pure, Result.andThen_ok, List.map_toArray, List.map_cons, List.map_nil, hs, hx, hrun]
  exact h v w (by rw [List.append_nil]; exact R) (grownBy_refl _ _)
 | some ad =>
  refine wp_append_at s x 28 ho base 27 iX (.agg #[.int .i64 0, .int .i64 0, .int .i64 0, .int .i64 0]) 4 32 Tryz.underlying28 hiX hx0 hx1 hx2 rfl (by decide) v ds.length (boxC ds) hs R ad bs.length cc (boxC bs) hx (boxC_len bs) (fun j u hu => ?_) (boxC_ones _) (by unfold maxLen; omega) (by omega) hb (fun v' w' R' G _ => h v' w' ?_ G)
  ·have hj : j < bs.length * 4 := by have := (List.getElem?_eq_some_iff.mp hu).1; rw [boxC_len] at this; exact this
   obtain ⟨b, off, e, hc⟩ := S.cells (by intro e; rw [e] at hj; simp at hj)
   injection e with e
   subst e
   rw [Addr.add_lit]
   exact boxC_seen bs j u hc hu
  ·unfold RowBx
   rw [boxC_append, List.length_append]
   exact R'
theorem ownsTyK {base e s n : Nat} {w : World} {v : Value} {xs : List Value} (h : w.ownsRow base e s v n xs) (k : Nat) (hk : v.ownBlock = some k) : ∃ cs : Array Value, w.heap[k]? = some (.cells cs e (0, 0)) := by
 rcases h.2 with ⟨hv, h0⟩ | ⟨g, cap', cur, hv, hb, hh, r⟩
 ·rw [hv] at hk; cases hk
 ·rw [hv] at hk
  injection hk with hk
  exact ⟨cur, by rw [← hk]; exact hh⟩
theorem tyNeK {w : World} {e e' : TypeId} {k k' : Nat} (h : ∃ cs : Array Value, w.heap[k]? = some (.cells cs e (0, 0))) (h' : ∃ cs : Array Value, w.heap[k']? = some (.cells cs e' (0, 0))) (ne : e ≠ e') : k ≠ k' := by
 intro q
 subst q
 obtain ⟨c1, e1⟩ := h
 obtain ⟨c2, e2⟩ := h'
 rw [e1] at e2
 injection e2 with e2
 injection e2 with _ e2 _
 exact ne e2
theorem ownsApK {base e s n base' e' s' n' : Nat} {w w' : World} {v v' : Value} {xs xs' : List Value} (h : w.ownsRow base e s v n xs) (h' : w.ownsRow base' e' s' v' n' xs') (ne : e ≠ e') (g : w.grownBy w' v'.ownBlock) : w'.ownsRow base e s v n xs := by
 refine World.ownsRow.kept h g ?_
 cases q : v.ownBlock with
 | none => exact .inl rfl
 | some k => exact .inr (fun e2 => tyNeK (ownsTyK h k q) (ownsTyK h' k e2.symm) ne rfl)
theorem rowI_seesK {base : Nat} {w : World} {v : Value} {ds : List Int} (h : RowI base w v ds) : ∃ a c, v = .slice a ds.length c ∧ SeesI w a c ds ∧ ∀ b o, a = some ⟨b, o, none⟩ → base ≤ b ∧ v.ownBlock = some b := by
 obtain ⟨a, c, e, h1, h2⟩ := h.shape'
 refine ⟨a, c, e, ⟨h1, h2, fun hn => ?_⟩, fun b o ea => ?_⟩
 ·obtain ⟨q, cap, e2, _, _⟩ := h.shape hn
  rw [e] at e2
  injection e2 with e3 _ e5
  rw [e, e3] at h
  exact ⟨q, 0, e3, fun i hi => by rw [Nat.zero_add]; exact h.at' hi⟩
 ·have hb : v.ownBlock = some b := by rw [e, ea]; rfl
  exact ⟨(World.ownsRow.lt h b hb).1, hb⟩
theorem rowX_seesK {base : Nat} {w : World} {v : Value} {bs : List Bx} (h : RowBx base w v bs) : ∃ a c, v = .slice a bs.length c ∧ SeesX w a c bs ∧ ∀ b o, a = some ⟨b, o, none⟩ → base ≤ b ∧ v.ownBlock = some b := by
 obtain ⟨a, c, e, S⟩ := RowBx.sees h
 refine ⟨a, c, e, S, fun b o ea => ?_⟩
 have hb : v.ownBlock = some b := by rw [e, ea]; rfl
 exact ⟨(World.ownsRow.lt h b hb).1, hb⟩
end Go.Proofs.YtinlomcaagdbiaaGreat
