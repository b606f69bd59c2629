/- Rows of bytes in a list of a call's own, each row in a block of its own; the laws' helpers on them. -/
import Derived.Test.YtgcaemhcdpddiaaDoorQuR
namespace Go.Proofs.YtgcaemhcdpddiaaDoor
open Go.RowKit

def rowY (rs : List (List Int)) (i : Nat) : List Int := rs[i]?.getD []
theorem infoRY : (Tryd.prog.info? 22).map (fun i => (i.zero, i.size, i.bytes)) = some (some (.slice none 0 0), 1, 24) := by kernel_rfl
theorem slice_newY (w : World) (e : TypeId) (x : Value) : ∀ j u, ([x])[j]? = some u → (w.alloc (.cells #[x] e)).cell? ((⟨w.heap.size, 0, none⟩ : Addr).add j) = some u := by
  intro j u hu
  cases j with
  | zero =>
    simp at hu
    subst hu
    exact cell_new w #[x] e 0 rfl
  | succ j => simp at hu
structure BsR (lo : Nat) (w : World) (v : Value) (vs : List Value) (rs : List (List Int)) : Prop where
  own : w.ownsRow lo 22 1 v vs.length vs
  len : Hid (vs.length = rs.length)
  rows : ∀ (i : Nat) (u : Value), vs[i]? = some u → RowB lo w u (rowY rs i)
  ne : ∀ u ∈ vs, ∀ k, u.ownBlock = some k → v.ownBlock ≠ some k
  apart : ∀ (i j : Nat) (u u' : Value), i < j → vs[i]? = some u → vs[j]? = some u' → ∀ k, u.ownBlock = some k → u'.ownBlock ≠ some k
theorem BsR.row {lo : Nat} {w : World} {v u : Value} {vs : List Value} {rs : List (List Int)} (h : BsR lo w v vs rs) (hu : u ∈ vs) : ∃ ps, RowB lo w u ps := by
  obtain ⟨i, hi, e⟩ := List.getElem_of_mem hu
  exact ⟨_, h.rows i u (by rw [List.getElem?_eq_getElem hi, e])⟩
theorem BsR.kept {lo : Nat} {w w' : World} {v : Value} {vs : List Value} {rs : List (List Int)} {row : Option Nat} (h : BsR lo w v vs rs) (g : w.grownBy w' row) (nv : ∀ k, v.ownBlock = some k → row ≠ some k) (nr : ∀ u ∈ vs, ∀ k, u.ownBlock = some k → row ≠ some k) : BsR lo w' v vs rs :=
  ⟨owns_kept' h.own g nv, h.len, fun i u hu => owns_kept' (h.rows i u hu) g (nr u (List.mem_of_getElem? hu)), h.ne, h.apart⟩
theorem BsR.below {lo : Nat} {w w' : World} {v : Value} {vs : List Value} {rs : List (List Int)} (h : BsR lo w v vs rs) (hb : Below w.heap.size w w') : BsR lo w' v vs rs :=
  h.kept (grown_of_below hb) (fun _ _ e => by cases e) (fun _ _ _ _ e => by cases e)
theorem BsR.lts {lo : Nat} {w : World} {v : Value} {vs : List Value} {rs : List (List Int)} (h : BsR lo w v vs rs) : (∀ k, v.ownBlock = some k → lo ≤ k ∧ k < w.heap.size) ∧ ∀ u ∈ vs, ∀ k, u.ownBlock = some k → lo ≤ k ∧ k < w.heap.size :=
  ⟨fun k hk => World.ownsRow.lt h.own k hk, fun u hu k hk => by
    obtain ⟨ps, R⟩ := h.row hu
    exact World.ownsRow.lt R k hk⟩
theorem BsR.base {lo lo' : Nat} {w : World} {v : Value} {vs : List Value} {rs : List (List Int)} (h : BsR lo w v vs rs) (hl : lo' ≤ lo) : BsR lo' w v vs rs :=
  ⟨row_base h.own hl, h.len, fun i u hu => row_base (h.rows i u hu) hl, h.ne, h.apart⟩
theorem BsR.nil (lo : Nat) (w : World) : BsR lo w (.slice none 0 0) [] [] :=
  ⟨⟨rfl, .inl ⟨rfl, rfl⟩⟩, rfl, fun _ _ h => (by simp at h), fun _ h => (by cases h), fun i j u u' _ h => (by simp at h)⟩
theorem BsR.shape {lo : Nat} {w : World} {v : Value} {vs : List Value} {rs : List (List Int)} (h : BsR lo w v vs rs) : ∃ a c, v = .slice a vs.length c ∧ vs.length ≤ c ∧ c ≤ maxLen := by
  rcases h.own.2 with ⟨hv, h0⟩ | ⟨q, cap, cur, hv, _, _, hf, hm, _⟩
  · exact ⟨none, 0, by rw [hv, h0], by omega, by simp [maxLen]⟩
  · exact ⟨_, cap, hv, hf, hm⟩
theorem BsR.at' {lo : Nat} {w : World} {v : Value} {vs : List Value} {rs : List (List Int)} (h : BsR lo w v vs rs) {i : Nat} (hi : i < rs.length) : ∃ g c a' c', v = .slice (some ⟨g, 0, none⟩) rs.length c ∧ vs[i]? = some (.slice a' (rowY rs i).length c') ∧ w.cell? ⟨g, i, none⟩ = some (.slice a' (rowY rs i).length c') ∧ RowB lo w (.slice a' (rowY rs i).length c') (rowY rs i) := by
  have hl := h.len.out
  have hiv : i < vs.length := by omega
  obtain ⟨g, c, e⟩ := (show ∃ g c, v = .slice (some ⟨g, 0, none⟩) vs.length c by
    rcases h.own.2 with ⟨hv, h0⟩ | ⟨q, cap, cur, hv, _⟩
    · omega
    · exact ⟨q, cap, hv⟩)
  have hv := List.getElem?_eq_getElem hiv
  have R := h.rows i _ hv
  obtain ⟨a', c', e', _, _⟩ := R.shape'
  rw [e'] at R hv
  have own := h.own
  rw [e] at own
  refine ⟨g, c, a', c', by rw [e, hl], hv, ?_, R⟩
  rw [World.ownsRow.cellAt own i (by omega), hv]
theorem rowY_append_left {rs : List (List Int)} {ps : List Int} {i : Nat} (h : i < rs.length) : rowY (rs ++ [ps]) i = rowY rs i := by
  unfold rowY
  rw [List.getElem?_append_left h]
theorem rowY_append_last {rs : List (List Int)} {ps : List Int} : rowY (rs ++ [ps]) rs.length = ps := by
  unfold rowY
  rw [List.getElem?_append_right (Nat.le_refl _), Nat.sub_self]
  rfl
theorem rowY_take {rs : List (List Int)} {j : Nat} (h : j < rs.length) : rs.take (j + 1) = rs.take j ++ [rowY rs j] := by
  rw [List.take_add_one]
  unfold rowY
  rw [List.getElem?_eq_getElem h]
  rfl
theorem BsR.snoc {lo : Nat} {w w' : World} {v v' u : Value} {vs : List Value} {rs : List (List Int)} {ps : List Int} (h : BsR lo w v vs rs) (Ru : RowB lo w u ps) (nu : ∀ k, u.ownBlock = some k → v.ownBlock ≠ some k ∧ v'.ownBlock ≠ some k ∧ ∀ x ∈ vs, x.ownBlock ≠ some k)
    (own : w'.ownsRow lo 22 1 v' (vs.length + 1) (vs ++ [u])) (g : w.grownBy w' v.ownBlock) (at' : v'.ownBlock = v.ownBlock ∨ v'.ownBlock = some w.heap.size) : BsR lo w' v' (vs ++ [u]) (rs ++ [ps]) := by
  have keep : ∀ x ps, RowB lo w x ps → (∀ k, x.ownBlock = some k → v.ownBlock ≠ some k) → RowB lo w' x ps := fun x ps R n => owns_kept' R g n
  have hl := h.len.out
  refine ⟨by rw [List.length_append]; exact own, (by show _ = _; rw [List.length_append, List.length_append, hl]; rfl), fun i x hx => ?_, fun x hx k hk => ?_, fun i j x x' hij hi hj k hk => ?_⟩
  · by_cases hi : i < vs.length
    · rw [List.getElem?_append_left hi] at hx
      rw [rowY_append_left (by omega)]
      exact keep x _ (h.rows i x hx) (h.ne x (List.mem_of_getElem? hx))
    · have hi2 : i = vs.length := by
        have := (List.getElem?_eq_some_iff.mp hx).1
        rw [List.length_append] at this
        simp at this
        omega
      subst hi2
      rw [List.getElem?_append_right (Nat.le_refl _), Nat.sub_self] at hx
      simp at hx
      subst hx
      rw [hl, rowY_append_last]
      exact keep _ ps Ru (fun k hk => (nu k hk).1)
  · rcases List.mem_append.1 hx with hx | hx
    · rcases at' with e | e
      · rw [e]; exact h.ne x hx k hk
      · have := (h.lts.2 x hx k hk).2
        rw [e]
        intro q
        injection q with q
        omega
    · simp at hx
      subst hx
      exact (nu k hk).2.1
  · by_cases hjl : j < vs.length
    · rw [List.getElem?_append_left (by omega)] at hi
      rw [List.getElem?_append_left hjl] at hj
      exact h.apart i j x x' hij hi hj k hk
    · have hj2 : j = vs.length := by
        have := (List.getElem?_eq_some_iff.mp hj).1
        rw [List.length_append] at this
        simp at this
        omega
      subst hj2
      rw [List.getElem?_append_left (by omega)] at hi
      rw [List.getElem?_append_right (Nat.le_refl _), Nat.sub_self] at hj
      simp at hj
      subst hj
      intro q
      exact (nu k q).2.2 x (List.mem_of_getElem? hi) hk
theorem rowY_set_same {rs : List (List Int)} {ps : List Int} {i : Nat} (h : i < rs.length) : rowY (rs.set i ps) i = ps := by
  unfold rowY
  rw [List.getElem?_set_self h]
  rfl
theorem rowY_set_other {rs : List (List Int)} {ps : List Int} {i j : Nat} (h : i ≠ j) : rowY (rs.set i ps) j = rowY rs j := by
  unfold rowY
  rw [List.getElem?_set_ne h]
theorem BsR.set {lo : Nat} {w w' : World} {v u : Value} {vs : List Value} {rs : List (List Int)} {ps : List Int} {i : Nat} (h : BsR lo w v vs rs) (hi : i < rs.length) (hu : vs[i]? = some u) (Ru : RowB lo w' u ps) (g : w.grownBy w' u.ownBlock) : BsR lo w' v vs (rs.set i ps) := by
  have hm := List.mem_of_getElem? hu
  refine ⟨owns_kept' h.own g (fun k hk e => h.ne u hm k e hk), (by show _ = _; rw [List.length_set]; exact h.len.out), fun j x hx => ?_, h.ne, h.apart⟩
  by_cases e : i = j
  · subst e
    rw [rowY_set_same hi]
    rw [hu] at hx
    injection hx with hx
    rw [← hx]
    exact Ru
  · rw [rowY_set_other e]
    refine owns_kept' (h.rows j x hx) g (fun k hk q => ?_)
    rcases Nat.lt_or_gt_of_ne e with lt | gt
    · exact h.apart i j u x lt hu hx k q hk
    · exact h.apart j i x u gt hx hu k hk q
theorem BsR.under {lo b : Nat} {w w' : World} {v : Value} {vs : List Value} {rs : List (List Int)} (h : BsR lo w v vs rs) (hb : Below b w w') (nv : ∀ k, v.ownBlock = some k → k < b) (nr : ∀ u ∈ vs, ∀ k, u.ownBlock = some k → k < b) : BsR lo w' v vs rs := by
  have keep : ∀ {e size n : Nat} {u : Value} {xs : List Value}, w.ownsRow lo e size u n xs → (∀ k, u.ownBlock = some k → k < b) → w'.ownsRow lo e size u n xs := by
    intro e size n u xs q nu
    refine ⟨q.1, ?_⟩
    rcases q.2 with q2 | ⟨g, cap, cur, hv, q3, q4, q5⟩
    · exact .inl q2
    · exact .inr ⟨g, cap, cur, hv, q3, (hb.block g (nu g (by rw [hv]; rfl))).trans q4, q5⟩
  exact ⟨keep h.own nv, h.len, fun i u hu => keep (h.rows i u hu) (nr u (List.mem_of_getElem? hu)), h.ne, h.apart⟩
theorem BsR.empty (w : World) {lo : Nat} (h : lo ≤ w.heap.size) : BsR lo (w.alloc (.cells #[] 22)) (.slice (some ⟨w.heap.size, 0, none⟩) 0 0) [] [] :=
  ⟨⟨rfl, .inr ⟨w.heap.size, 0, #[], rfl, h, heap_alloc_new _ _, Nat.le_refl _, by simp [maxLen], rfl, rfl⟩⟩, rfl, fun _ _ h => (by simp at h), fun _ h => (by cases h), fun i j u u' _ h => (by simp at h)⟩
theorem BsR.shapeN {lo : Nat} {w : World} {v : Value} {vs : List Value} {rs : List (List Int)} (h : BsR lo w v vs rs) : ∃ a c, v = .slice a rs.length c ∧ rs.length ≤ c ∧ c ≤ maxLen := by
  obtain ⟨a, c, e, h1, h2⟩ := h.shape
  have hl := h.len.out
  exact ⟨a, c, by rw [e, hl], by omega, h2⟩
theorem BsR.caps {lo n : Nat} {w : World} {a : Option Addr} {c : Nat} {vs : List Value} {rs : List (List Int)} (h : BsR lo w (.slice a n c) vs rs) : n = rs.length ∧ rs.length ≤ c ∧ c ≤ maxLen := by
  obtain ⟨a', c', e, h1, h2⟩ := h.shapeN
  injection e with e1 e2 e3
  subst e3
  exact ⟨e2, h1, h2⟩
/-- How many bytes the first rows have. -/
def uptoY (rs : List (List Int)) : Nat → Nat
  | 0 => 0
  | j + 1 => uptoY rs j + (rowY rs j).length
theorem uptoY_mono (rs : List (List Int)) {i j : Nat} (h : i ≤ j) : uptoY rs i ≤ uptoY rs j := by
  induction j with
  | zero => rw [Nat.le_zero.1 h]; exact Nat.le_refl _
  | succ j ih =>
    by_cases e : i = j + 1
    · subst e; exact Nat.le_refl _
    · have := ih (by omega); simp only [uptoY]; omega
theorem uptoY_row (rs : List (List Int)) {j : Nat} (h : j < rs.length) : uptoY rs j + (rowY rs j).length ≤ uptoY rs rs.length := uptoY_mono rs (i := j + 1) (j := rs.length) h

set_option maxRecDepth 20000 in
set_option maxHeartbeats 2000000 in
theorem eqBss {lo lo' : Nat} (a b : Option Addr) (c d : Nat) (vs us : List Value) (rs : List (List Int)) (w : World) (h : BsR lo w (.slice a rs.length c) vs rs) (k : BsR lo' w (.slice b rs.length d) us rs) :
    Calls Tryd.prog 9 #[.slice a rs.length c, .slice b rs.length d] w fun e w' => e = .returned (.bool true) ∧ Below w.heap.size w w' := by
  obtain ⟨_, hf, hm⟩ := h.caps
  obtain ⟨_, kf, km⟩ := k.caps
  unfold maxLen at hm km
  have hne : ((rs.length : Int) != (rs.length : Int)) = false := by simp
  go_enter Tryd.func9, Tryd.ntmps9
  go_wp2
  go_loopw [5] (fun i wr => ∃ j : Nat, j ≤ rs.length ∧ i = .int .i64 j ∧ Below w.heap.size w wr) (fun i _ => rs.length - (intOf i).toNat)
  case atStart => exact ⟨0, Nat.zero_le _, rfl, Below.refl _ _⟩
  case round =>
    obtain ⟨j, hj, rfl, B⟩ := hrel
    rename World => wr
    by_cases hlt : j < rs.length
    · obtain ⟨b1, c1, a3, c3, e, _, g1, p1⟩ := (h.below B).at' hlt
      injection e with e1 e2 e3
      subst e1
      obtain ⟨b2, c2, a4, c4, e, _, g2, p2⟩ := (k.below B).at' hlt
      injection e with e1 e4 e5
      subst e1
      clear e2 e3 e4 e5
      generalize rowY rs j = ds at *
      go_wp2_with fail
      have k0 : wr.cell? ⟨b1, j, none⟩ = some (.slice a3 ds.length c3) ∧ wr.cell? ⟨b2, j, none⟩ = some (.slice a4 ds.length c4) := ⟨g1, g2⟩
      have B1 : Below wr.heap.size wr wr := Below.refl _ _
      go_region_held3 (fun w' => w'.cell? ⟨b1, j, none⟩ = some (.slice a3 ds.length c3) ∧ w'.cell? ⟨b2, j, none⟩ = some (.slice a4 ds.length c4))
        (first | exact k0 | exact ⟨bat B1 k0.1, bat B1 k0.2⟩)
        ((go_at_call 22; refine (eqBy a3 a4 c3 c4 ds _ (p1.below B1.drew) (p2.below B1.drew)).mono ?_; rintro e w5 ⟨rfl, hb⟩; replace B1 := B1.drew.trans (hb.mono B1.drew.size)))
      replace B := B.trans (B1.mono B.size)
      go_wp2_with fail
      go_roundw
      case rel => exact ⟨j + 1, by omega, by go_num, B⟩
      case measure => simp [intOf]; omega
    · go_wp2
      go_ret
      exact ⟨rfl, B⟩

/-- The first j rows are marked. -/
def mkYs (k : Int) (rs : List (List Int)) : Nat → List (List Int)
  | 0 => rs
  | j + 1 => (mkYs k rs j).set j (mkY (k + (uptoY rs j : Nat)) (rowY rs j).length)
theorem mkYs_len (k : Int) (rs : List (List Int)) (j : Nat) : (mkYs k rs j).length = rs.length := by
  induction j with
  | zero => rfl
  | succ j ih => simp only [mkYs, List.length_set, ih]
theorem mkYs_old (k : Int) (rs : List (List Int)) {j i : Nat} (h : j ≤ i) : rowY (mkYs k rs j) i = rowY rs i := by
  induction j with
  | zero => rfl
  | succ j ih => simp only [mkYs]; rw [rowY_set_other (by omega)]; exact ih (by omega)
theorem mkYs_new (k : Int) (rs : List (List Int)) {j i : Nat} (h : i < j) (hj : j ≤ rs.length) : rowY (mkYs k rs j) i = mkY (k + (uptoY rs i : Nat)) (rowY rs i).length := by
  induction j with
  | zero => omega
  | succ j ih =>
    simp only [mkYs]
    by_cases e : j = i
    · subst e
      rw [rowY_set_same (by rw [mkYs_len]; omega)]
    · rw [rowY_set_other e]
      exact ih (by omega) (by omega)

set_option maxRecDepth 20000 in
set_option maxHeartbeats 2000000 in
theorem markBss {lo : Nat} (a : Option Addr) (c : Nat) (k : Int) (vs : List Value) (rs : List (List Int)) (w : World) (h : BsR lo w (.slice a rs.length c) vs rs) (hs : uptoY rs rs.length ≤ 2000000) (k0 : 0 ≤ k) (k1 : k ≤ 3000000) (hn : rs ≠ [] → lo ≤ w.heap.size) :
    Calls Tryd.prog 12 #[.slice a rs.length c, .int .i64 k] w fun e w' => e = .returned (.int .i64 (k + (uptoY rs rs.length : Nat))) ∧ BsR lo w' (.slice a rs.length c) vs (mkYs k rs rs.length) ∧ Below lo w w' := by
  obtain ⟨_, hf, hm⟩ := h.caps
  unfold maxLen at hm
  have HS : Hid (uptoY rs rs.length ≤ 2000000) := hs
  have HH : Hid (BsR lo w (.slice a rs.length c) vs rs) := h
  have hlo : Hid (rs ≠ [] → lo ≤ w.heap.size) := hn
  clear hs h hn
  go_enter Tryd.func12, Tryd.ntmps12
  go_wp2
  go_loopw [1, 5] (fun s1 i wr => ∃ (j : Nat) (m : Int), j ≤ rs.length ∧ i = .int .i64 j ∧ s1 = .int .i64 m ∧ Hid (m = k + (uptoY rs j : Nat)) ∧ Hid (BsR lo wr (.slice a rs.length c) vs (mkYs k rs j)) ∧ Hid (Below lo w wr)) (fun _ i _ => rs.length - (intOf i).toNat)
  case atStart => exact ⟨0, k, Nat.zero_le _, rfl, rfl, (by show _ = _; simp [uptoY]), HH, Below.refl _ _⟩
  case round =>
    clear HH
    obtain ⟨j, m, hj, rfl, rfl, hk, S, B⟩ := hrel
    rename World => wr
    have ub := uptoY_mono rs hj
    have hmb : 0 ≤ m ∧ m ≤ 5000000 := by have := HS.out; have := hk.out; omega
    obtain ⟨mb0, mb1⟩ := hmb
    clear ub
    by_cases hlt : j < rs.length
    · obtain ⟨g, c0, a', c', e, hv, hc, R⟩ := S.out.at' (i := j) (by rw [mkYs_len]; exact hlt)
      rw [mkYs_len] at e
      injection e with e1 e2 e3
      subst e1
      rw [mkYs_old k rs (Nat.le_refl j)] at hv hc R
      have hrow := uptoY_row rs hlt
      have hrl : (rowY rs j).length ≤ 2000000 := by have := HS.out; omega
      have HR : Hid ((rowY rs j).length ≤ 2000000) := hrl
      have KN : Hid (m + ((rowY rs j).length : Int) = k + (uptoY rs (j + 1) : Nat)) := by show _ = _; simp only [uptoY]; have := hk.out; push_cast; omega
      have HK : Hid (∀ W, RowB lo W (.slice a' (rowY rs j).length c') (mkY m (rowY rs j).length) → wr.grownBy W (Value.slice a' (rowY rs j).length c').ownBlock → BsR lo W (.slice (some ⟨g, 0, none⟩) rs.length c) vs (mkYs k rs (j + 1)) ∧ Below lo w W) := fun W RW GW => by
        have S3 := BsR.set S.out (i := j) (by rw [mkYs_len]; exact hlt) hv RW GW
        have hwl := hlo.out (by intro e; simp [e] at hlt)
        refine ⟨?_, ?_⟩
        · simp only [mkYs]
          rw [← hk.out]
          exact S3
        · exact B.out.grown GW (by have := B.out.size; omega) (fun k hk => (S.out.lts.2 _ (List.mem_of_getElem? hv) k hk).1)
      have R2 : Hid (RowB lo wr (.slice a' (rowY rs j).length c') (rowY rs j)) := R
      clear hv R S hrow hrl e2 e3
      generalize rowY rs j = ds at *
      go_wp2_with fail
      refine (markBy a' c' m ds _ R2.out HR.out (by omega) (by omega)).mono ?_
      rintro e w3 ⟨rfl, R3, G3⟩
      rw [mkY_len] at R3
      obtain ⟨S4, B4⟩ := HK.out w3 R3 G3
      have S5 : Hid (BsR lo w3 (.slice (some ⟨g, 0, none⟩) rs.length c) vs (mkYs k rs (j + 1))) := S4
      have B5 : Hid (Below lo w w3) := B4
      clear R3 G3 S4 B4 HK hc R2
      go_wp2
      go_roundw
      case rel => exact ⟨j + 1, _, by omega, by go_num, rfl, KN, S5, B5⟩
      case measure => simp [intOf]; omega
    · obtain rfl : j = rs.length := by omega
      go_wp2
      go_ret
      exact ⟨congrArg (fun z => Ending.returned (Value.int .i64 z)) hk.out, S.out, B.out⟩

set_option maxRecDepth 20000 in
set_option maxHeartbeats 2000000 in
theorem heldBss {lo : Nat} (a : Option Addr) (c : Nat) (k : Int) (vs : List Value) (rs : List (List Int)) (w : World) (h : BsR lo w (.slice a rs.length c) vs (mkYs k rs rs.length)) (hs : uptoY rs rs.length ≤ 2000000) (k0 : 0 ≤ k) (k1 : k ≤ 3000000) :
    Calls Tryd.prog 13 #[.slice a rs.length c, .int .i64 k] w fun e w' => e = .returned (.int .i64 (k + (uptoY rs rs.length : Nat))) ∧ w' = w := by
  obtain ⟨-, hf, hm⟩ := h.caps
  rw [mkYs_len] at hf
  unfold maxLen at hm
  have HS : Hid (uptoY rs rs.length ≤ 2000000) := hs
  have HH : Hid (BsR lo w (.slice a rs.length c) vs (mkYs k rs rs.length)) := h
  clear hs h
  go_enter Tryd.func13, Tryd.ntmps13
  go_wp2
  go_loopw [1, 5] (fun s1 i wr => ∃ (j : Nat) (m : Int), j ≤ rs.length ∧ i = .int .i64 j ∧ s1 = .int .i64 m ∧ Hid (m = k + (uptoY rs j : Nat)) ∧ Hid (wr = w)) (fun _ i _ => rs.length - (intOf i).toNat)
  case atStart => exact ⟨0, k, Nat.zero_le _, rfl, rfl, (by show _ = _; simp [uptoY]), rfl⟩
  case round =>
    obtain ⟨j, m, hj, rfl, rfl, hk, hw⟩ := hrel
    rename World => wr
    have ub := uptoY_mono rs hj
    have hmb : 0 ≤ m ∧ m ≤ 5000000 := by have := HS.out; have := hk.out; omega
    obtain ⟨mb0, mb1⟩ := hmb
    clear ub
    by_cases hlt : j < rs.length
    · obtain ⟨g, c0, a', c', e, hv, hc, R⟩ := HH.out.at' (i := j) (by rw [mkYs_len]; exact hlt)
      rw [mkYs_len] at e
      injection e with e1 e2 e3
      subst e1
      rw [mkYs_new k rs hlt (Nat.le_refl _), ← hk.out, ← hw.out] at hc R
      rw [mkY_len] at hc
      have hrow := uptoY_row rs hlt
      have hrl : (rowY rs j).length ≤ 2000000 := by have := HS.out; omega
      have HR : Hid ((rowY rs j).length ≤ 2000000) := hrl
      have KN : Hid (m + ((rowY rs j).length : Int) = k + (uptoY rs (j + 1) : Nat)) := by show _ = _; simp only [uptoY]; have := hk.out; push_cast; omega
      have R2 : Hid (RowB lo wr (.slice a' (mkY m (rowY rs j).length).length c') (mkY m (rowY rs j).length)) := R
      have pos : 0 ≤ m + ((rowY rs j).length : Int) := by omega
      clear hv R HH hrow hrl e2 e3
      generalize (rowY rs j).length = n at *
      go_wp2_with fail
      refine (heldBy a' c' n m _ R2.out HR.out (by omega) (by omega)).mono ?_
      rintro e w3 ⟨rfl, rfl⟩
      go_wp2
      go_roundw
      case rel => exact ⟨j + 1, _, by omega, by go_num, rfl, KN, hw⟩
      case measure => simp [intOf]; omega
    · obtain rfl : j = rs.length := by omega
      go_wp2
      go_ret
      exact ⟨congrArg (fun z => Ending.returned (Value.int .i64 z)) hk.out, hw.out⟩

set_option maxHeartbeats 1000000 in
theorem eqLog_any (F L X E : Int) (w : World) :
    Calls Tryd.prog 8 #[.agg #[.int .i64 F, .int .i64 L, .int .i64 X, .int .i64 E], .agg #[.int .i64 F, .int .i64 L, .int .i64 X, .int .i64 E]] w fun e w' => e = .returned (.bool true) ∧ Below w.heap.size w w' := by
  have e1 : (F != F) = false := by simp
  have e2 : (L != L) = false := by simp
  have e3 : (X != X) = false := by simp
  have e4 : (E != E) = false := by simp
  go_enter Tryd.func8, Tryd.ntmps8
  go_wp2
  go_ret
  exact ⟨rfl, below2 _ _ _⟩
end Go.Proofs.YtgcaemhcdpddiaaDoor
