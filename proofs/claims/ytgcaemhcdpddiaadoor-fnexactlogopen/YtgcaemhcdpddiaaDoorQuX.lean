/- Writes that wait in a list of a call's own, each one's bytes in a block of its own of any one type. -/
import Derived.Test.YtgcaemhcdpddiaaDoorQuR
namespace Go.Proofs.YtgcaemhcdpddiaaDoor
open Go.RowKit
structure QuX (t : TypeId) (lo : Nat) (w : World) (v : Value) (vs : List Value) (qs : List Wr) : Prop where
  own : w.ownsRow lo 67 2 v vs.length (wrC qs vs)
  len : Hid (vs.length = qs.length)
  rows : ∀ (i : Nat) (u : Value), vs[i]? = some u → RowE t lo w u (wrN qs i).2
  ne : ∀ u ∈ vs, ∀ k, u.ownBlock = some k → v.ownBlock ≠ some k
  apart : ∀ (i j : Nat) (u u' : Value), i < j → vs[i]? = some u → vs[j]? = some u' → ∀ k, u.ownBlock = some k → u'.ownBlock ≠ some k
theorem QuX.row {t : TypeId} {lo : Nat} {w : World} {v u : Value} {vs : List Value} {qs : List Wr} (h : QuX t lo w v vs qs) (hu : u ∈ vs) : ∃ ps, RowE t lo w u ps := by
  obtain ⟨i, hi, e⟩ := List.getElem_of_mem hu
  exact ⟨_, h.rows i u (by rw [List.getElem?_eq_getElem hi, e])⟩
theorem QuX.kept {t : TypeId} {lo : Nat} {w w' : World} {v : Value} {vs : List Value} {qs : List Wr} {row : Option Nat} (h : QuX t lo w v vs qs) (g : w.grownBy w' row) (nv : ∀ k, v.ownBlock = some k → row ≠ some k) (nr : ∀ u ∈ vs, ∀ k, u.ownBlock = some k → row ≠ some k) : QuX t lo w' v vs qs :=
  ⟨owns_kept' h.own g nv, h.len, fun i u hu => owns_kept' (h.rows i u hu) g (nr u (List.mem_of_getElem? hu)), h.ne, h.apart⟩
theorem QuX.below {t : TypeId} {lo : Nat} {w w' : World} {v : Value} {vs : List Value} {qs : List Wr} (h : QuX t lo w v vs qs) (hb : Below w.heap.size w w') : QuX t lo w' v vs qs :=
  h.kept (grown_of_below hb) (fun _ _ e => by cases e) (fun _ _ _ _ e => by cases e)
theorem QuX.lts {t : TypeId} {lo : Nat} {w : World} {v : Value} {vs : List Value} {qs : List Wr} (h : QuX t lo w v vs qs) : (∀ k, v.ownBlock = some k → lo ≤ k ∧ k < w.heap.size) ∧ ∀ u ∈ vs, ∀ k, u.ownBlock = some k → lo ≤ k ∧ k < w.heap.size :=
  ⟨fun k hk => World.ownsRow.lt h.own k hk, fun u hu k hk => by
    obtain ⟨ps, R⟩ := h.row hu
    exact World.ownsRow.lt R k hk⟩
theorem QuX.base {t : TypeId} {lo lo' : Nat} {w : World} {v : Value} {vs : List Value} {qs : List Wr} (h : QuX t lo w v vs qs) (hl : lo' ≤ lo) : QuX t lo' w v vs qs :=
  ⟨row_base h.own hl, h.len, fun i u hu => row_base (h.rows i u hu) hl, h.ne, h.apart⟩
theorem QuX.nil (t : TypeId) (lo : Nat) (w : World) : QuX t lo w (.slice none 0 0) [] [] :=
  ⟨⟨rfl, .inl ⟨rfl, rfl⟩⟩, rfl, fun _ _ h => (by simp at h), fun _ h => (by cases h), fun i j u u' _ h => (by simp at h)⟩
theorem QuX.shape {t : TypeId} {lo : Nat} {w : World} {v : Value} {vs : List Value} {qs : List Wr} (h : QuX t lo w v vs qs) : ∃ a c, v = .slice a qs.length c ∧ qs.length ≤ c ∧ c ≤ maxLen := by
  have hl := h.len.out
  rcases h.own.2 with ⟨hv, h0⟩ | ⟨q, cap, cur, hv, _, _, hf, hm, _⟩
  · exact ⟨none, 0, by rw [hv, ← hl, h0], by omega, by simp [maxLen]⟩
  · exact ⟨_, cap, by rw [← hl]; exact hv, by omega, hm⟩
theorem QuX.caps {t : TypeId} {lo n : Nat} {w : World} {a : Option Addr} {c : Nat} {vs : List Value} {qs : List Wr} (h : QuX t lo w (.slice a n c) vs qs) : n = qs.length ∧ qs.length ≤ c ∧ c ≤ maxLen := by
  obtain ⟨a', c', e, h1, h2⟩ := h.shape
  injection e with e1 e2 e3
  subst e3
  exact ⟨e2, h1, h2⟩
theorem QuX.at' {t : TypeId} {lo : Nat} {w : World} {v : Value} {vs : List Value} {qs : List Wr} (h : QuX t lo w v vs qs) {i : Nat} (hi : i < qs.length) : ∃ g c a' c', v = .slice (some ⟨g, 0, none⟩) qs.length c ∧ vs[i]? = some (.slice a' (wrN qs i).2.length c') ∧ w.cell? ⟨g, i * 2, none⟩ = some (.int .i64 (wrN qs i).1) ∧ w.cell? ⟨g, i * 2 + 1, none⟩ = some (.slice a' (wrN qs i).2.length c') ∧ RowE t lo w (.slice a' (wrN qs i).2.length c') (wrN qs i).2 ∧ (∀ o, w.frozen? ⟨g, o, none⟩ = false) := by
  have hl := h.len.out
  have hiv : i < vs.length := by omega
  obtain ⟨g, c, e⟩ := (show ∃ g c, v = .slice (some ⟨g, 0, none⟩) vs.length c by
    rcases h.own.2 with ⟨hv, h0⟩ | ⟨q, cap, cur, hv, _⟩
    · omega
    · exact ⟨q, cap, hv⟩)
  have hv := List.getElem?_eq_getElem hiv
  have R := h.rows i _ hv
  obtain ⟨a', c', e', _, _⟩ := R.shape'
  rw [e'] at R hv
  have own := h.own
  rw [e] at own
  obtain ⟨p0, p1⟩ := wrC_at qs vs i hl hi
  exact ⟨g, c, a', c', by rw [e, hl], hv, (own.cellAt (i * 2) (by omega)).trans p0, ((own.cellAt (i * 2 + 1) (by omega)).trans p1).trans hv, R, fun o => own.frozenAt o⟩
theorem QuX.snoc {t : TypeId} {lo : Nat} {w w' : World} {v v' u : Value} {vs : List Value} {qs : List Wr} {q : Wr} (h : QuX t lo w v vs qs) (Ru : RowE t lo w u q.2) (nu : ∀ k, u.ownBlock = some k → v.ownBlock ≠ some k ∧ v'.ownBlock ≠ some k ∧ ∀ x ∈ vs, x.ownBlock ≠ some k)
    (own : w'.ownsRow lo 67 2 v' (vs.length + 1) (wrC qs vs ++ [.int .i64 q.1, u])) (g : w.grownBy w' v.ownBlock) (at' : v'.ownBlock = v.ownBlock ∨ v'.ownBlock = some w.heap.size) : QuX t lo w' v' (vs ++ [u]) (qs ++ [q]) := by
  have keep : ∀ x ps, RowE t lo w x ps → (∀ k, x.ownBlock = some k → v.ownBlock ≠ some k) → RowE t lo w' x ps := fun x ps R n => owns_kept' R g n
  have hl := h.len.out
  refine ⟨by rw [List.length_append, wrC_snoc _ _ _ _ hl]; exact own, (by show _ = _; rw [List.length_append, List.length_append, hl]; rfl), fun i x hx => ?_, fun x hx k hk => ?_, fun i j x x' hij hi hj k hk => ?_⟩
  · by_cases hi : i < vs.length
    · rw [List.getElem?_append_left hi] at hx
      rw [wrN_left (by omega)]
      exact keep x _ (h.rows i x hx) (h.ne x (List.mem_of_getElem? hx))
    · have hi2 : i = vs.length := by
        have := (List.getElem?_eq_some_iff.mp hx).1
        rw [List.length_append] at this
        simp at this
        omega
      subst hi2
      rw [List.getElem?_append_right (Nat.le_refl _), Nat.sub_self] at hx
      simp at hx
      subst hx
      rw [hl, wrN_last]
      exact keep _ _ Ru (fun k hk => (nu k hk).1)
  · rcases List.mem_append.1 hx with hx | hx
    · rcases at' with e | e
      · rw [e]; exact h.ne x hx k hk
      · have := (h.lts.2 x hx k hk).2
        rw [e]
        intro q
        injection q with q
        omega
    · simp at hx
      subst hx
      exact (nu k hk).2.1
  · by_cases hjl : j < vs.length
    · rw [List.getElem?_append_left (by omega)] at hi
      rw [List.getElem?_append_left hjl] at hj
      exact h.apart i j x x' hij hi hj k hk
    · have hj2 : j = vs.length := by
        have := (List.getElem?_eq_some_iff.mp hj).1
        rw [List.length_append] at this
        simp at this
        omega
      subst hj2
      rw [List.getElem?_append_left (by omega)] at hi
      rw [List.getElem?_append_right (Nat.le_refl _), Nat.sub_self] at hj
      simp at hj
      subst hj
      intro q
      exact (nu k q).2.2 x (List.mem_of_getElem? hi) hk
theorem QuX.set {t : TypeId} {lo : Nat} {w w' : World} {v u : Value} {vs : List Value} {qs : List Wr} {ps : List Int} {i : Nat} (h : QuX t lo w v vs qs) (hi : i < qs.length) (hu : vs[i]? = some u) (Ru : RowE t lo w' u ps) (g : w.grownBy w' u.ownBlock) : QuX t lo w' v vs (qs.set i ((wrN qs i).1, ps)) := by
  have hm := List.mem_of_getElem? hu
  refine ⟨by rw [wrC_data]; exact owns_kept' h.own g (fun k hk e => h.ne u hm k e hk), (by show _ = _; rw [List.length_set]; exact h.len.out), fun j x hx => ?_, h.ne, h.apart⟩
  by_cases e : i = j
  · subst e
    rw [wrN_set_same hi]
    rw [hu] at hx
    injection hx with hx
    rw [← hx]
    exact Ru
  · rw [wrN_set_other e]
    refine owns_kept' (h.rows j x hx) g (fun k hk q => ?_)
    rcases Nat.lt_or_gt_of_ne e with lt | gt
    · exact h.apart i j u x lt hu hx k q hk
    · exact h.apart j i x u gt hx hu k hk q
theorem QuX.setNum {t : TypeId} {lo g n c : Nat} {w : World} {vs : List Value} {qs : List Wr} (h : QuX t lo w (.slice (some ⟨g, 0, none⟩) n c) vs qs) {i : Nat} (hi : i < qs.length) (k : Int) :
    QuX t lo (w.setCell ⟨g, i * 2, none⟩ (.int .i64 k)) (.slice (some ⟨g, 0, none⟩) n c) vs (qs.set i (k, (wrN qs i).2)) ∧ w.grownBy (w.setCell ⟨g, i * 2, none⟩ (.int .i64 k)) (some g) := by
  have hl := h.len.out
  obtain ⟨en, _, _⟩ := h.caps
  have own := h.own
  rw [hl, ← en] at own
  obtain ⟨h1, g1⟩ := own.stored (i * 2) (.int .i64 k)
  rw [wrC_num] at h1
  refine ⟨⟨by rw [hl, ← en]; exact h1, (by show _ = _; rw [List.length_set]; exact hl), fun j x hx => ?_, h.ne, h.apart⟩, g1⟩
  have R : RowE t lo (w.setCell ⟨g, i * 2, none⟩ (.int .i64 k)) x (wrN qs j).2 := owns_kept' (h.rows j x hx) g1 (fun k' hk e => h.ne x (List.mem_of_getElem? hx) k' hk e)
  by_cases e : i = j
  · subst e
    rw [wrN_set_same hi]
    exact R
  · rw [wrN_set_other e]
    exact R
theorem QuX.under {t : TypeId} {lo b : Nat} {w w' : World} {v : Value} {vs : List Value} {qs : List Wr} (h : QuX t lo w v vs qs) (hb : Below b w w') (nv : ∀ k, v.ownBlock = some k → k < b) (nr : ∀ u ∈ vs, ∀ k, u.ownBlock = some k → k < b) : QuX t lo w' v vs qs := by
  have keep : ∀ {e size n : Nat} {u : Value} {xs : List Value}, w.ownsRow lo e size u n xs → (∀ k, u.ownBlock = some k → k < b) → w'.ownsRow lo e size u n xs := by
    intro e size n u xs q nu
    refine ⟨q.1, ?_⟩
    rcases q.2 with q2 | ⟨g, cap, cur, hv, q3, q4, q5⟩
    · exact .inl q2
    · exact .inr ⟨g, cap, cur, hv, q3, (hb.block g (nu g (by rw [hv]; rfl))).trans q4, q5⟩
  exact ⟨keep h.own nv, h.len, fun i u hu => keep (h.rows i u hu) (nr u (List.mem_of_getElem? hu)), h.ne, h.apart⟩
set_option maxRecDepth 20000 in
set_option maxHeartbeats 2000000 in
theorem eqWriteX_any {t : TypeId} {lo lo' : Nat} (x : Int) (a b : Option Addr) (c d : Nat) (ds : List Int) (w : World) (h : RowE t lo w (.slice a ds.length c) ds) (k : RowB lo' w (.slice b ds.length d) ds) :
    Calls Tryd.prog 39 #[.agg #[.int .i64 x, .slice a ds.length c], .agg #[.int .i64 x, .slice b ds.length d]] w fun e w' => e = .returned (.bool true) ∧ Below w.heap.size w w' := by
  have hne : (x != x) = false := by simp
  have B := below2 w (.cells #[.int .i64 x, .slice a ds.length c] 67) (.cells #[.int .i64 x, .slice b ds.length d] 67)
  go_enter Tryd.func39, Tryd.ntmps39
  go_wp2_with fail
  refine (eqByE (t := t) (t' := 5) a b c d ds _ (h.below B) (k.below B)).mono ?_
  rintro e w1 ⟨rfl, hb⟩
  replace B := B.trans (hb.mono B.size)
  go_wp2
  go_ret
  exact ⟨rfl, B⟩
set_option maxRecDepth 20000 in
set_option maxHeartbeats 2000000 in
theorem eqWritesX {t : TypeId} {lo lo' : Nat} (a b : Option Addr) (c d : Nat) (vs us : List Value) (qs : List Wr) (w : World) (h : QuX t lo w (.slice a qs.length c) vs qs) (k : QuR lo' w (.slice b qs.length d) us qs) :
    Calls Tryd.prog 23 #[.slice a qs.length c, .slice b qs.length d] w fun e w' => e = .returned (.bool true) ∧ Below w.heap.size w w' := by
  obtain ⟨_, hf, hm⟩ := h.caps
  obtain ⟨_, kf, km⟩ := k.caps
  unfold maxLen at hm km
  have hne : ((qs.length : Int) != (qs.length : Int)) = false := by simp
  go_enter Tryd.func23, Tryd.ntmps23
  go_wp2
  go_loopw [5] (fun i wr => ∃ j : Nat, j ≤ qs.length ∧ i = .int .i64 j ∧ Below w.heap.size w wr) (fun i _ => qs.length - (intOf i).toNat)
  case atStart => exact ⟨0, Nat.zero_le _, rfl, Below.refl _ _⟩
  case round =>
    obtain ⟨j, hj, rfl, B⟩ := hrel
    rename World => wr
    by_cases hlt : j < qs.length
    · obtain ⟨b1, c1, a3, c3, e, _, g1, g2, p1, _⟩ := (h.below B).at' hlt
      injection e with e1 e2 e3
      subst e1
      obtain ⟨b2, c2, a4, c4, e, _, g3, g4, p2, _⟩ := (k.below B).at' hlt
      injection e with e1 e4 e5
      subst e1
      clear e2 e3 e4 e5
      generalize wrN qs j = q at *
      obtain ⟨x, ds⟩ := q
      dsimp only at g1 g2 g3 g4 p1 p2
      go_wp2_with fail
      have k0 : wr.cell? ⟨b1, j * 2, none⟩ = some (.int .i64 x) ∧ wr.cell? ⟨b1, j * 2 + 1, none⟩ = some (.slice a3 ds.length c3) ∧ wr.cell? ⟨b2, j * 2, none⟩ = some (.int .i64 x) ∧ wr.cell? ⟨b2, j * 2 + 1, none⟩ = some (.slice a4 ds.length c4) := ⟨g1, g2, g3, g4⟩
      have B1 : Below wr.heap.size wr wr := Below.refl _ _
      go_region_held3 (fun w' => w'.cell? ⟨b1, j * 2, none⟩ = some (.int .i64 x) ∧ w'.cell? ⟨b1, j * 2 + 1, none⟩ = some (.slice a3 ds.length c3) ∧ w'.cell? ⟨b2, j * 2, none⟩ = some (.int .i64 x) ∧ w'.cell? ⟨b2, j * 2 + 1, none⟩ = some (.slice a4 ds.length c4))
        (first | exact k0 | exact ⟨bat B1 k0.1, bat B1 k0.2.1, bat B1 k0.2.2.1, bat B1 k0.2.2.2⟩)
        ((go_at_call 39; refine (eqWriteX_any (t := t) x a3 a4 c3 c4 ds _ (p1.below B1.drew) (p2.below B1.drew)).mono ?_; rintro e w5 ⟨rfl, hb⟩; replace B1 := B1.drew.trans (hb.mono B1.drew.size)))
      replace B := B.trans (B1.mono B.size)
      go_wp2_with fail
      go_roundw
      case rel => exact ⟨j + 1, by omega, by go_num, B⟩
      case measure => simp [intOf]; omega
    · go_wp2
      go_ret
      exact ⟨rfl, B⟩
set_option maxRecDepth 20000 in
set_option maxHeartbeats 2000000 in
theorem markWritesX {t : TypeId} {lo : Nat} (a : Option Addr) (c : Nat) (k : Int) (vs : List Value) (qs : List Wr) (w : World) (h : QuX t lo w (.slice a qs.length c) vs qs) (hs : uptoQ qs qs.length ≤ 2000000) (k0 : 0 ≤ k) (k1 : k ≤ 3000000) :
    Calls Tryd.prog 25 #[.slice a qs.length c, .int .i64 k] w fun e w' => e = .returned (.int .i64 (k + (uptoQ qs qs.length : Nat))) ∧ QuX t lo w' (.slice a qs.length c) vs (mkQs k qs qs.length) ∧ Below lo w w' ∧ ButQ (.slice a qs.length c :: vs) w w' := by
  obtain ⟨_, hf, hm⟩ := h.caps
  unfold maxLen at hm
  have HS : Hid (uptoQ qs qs.length ≤ 2000000) := hs
  have HH : Hid (QuX t lo w (.slice a qs.length c) vs qs) := h
  have hlo : Hid (qs ≠ [] → lo ≤ w.heap.size) := fun hn => by
    obtain ⟨g, c0, _, _, e, _⟩ := h.at' (List.length_pos_iff.2 hn)
    have := h.lts.1 g (by rw [e]; rfl)
    omega
  clear hs h
  go_enter Tryd.func25, Tryd.ntmps25
  go_wp2
  go_loopw [1, 5] (fun s1 i wr => ∃ (j : Nat) (m : Int), j ≤ qs.length ∧ i = .int .i64 j ∧ s1 = .int .i64 m ∧ Hid (m = k + (uptoQ qs j : Nat)) ∧ Hid (QuX t lo wr (.slice a qs.length c) vs (mkQs k qs j)) ∧ Hid (Below lo w wr) ∧ Hid (ButQ (.slice a qs.length c :: vs) w wr)) (fun _ i _ => qs.length - (intOf i).toNat)
  case atStart => exact ⟨0, k, Nat.zero_le _, rfl, rfl, (by show _ = _; simp [uptoQ]), HH, Below.refl _ _, ⟨Nat.le_refl _, fun _ _ _ => rfl⟩⟩
  case round =>
    clear HH
    obtain ⟨j, m, hj, rfl, rfl, hk, S, B, KB⟩ := hrel
    rename World => wr
    have ub := uptoQ_mono qs hj
    have hmb : 0 ≤ m ∧ m ≤ 5000000 := by have := HS.out; have := hk.out; omega
    obtain ⟨mb0, mb1⟩ := hmb
    clear ub
    by_cases hlt : j < qs.length
    · obtain ⟨g, c0, a', c', e, hv, hc0, hc1, R, fz⟩ := S.out.at' (i := j) (by rw [mkQs_len]; exact hlt)
      rw [mkQs_len] at e
      injection e with e1 e2 e3
      subst e1
      rw [mkQs_old k qs (Nat.le_refl j)] at hv hc0 hc1 R
      have hrow := uptoQ_row qs hlt
      have hrl : (wrN qs j).2.length ≤ 2000000 := by have := HS.out; omega
      have HR : Hid ((wrN qs j).2.length ≤ 2000000) := hrl
      obtain ⟨S2, G2⟩ := QuX.setNum S.out (i := j) (by rw [mkQs_len]; exact hlt) m
      have R2 : Hid (RowE t lo (wr.setCell ⟨g, j * 2, none⟩ (.int .i64 m)) (.slice a' (wrN qs j).2.length c') (wrN qs j).2) := by
        have := S2.rows j _ hv
        rw [wrN_set_same (by rw [mkQs_len]; exact hlt), mkQs_old k qs (Nat.le_refl j)] at this
        exact this
      have hc1' : (wr.setCell ⟨g, j * 2, none⟩ (.int .i64 m)).cell? ⟨g, j * 2 + 1, none⟩ = some (.slice a' (wrN qs j).2.length c') := (cell_other (.inr (by simp)) _).trans hc1
      have KN : Hid (m + 1 + ((wrN qs j).2.length : Int) = k + (uptoQ qs (j + 1) : Nat)) := by show _ = _; simp only [uptoQ]; have := hk.out; push_cast; omega
      have HK : Hid (∀ W, RowE t lo W (.slice a' (wrN qs j).2.length c') (mkY (m + 1) (wrN qs j).2.length) → (wr.setCell ⟨g, j * 2, none⟩ (.int .i64 m)).grownBy W (Value.slice a' (wrN qs j).2.length c').ownBlock → QuX t lo W (.slice (some ⟨g, 0, none⟩) qs.length c) vs (mkQs k qs (j + 1)) ∧ Below lo w W ∧ ButQ (.slice (some ⟨g, 0, none⟩) qs.length c :: vs) w W) := fun W RW GW => by
        have S3 := QuX.set S2 (i := j) (by rw [List.length_set, mkQs_len]; exact hlt) hv RW GW
        have gl := (S.out.lts.1 g rfl).1
        have hwl := hlo.out (by intro e; simp [e] at hlt)
        refine ⟨?_, ?_, ?_⟩
        · rw [wrN_set_same (by rw [mkQs_len]; exact hlt), List.set_set] at S3
          simp only [mkQs]
          rw [← hk.out]
          exact S3
        · have B2 := B.out.grown G2 (by have := B.out.size; omega) (fun k hk => by injection hk with hk; omega)
          refine B2.grown GW (by have := B2.size; omega) (fun k hk => ?_)
          exact (S.out.lts.2 _ (List.mem_of_getElem? hv) k hk).1
        · refine ⟨Nat.le_trans KB.out.1 (Nat.le_trans G2.size GW.size), fun b hb hu => ?_⟩
          have l1 := Nat.lt_of_lt_of_le hb KB.out.1
          refine (GW.block b (Nat.lt_of_lt_of_le l1 G2.size) (fun e => hu _ (List.mem_cons_of_mem _ (List.mem_of_getElem? hv)) e.symm)).trans ((G2.block b l1 (fun e => hu _ (List.mem_cons_self ..) (by rw [e]; rfl))).trans (KB.out.2 b hb hu))
      clear hv R S S2 G2 hrow hrl e2 e3 hc1
      generalize wrN qs j = q at *
      obtain ⟨x, ds⟩ := q
      dsimp only at hc0 hc1' R2 KN HK HR
      go_wp2_with fail
      refine (markByE a' c' (m + 1) ds _ R2.out HR.out (by omega) (by omega)).mono ?_
      rintro e w3 ⟨rfl, R3, G3⟩
      rw [mkY_len] at R3
      obtain ⟨S4, B4, K4⟩ := HK.out w3 R3 G3
      have S5 : Hid (QuX t lo w3 (.slice (some ⟨g, 0, none⟩) qs.length c) vs (mkQs k qs (j + 1))) := S4
      have B5 : Hid (Below lo w w3) := B4
      have K5 : Hid (ButQ (.slice (some ⟨g, 0, none⟩) qs.length c :: vs) w w3) := K4
      clear R3 G3 S4 B4 K4 HK hc0 hc1' R2 fz
      go_wp2
      go_roundw
      case rel => exact ⟨j + 1, _, by omega, by go_num, rfl, KN, S5, B5, K5⟩
      case measure => simp [intOf]; omega
    · obtain rfl : j = qs.length := by omega
      go_wp2
      go_ret
      exact ⟨congrArg (fun z => Ending.returned (Value.int .i64 z)) hk.out, S.out, B.out, KB.out⟩
end Go.Proofs.YtgcaemhcdpddiaaDoor
