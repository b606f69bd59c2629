/- Points in order, each once: slices.Compact on a row of a call's own. -/
import Derived.Test.YtbdpnfdpnaoicaaHulR
import Derived.Laws.StructEq
import Derived.Deep.DeepCutAuto
namespace Go.Proofs.Ytbdpnfdpnaoicaa
open Go.RowKit

/-- What is left of the first k points where one that is like the one ahead of it goes. -/
def dedN (ps : List Pn) : Nat → List Pn
  | 0 => []
  | k + 1 => if 0 < k ∧ ptN ps k = ptN ps (k - 1) then dedN ps k else dedN ps k ++ [ptN ps k]
theorem dedN_len (ps : List Pn) : ∀ k, (dedN ps k).length ≤ k
  | 0 => by simp [dedN]
  | k + 1 => by
    have := dedN_len ps k
    unfold dedN
    split
    · omega
    · simp; omega
theorem dedN_pos (ps : List Pn) : ∀ k, 0 < k → 0 < (dedN ps k).length
  | 0, h => absurd h (by omega)
  | 1, _ => by simp [dedN]
  | k + 2, _ => by
    have := dedN_pos ps (k + 1) (by omega)
    unfold dedN
    split
    · exact this
    · simp
theorem dedN_mem (ps : List Pn) : ∀ k p, p ∈ dedN ps k ↔ ∃ i, i < k ∧ p = ptN ps i
  | 0, p => by simp [dedN]
  | k + 1, p => by
    have ih := dedN_mem ps k p
    unfold dedN
    split
    · next h =>
      rw [ih]
      constructor
      · rintro ⟨i, hi, e⟩; exact ⟨i, by omega, e⟩
      · rintro ⟨i, hi, e⟩
        by_cases c : i = k
        · subst c; exact ⟨i - 1, by omega, e.trans h.2⟩
        · exact ⟨i, by omega, e⟩
    · rw [List.mem_append, ih, List.mem_singleton]
      constructor
      · rintro (⟨i, hi, e⟩ | e)
        · exact ⟨i, by omega, e⟩
        · exact ⟨k, by omega, e⟩
      · rintro ⟨i, hi, e⟩
        by_cases c : i = k
        · subst c; exact .inr e
        · exact .inl ⟨i, by omega, e⟩
theorem dedN_sorted {ps : List Pn} (hs : ps.Pairwise (fun a b => ¬ ltP b a)) : ∀ k, k ≤ ps.length → (dedN ps k).Pairwise ltP
  | 0, _ => by simp [dedN]
  | k + 1, hk => by
    have ih := dedN_sorted hs k (by omega)
    have at' : ∀ i j, i < j → j < ps.length → ¬ ltP (ptN ps j) (ptN ps i) := fun i j hij hj => by
      unfold ptN
      rw [List.getElem?_eq_getElem hj, List.getElem?_eq_getElem (by omega)]
      exact List.pairwise_iff_getElem.1 hs i j (by omega) hj hij
    unfold dedN
    split
    · exact ih
    · next h =>
      rw [List.pairwise_append]
      refine ⟨ih, List.pairwise_singleton _ _, fun a ha b hb => ?_⟩
      rw [List.mem_singleton] at hb
      subst hb
      obtain ⟨i, hi, rfl⟩ := (dedN_mem ps k a).1 ha
      rcases ltP_tri (ptN ps i) (ptN ps k) with c | c | c
      · exact c
      · exfalso
        have k0 : 0 < k := by omega
        have n1 : ptN ps k ≠ ptN ps (k - 1) := fun e => h ⟨k0, e⟩
        have s1 := at' (k - 1) k (by omega) (by omega)
        rcases Nat.lt_or_ge i (k - 1) with q | q
        · have s2 := at' i (k - 1) q (by omega)
          rcases ltP_tri (ptN ps (k - 1)) (ptN ps k) with d | d | d
          · rw [← c] at d; exact s2 d
          · exact n1 d.symm
          · exact s1 d
        · have : i = k - 1 := by omega
          subst this
          exact n1 c.symm
      · exact absurd c (at' i k hi (by omega))
theorem mem_ptN (ps : List Pn) (p : Pn) : p ∈ ps ↔ ∃ i, i < ps.length ∧ p = ptN ps i := by
  constructor
  · intro h
    obtain ⟨i, hi, rfl⟩ := List.getElem_of_mem h
    exact ⟨i, hi, by unfold ptN; rw [List.getElem?_eq_getElem hi]; rfl⟩
  · rintro ⟨i, hi, rfl⟩
    unfold ptN
    rw [List.getElem?_eq_getElem hi]
    exact List.getElem_mem hi
/-- Sorted points, each once. -/
theorem dedN_sus {ps qs : List Pn} (hp : qs.Perm ps) (hs : qs.Pairwise (fun a b => ¬ ltP b a)) : Sus ps (dedN qs qs.length) :=
  ⟨dedN_sorted hs _ (Nat.le_refl _), fun p => by rw [dedN_mem, ← mem_ptN]; exact hp.mem_iff⟩
theorem grown_of_belowG {w w' : World} {row : Option Nat} (h : Below w.heap.size w w') : w.grownBy w' row := ⟨h.os, h.tape, h.output, h.size, fun i hi _ => h.block i hi⟩
theorem dedN_take {ps : List Pn} : ∀ k, k ≤ ps.length → (∀ i, 0 < i → i < k → ptN ps i ≠ ptN ps (i - 1)) → dedN ps k = ps.take k
  | 0, _, _ => by simp [dedN]
  | k + 1, h, hn => by
    have ih := dedN_take k (by omega) (fun i h1 h2 => hn i h1 (by omega))
    unfold dedN
    rw [if_neg (fun c => hn k c.1 (by omega) c.2), ih, List.take_succ_eq_append_getElem (by omega)]
    unfold ptN
    rw [List.getElem?_eq_getElem (by omega)]
    rfl
theorem run_clear_pts {P : Program} (w : World) (t e ty : TypeId) (ht : P.underlying t = some (.slice e)) (hv : ∀ w, (zeroValue e).run P w = .ok (.agg #[.int .i64 0, .int .i64 0]) w) (b o n c : Nat) (hn : 0 < n)
    (hc : ∀ j, j < n * 2 → (w.cell? ⟨b, o + j, none⟩).isSome = true) (hf : ∀ j, j < n * 2 → w.frozen? ⟨b, o + j, none⟩ = false) :
    (Builtin.clear_ #[t] ty #[.slice (some ⟨b, o, none⟩) n c]).run P w = .ok (.tuple #[]) (w.setCells b o (List.replicate (n * 2) (.int .i64 0))) := by
  have hzc : (Builtin.zeroCells (Value.agg #[.int .i64 0, .int .i64 0]).cells n).toList = List.replicate (n * 2) (.int .i64 0) := by
    apply List.ext_getElem
    · simp [Builtin.zeroCells, Value.cells]
    · intro i h1 h2
      simp only [Builtin.zeroCells, Value.cells]
      rcases Nat.mod_two_eq_zero_or_one i with e | e <;> simp [e]
  have hst := run_storeCells_cells (P := P) b o (List.replicate (n * 2) (.int .i64 0)) 0 w (by simpa using hc) (by simpa using hf) (by intro v hv'; rw [List.eq_of_mem_replicate hv']; rfl)
  simp only [Nat.add_zero] at hst
  obtain ⟨m, rfl⟩ : ∃ m, n = m + 1 := ⟨n - 1, by omega⟩
  simp [Builtin.clear_, run_underlying ht, hv, hzc, hst]
theorem RowPt.cut {lo g n cap : Nat} {w : World} {zs : List Pn} (h : RowPt lo w (.slice (some ⟨g, 0, none⟩) n cap) zs) {m : Nat} (hm : m ≤ zs.length) : RowPt lo w (.slice (some ⟨g, 0, none⟩) m cap) (zs.take m) := by
  obtain ⟨a, c, e, _, _⟩ := h.shape
  injection e with e1 e2 e3
  subst e2
  obtain ⟨hb, ⟨cur, hh, hs⟩, hf, hx, hc⟩ := h.block
  have hl : (zs.take m).length = m := by rw [List.length_take]; omega
  have R := RowPt.of_cells (qs := zs.take m) hb hh (by omega) hx hs (fun k u hk => hc k u (by
    have e : ptC zs = ptC (zs.take m) ++ ptC (zs.drop m) := by rw [← ptC_append, List.take_append_drop]
    rw [e, List.getElem?_append_left (List.getElem?_eq_some_iff.1 hk).1]
    exact hk))
  rwa [hl] at R
theorem RowPt.spare {lo g n cap : Nat} : ∀ (vs : List Value) (o : Nat) {w : World} {zs : List Pn}, RowPt lo w (.slice (some ⟨g, 0, none⟩) n cap) zs → n * 2 ≤ o → RowPt lo (w.setCells g o vs) (.slice (some ⟨g, 0, none⟩) n cap) zs ∧ w.grownBy (w.setCells g o vs) (some g)
  | [], _, _, _, h, _ => ⟨h, grownBy_refl _ _⟩
  | v :: r, o, w, zs, h, ho => by
    obtain ⟨a, c, e, _, _⟩ := h.shape
    injection e with e1 e2 e3
    have h1 : RowPt lo (w.setCell ⟨g, o, none⟩ v) (.slice (some ⟨g, 0, none⟩) n cap) zs := by
      have := h
      unfold RowPt at this ⊢
      rw [e2] at this ⊢
      have q := (this.stored o v).1
      rwa [List.set_eq_of_length_le (by rw [ptC_len]; omega)] at q
    obtain ⟨h2, g2⟩ := RowPt.spare r (o + 1) h1 (by omega)
    exact ⟨h2, grownBy_trans (grownBy_setCell (p := ⟨g, o, none⟩) (grownBy_refl _ _) rfl v) g2⟩

/-- Half way: j points have been looked at, kk are left. -/
structure Cpt (ps : List Pn) (j kk : Nat) (zs : List Pn) : Prop where
  zl : zs.length = ps.length
  kl : kk = (dedN ps j).length
  le : kk + 1 ≤ j
  hd : ∀ i, i < kk → ptN zs i = ptN (dedN ps j) i
  tl : ∀ i, j ≤ i + 1 → i < ps.length → ptN zs i = ptN ps i
theorem Cpt.start {ps : List Pn} {k : Nat} (hk : k < ps.length) (k0 : 0 < k) (hd : dedN ps k = ps.take k) (he : ptN ps k = ptN ps (k - 1)) : Cpt ps (k + 1) k ps := by
  have e : dedN ps (k + 1) = ps.take k := by rw [dedN, if_pos ⟨k0, he⟩, hd]
  refine ⟨rfl, by rw [e, List.length_take]; omega, Nat.le_refl _, fun i hi => ?_, fun i _ _ => rfl⟩
  rw [e]
  unfold ptN
  rw [List.getElem?_take_of_lt hi]
theorem Cpt.skip {ps zs : List Pn} {j kk : Nat} (h : Cpt ps j kk zs) (he : ptN ps j = ptN ps (j - 1)) : Cpt ps (j + 1) kk zs := by
  have e : dedN ps (j + 1) = dedN ps j := by rw [dedN, if_pos ⟨by have := h.le; omega, he⟩]
  exact ⟨h.zl, by rw [e]; exact h.kl, by have := h.le; omega, fun i hi => by rw [e]; exact h.hd i hi, fun i h1 h2 => h.tl i (by omega) h2⟩
theorem Cpt.put {ps zs : List Pn} {j kk : Nat} (h : Cpt ps j kk zs) (hj : j < ps.length) (he : ¬ ptN ps j = ptN ps (j - 1)) : Cpt ps (j + 1) (kk + 1) (zs.set kk (ptN ps j)) := by
  have e : dedN ps (j + 1) = dedN ps j ++ [ptN ps j] := by rw [dedN, if_neg (fun c => he c.2)]
  have le := h.le
  have zl := h.zl
  have kl := h.kl
  refine ⟨by rw [List.length_set]; exact zl, by rw [e, List.length_append, ← kl]; rfl, by omega, fun i hi => ?_, fun i h1 h2 => ?_⟩
  · rw [e, ptN_set (by omega)]
    by_cases c : i = kk
    · subst c
      rw [if_pos rfl]
      unfold ptN
      rw [kl, List.getElem?_append_right (Nat.le_refl _)]
      simp
    · rw [if_neg c, h.hd i (by omega)]
      unfold ptN
      rw [List.getElem?_append_left (by omega)]
  · rw [ptN_set (by omega), if_neg (by omega)]
    exact h.tl i (by omega) h2
theorem Cpt.done {ps zs : List Pn} {kk : Nat} (h : Cpt ps ps.length kk zs) : zs.take kk = dedN ps ps.length := by
  have kl := h.kl
  have le := h.le
  have zl := h.zl
  refine ptN_ext (by rw [List.length_take]; omega) fun i hi => ?_
  have hi' : i < kk := by rw [List.length_take] at hi; omega
  rw [← h.hd i hi']
  unfold ptN
  rw [List.getElem?_take_of_lt hi']

set_option maxRecDepth 20000 in
set_option maxHeartbeats 4000000 in
theorem compactPts (lo g cap : Nat) (ps : List Pn) (w : World) (R : RowPt lo w (.slice (some ⟨g, 0, none⟩) ps.length cap) ps) (hl : ps.length ≤ 500) (h0 : 0 < ps.length) :
    Calls Try.prog 21 #[.slice (some ⟨g, 0, none⟩) ps.length cap] w fun e w' => ∃ v, e = .returned v ∧ v = .slice (some ⟨g, 0, none⟩) (dedN ps ps.length).length cap ∧ RowPt lo w' v (dedN ps ps.length) ∧ w.grownBy w' (some g) := by
  obtain ⟨_, _, _, _, hf, hm⟩ := R.atN (i := 0) h0
  unfold maxLen at hm
  by_cases h2 : ps.length < 2
  · have e1 : dedN ps ps.length = ps := by
      rw [dedN_take _ (Nat.le_refl _) (fun i h1 h2 => by omega), List.take_length]
    rw [e1]
    go_enter Try.func21, Try.ntmps21
    go_wp2
    go_ret
    exact ⟨_, rfl, rfl, R, grownBy_refl _ _⟩
  · have RH : Hid (RowPt lo w (.slice (some ⟨g, 0, none⟩) ps.length cap) ps) := R
    obtain ⟨N, HN⟩ : ∃ N, Hid (N = ps.length) := ⟨_, rfl⟩
    go_enter Try.func21, Try.ntmps21
    go_wp2
    go_loopw [3] (fun s3 wr => ∃ k : Nat, 0 < k ∧ k ≤ ps.length ∧ s3 = .int .i64 k ∧ Hid (∀ i, 0 < i → i < k → ptN ps i ≠ ptN ps (i - 1)) ∧ Hid (Below w.heap.size w wr)) (fun s3 _ => ps.length - (intOf s3).toNat)
    case atStart => exact ⟨1, by omega, by omega, rfl, fun i h1 h2 => by omega, Below.refl _ _⟩
    case round =>
      obtain ⟨k, k0, hk, rfl, HK, BB⟩ := hrel
      rename World => wr
      have R1 := RH.out.below BB.out
      by_cases hlt : k < ps.length
      · obtain ⟨⟨a0, a1⟩, fr, lg, _, _, _⟩ := R1.atN (i := k) hlt
        obtain ⟨⟨b0, b1⟩, _⟩ := R1.atN (i := k - 1) (by omega)
        obtain ⟨⟨p1, p2⟩, hp⟩ : ∃ p : Pn, Hid (ptN ps k = p) := ⟨_, rfl⟩
        obtain ⟨⟨q1, q2⟩, hq⟩ : ∃ p : Pn, Hid (ptN ps (k - 1) = p) := ⟨_, rfl⟩
        rw [hp.out] at a0 a1
        rw [hq.out] at b0 b1
        dsimp only at a0 a1 b0 b1
        have kk : ((k : Int) - 1) = ((k - 1 : Nat) : Int) := by omega
        clear R1
        have wk : IntKind.i64.wrap ((k - 1 : Nat) : Int) = ((k - 1 : Nat) : Int) := by rw [IntKind.wrap_i64]; omega
        have wk2 : IntKind.i64.wrap (k : Int) = (k : Int) := by rw [IntKind.wrap_i64]; omega
        have bk : ((k - 1 : Nat) : Int) < (ps.length : Int) := by omega
        have bk2 : (k : Int) < (ps.length : Int) := by omega
        go_wp2_with fail
        go_cut [25] (fun s25 wx => s25 = .bool (decide (p1 = q1 ∧ p2 = q2)) ∧ wx = wr.drew)
        case first =>
          by_cases c1 : p1 = q1
          · subst c1
            by_cases c2 : p2 = q2
            · subst c2
              go_region
              go_wp2
              go_meet
              case rel => exact ⟨by simp, rfl⟩
            · go_region
              go_wp2
              go_meet
              case rel => exact ⟨by simp [c2], rfl⟩
          · go_region
            go_wp2
            go_meet
            case rel => exact ⟨by simp [c1], rfl⟩
        case rest =>
          obtain ⟨rfl, rfl⟩ := hcut
          have RB := BB.out.drew
          clear BB a0 a1 b0 b1
          by_cases ce : p1 = q1 ∧ p2 = q2
          · have hd : decide (p1 = q1 ∧ p2 = q2) = true := decide_eq_true ce
            rw [hd]
            have C0 : Cpt ps (k + 1) k ps := Cpt.start hlt k0 (dedN_take k (by omega) HK.out) (by rw [hp.out, hq.out, ce.1, ce.2])
            have R2 := RH.out.below RB
            have G2 : w.grownBy wr.drew (some g) := grown_of_belowG RB
            clear HK hp hq kk wk bk ce hd
            generalize wr.drew = wd at *
            go_wp2
            go_loopw [3, 5] (fun s3 s5 wi => ∃ (j kk : Nat) (zs : List Pn), k < j ∧ j ≤ ps.length ∧ s5 = .int .i64 ((j - k : Nat) : Int) ∧ s3 = .int .i64 kk ∧ Hid (Cpt ps j kk zs) ∧ RowPt lo wi (.slice (some ⟨g, 0, none⟩) ps.length cap) zs ∧ w.grownBy wi (some g)) (fun _ s5 _ => ps.length - (intOf s5).toNat)
            case atStart => exact ⟨k + 1, k, ps, by omega, by omega, by congr 1; omega, rfl, C0, R2, G2⟩
            case round =>
              clear C0 R2 G2
              obtain ⟨j, kk, zs, hkj, hjn, rfl, rfl, C, R2, G2⟩ := hrel
              rename World => wi
              have zl := C.out.zl
              have le := C.out.le
              by_cases hj : j < ps.length
              · obtain ⟨⟨a0, a1⟩, fr, lg, -, -, -⟩ := R2.atN (i := j) (by omega)
                obtain ⟨⟨b0, b1⟩, -⟩ := R2.atN (i := j - 1) (by omega)
                rw [C.out.tl j (by omega) hj] at a0 a1
                rw [C.out.tl (j - 1) (by omega) (by omega)] at b0 b1
                obtain ⟨⟨p1, p2⟩, hp⟩ : ∃ p : Pn, Hid (ptN ps j = p) := ⟨_, rfl⟩
                obtain ⟨⟨q1, q2⟩, hq⟩ : ∃ p : Pn, Hid (ptN ps (j - 1) = p) := ⟨_, rfl⟩
                rw [hp.out] at a0 a1
                rw [hq.out] at b0 b1
                dsimp only at a0 a1 b0 b1
                have o1 : k * 2 + (j - k) * 2 = j * 2 := by omega
                have o2 : k * 2 + (j - 1 - k) * 2 = (j - 1) * 2 := by omega
                rw [← o1] at a0 a1
                rw [← o2] at b0 b1
                obtain ⟨⟨d0, d1⟩, -⟩ := R2.atN (i := kk) (by omega)
                have CP : Hid (¬ (p1 = q1 ∧ p2 = q2) → Cpt ps (j + 1) (kk + 1) (zs.set kk (p1, p2))) := fun ne => by
                  have := C.out.put hj (by rw [hp.out, hq.out]; intro e; injection e with e1 e2; exact ne ⟨e1, e2⟩)
                  rwa [hp.out] at this
                have CS : Hid (p1 = q1 ∧ p2 = q2 → Cpt ps (j + 1) kk zs) := fun ⟨e1, e2⟩ => C.out.skip (by rw [hp.out, hq.out, e1, e2])
                have jk1 : ((j - k : Nat) : Int) - 1 = ((j - 1 - k : Nat) : Int) := by omega
                have wj1 : IntKind.i64.wrap ((j - k : Nat) : Int) = ((j - k : Nat) : Int) := by rw [IntKind.wrap_i64]; omega
                have wj2 : IntKind.i64.wrap ((j - 1 - k : Nat) : Int) = ((j - 1 - k : Nat) : Int) := by rw [IntKind.wrap_i64]; omega
                have bj1 : ((j - k : Nat) : Int) < ((ps.length - k : Nat) : Int) := by omega
                have bj2 : ((j - 1 - k : Nat) : Int) < ((ps.length - k : Nat) : Int) := by omega
                have kkn : kk < ps.length := by omega
                have NX : Hid (((j - k : Nat) : Int) + 1 = ((j + 1 - k : Nat) : Int)) := by show _ = _; omega
                clear o1 o2 hp hq zl
                go_wp2_with fail
                go_cut [44] (fun s44 wx => s44 = .bool (!decide (p1 = q1 ∧ p2 = q2)) ∧ wx = wi.drew)
                case first =>
                  by_cases c1 : p1 = q1
                  · subst c1
                    by_cases c2 : p2 = q2
                    · subst c2
                      go_region
                      go_wp2
                      go_meet
                      case rel => exact ⟨by simp, rfl⟩
                    · go_region
                      go_wp2
                      go_meet
                      case rel => exact ⟨by simp [c2], rfl⟩
                  · go_region
                    go_wp2
                    go_meet
                    case rel => exact ⟨by simp [c1], rfl⟩
                case rest =>
                  obtain ⟨rfl, rfl⟩ := hcut
                  replace R2 := R2.below ((Below.refl _ _).drew)
                  replace G2 := grownBy_drew G2
                  replace a0 : wi.drew.cell? ⟨g, k * 2 + (j - k) * 2, none⟩ = some (.int .i64 p1) := a0
                  replace a1 : wi.drew.cell? ⟨g, k * 2 + (j - k) * 2 + 1, none⟩ = some (.int .i64 p2) := a1
                  clear b0 b1 d0 d1 fr
                  generalize wi.drew = wd2 at *
                  obtain ⟨⟨d0, d1⟩, fr, -⟩ := R2.atN (i := kk) (by have := C.out.zl; omega)
                  obtain ⟨RS, GS⟩ := R2.setAt kk p1 p2
                  have G4 := grownBy_trans G2 GS
                  by_cases ce : p1 = q1 ∧ p2 = q2
                  · have hd : decide (p1 = q1 ∧ p2 = q2) = true := decide_eq_true ce
                    rw [hd]
                    clear hd RS GS G4
                    go_wp2
                    go_roundw
                    case rel => exact ⟨j + 1, kk, zs, by omega, by omega, (by first | (rw [← NX.out]; done) | (rw [← NX.out]; go_num) | (congr 1; omega)), rfl, CS.out ce, R2, G2⟩
                    case measure => simp [intOf]; omega
                  · have hd : decide (p1 = q1 ∧ p2 = q2) = false := decide_eq_false ce
                    rw [hd]
                    clear hd R2 GS G2
                    go_wp2
                    go_roundw
                    case rel => exact ⟨j + 1, kk + 1, _, by omega, by omega, (by first | (rw [← NX.out]; done) | (rw [← NX.out]; go_num) | (congr 1; omega)), by go_num, CP.out ce, RS, G4⟩
                    case measure => simp [intOf]; omega
              · obtain rfl : j = ps.length := by omega
                have hn0 : 0 < ps.length - kk := by omega
                obtain ⟨hb9, ⟨cur9, hh9, hs9⟩, _, _, _⟩ := (show RowPt lo wi (.slice (some ⟨g, 0, none⟩) zs.length cap) zs by rw [zl]; exact R2).block
                have hcl := fun ty => run_clear_pts (P := Try.prog) wi 24 29 ty Try.underlying24 Try.zeroValue29 g (kk * 2) (ps.length - kk) (cap - kk) hn0 (fun q hq => by
                  rw [cell_of_row wi g (kk * 2 + q) cur9 _ _ hh9, Array.getElem?_eq_getElem (by omega)]
                  rfl) (fun q hq => by simp [World.frozen?, hh9])
                have RC := R2.cut (m := kk) (by omega)
                rw [C.out.done] at RC
                obtain ⟨RE, GE⟩ := RC.spare (List.replicate ((ps.length - kk) * 2) (.int .i64 0)) (kk * 2) (Nat.le_refl _)
                have G9 := grownBy_trans G2 GE
                have KL : Hid (kk = (dedN ps ps.length).length) := C.out.kl
                clear RC GE G2 R2 hh9 hs9 C
                go_wp2
                go_ret
                exact ⟨_, rfl, by rw [← KL.out]; rfl, RE, G9⟩
          · have hd : decide (p1 = q1 ∧ p2 = q2) = false := decide_eq_false ce
            rw [hd]
            have HK2 : Hid (∀ i, 0 < i → i < k + 1 → ptN ps i ≠ ptN ps (i - 1)) := by
              intro i h1 h2
              by_cases e : i = k
              · subst e
                rw [hp.out, hq.out]
                intro e
                injection e with e1 e2
                exact ce ⟨e1, e2⟩
              · exact HK.out i h1 (by omega)
            go_wp2
            go_roundw
            case rel => exact ⟨k + 1, by omega, by omega, by go_num, HK2, RB⟩
            case measure => simp [intOf]; omega
      · obtain rfl : k = ps.length := by omega
        have e1 : dedN ps ps.length = ps := by rw [dedN_take _ (Nat.le_refl _) HK.out, List.take_length]
        go_wp2
        go_ret
        refine ⟨_, rfl, ?_, ?_, grown_of_belowG BB.out⟩
        · rw [e1]; rfl
        · rw [e1]; exact R1
end Go.Proofs.Ytbdpnfdpnaoicaa
