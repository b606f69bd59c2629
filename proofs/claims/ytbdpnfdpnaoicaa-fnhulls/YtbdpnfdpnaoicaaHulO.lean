/- Points in order, each once, of the specification: l9Sorted. -/
import Derived.Test.YtbdpnfdpnaoicaaHulH
namespace Go.Proofs.Ytbdpnfdpnaoicaa
open Go.RowKit

def lessB (x y u v : Int) : Bool := decide (x < u) || (decide (x = u) && decide (y < v))
theorem lessB_iff (x y u v : Int) : lessB x y u v = true ↔ ltP (x, y) (u, v) := by simp [lessB, ltP]
set_option maxHeartbeats 1000000 in
theorem l9Less_any (x y u v : Int) (w : World) :
    Calls Try.prog 42 #[.agg #[.int .i64 x, .int .i64 y], .agg #[.int .i64 u, .int .i64 v]] w fun e w' => e = .returned (.bool (lessB x y u v)) ∧ Below w.heap.size w w' := by
  have P := Box2.new w (lo := w.heap.size) (Nat.le_refl _) (.int .i64 x) (.int .i64 y) 29
  have Q := Box2.new (w.alloc (.cells #[.int .i64 x, .int .i64 y] 29)) (lo := w.heap.size) (by simp) (.int .i64 u) (.int .i64 v) 29
  replace P := P.below (below1 _ (.cells #[.int .i64 u, .int .i64 v] 29))
  have B0 := below2 w (.cells #[.int .i64 x, .int .i64 y] 29) (.cells #[.int .i64 u, .int .i64 v] 29)
  obtain ⟨k0, k1, _, _⟩ := P
  obtain ⟨k2, k3, _, _⟩ := Q
  rw [World.size_alloc] at k2 k3
  by_cases c1 : x < u
  · have V : Hid (lessB x y u v = true) := by show _ = _; simp [lessB, c1]
    go_enter Try.func42, Try.ntmps42
    go_wp2
    go_ret
    exact ⟨by rw [V.out]; first | done | rfl, B0⟩
  · by_cases c2 : x = u
    · subst c2
      by_cases c3 : y < v
      · have V : Hid (lessB x y x v = true) := by show _ = _; simp [lessB, c3]
        go_enter Try.func42, Try.ntmps42
        go_wp2
        go_ret
        exact ⟨by rw [V.out]; first | done | rfl, B0⟩
      · have V : Hid (lessB x y x v = false) := by show _ = _; simp [lessB, c3]
        go_enter Try.func42, Try.ntmps42
        go_wp2
        go_ret
        exact ⟨by rw [V.out]; first | done | rfl, B0⟩
    · have V : Hid (lessB x y u v = false) := by show _ = _; simp [lessB, c1, c2]
      go_enter Try.func42, Try.ntmps42
      go_wp2
      go_ret
      exact ⟨by rw [V.out]; first | done | rfl, B0⟩

theorem Sus.put {ps S : List Pn} {p : Pn} {k : Nat} (h : Sus ps S) (hk : k ≤ S.length) (hd : ∀ j, k ≤ j → j < S.length → ltP p (ptN S j)) (ht : 0 < k → ltP (ptN S (k - 1)) p) : Sus (ps ++ [p]) (S.take k ++ p :: S.drop k) := by
  have at' : ∀ {j}, (hj : j < S.length) → ptN S j = S[j] := fun {j} hj => by unfold ptN; rw [List.getElem?_eq_getElem hj]; rfl
  have hD : ∀ a ∈ S.drop k, ltP p a := fun a ha => by
    obtain ⟨j, hj, rfl⟩ := List.getElem_of_mem ha
    rw [List.length_drop] at hj
    rw [List.getElem_drop, ← at' (by omega)]
    exact hd (k + j) (by omega) (by omega)
  have hT : ∀ a ∈ S.take k, ltP a p := fun a ha => by
    obtain ⟨j, hj, rfl⟩ := List.getElem_of_mem ha
    have hj' : j < k := by rw [List.length_take] at hj; omega
    rw [List.getElem_take]
    have h1 := ht (by omega)
    rw [at' (by omega)] at h1
    by_cases e : j = k - 1
    · subst e; exact h1
    · exact ltP_trans (List.pairwise_iff_getElem.1 h.1 j (k - 1) (by omega) (by omega) (by omega)) h1
  refine ⟨?_, fun q => ?_⟩
  · have hp := h.1
    rw [← List.take_append_drop k S, List.pairwise_append] at hp
    rw [List.pairwise_append, List.pairwise_cons]
    refine ⟨hp.1, ⟨hD, hp.2.1⟩, fun a ha b hb => ?_⟩
    rcases List.mem_cons.1 hb with rfl | hb
    · exact hT a ha
    · exact hp.2.2 a ha b hb
  · rw [List.mem_append, List.mem_cons, List.mem_append, List.mem_singleton, ← h.2 q]
    conv => rhs; rw [← List.take_append_drop k S, List.mem_append]
    constructor
    · rintro (a | a | a)
      · exact .inl (.inl a)
      · exact .inr a
      · exact .inl (.inr a)
    · rintro ((a | a) | a)
      · exact .inl a
      · exact .inr (.inr a)
      · exact .inr (.inl a)
theorem Sus.same {ps S : List Pn} {p : Pn} (h : Sus ps S) (hm : p ∈ S) : Sus (ps ++ [p]) S := by
  refine ⟨h.1, fun q => ?_⟩
  rw [List.mem_append, List.mem_singleton, ← h.2 q]
  constructor
  · exact .inl
  · rintro (a | rfl)
    · exact a
    · exact hm
theorem RowPt.nonnil {lo : Nat} {w : World} {v : Value} {qs : List Pn} (h : RowPt lo w v qs) (hn : 0 < qs.length) : ∃ g c, v = .slice (some ⟨g, 0, none⟩) qs.length c ∧ qs.length ≤ c ∧ c ≤ maxLen := by
  rcases h.2 with ⟨_, h0⟩ | ⟨q, cap, cur, hv, _, _, hf, hm, _⟩
  · omega
  · exact ⟨q, cap, hv, hf, hm⟩
def holeP (l : List Pn) (k : Nat) (x : Pn) : List Pn := l.take k ++ x :: l.drop k
theorem holeP_len (l : List Pn) (k : Nat) (x : Pn) : (holeP l k x).length = l.length + 1 := by
  have := congrArg List.length (List.take_append_drop k l)
  simp only [holeP, List.length_append, List.length_cons] at *
  omega
theorem holeP_end (l : List Pn) (x : Pn) : holeP l l.length x = l ++ [x] := by simp [holeP]
theorem holeP_set {l : List Pn} {k : Nat} {x y : Pn} (hk : k ≤ l.length) : (holeP l k x).set k y = holeP l k y := by
  unfold holeP
  rw [List.set_append_right _ _ (by simp; omega)]
  simp [Nat.min_eq_left hk]
theorem holeP_at {l : List Pn} {k i : Nat} {x : Pn} (hi : i < k) (hk : k ≤ l.length) : ptN (holeP l k x) i = ptN l i := by
  unfold holeP ptN
  rw [List.getElem?_append_left (by simp; omega), List.getElem?_take_of_lt hi]
theorem holeP_down {l : List Pn} {k : Nat} {x : Pn} (hk : k < l.length) : (holeP l (k + 1) x).set (k + 1) (ptN l k) = holeP l k (ptN l k) := by
  rw [holeP_set (by omega)]
  unfold holeP ptN
  have e : l.take (k + 1) = l.take k ++ [l[k]] := List.take_succ_eq_append_getElem hk
  have d : l.drop k = l[k] :: l.drop (k + 1) := List.drop_eq_getElem_cons hk
  rw [e, d, List.getElem?_eq_getElem hk, Option.getD_some, List.append_assoc]
  rfl

set_option maxRecDepth 20000 in
set_option maxHeartbeats 4000000 in
theorem l9Sorted_any (a : Option Addr) (c : Nat) (ps : List Pn) (w : World) (h : SeesP w a c ps) (hl : ps.length ≤ 500) :
    Calls Try.prog 26 #[.slice a ps.length c] w fun e w' => ∃ v, e = .returned v ∧ ∃ S : List Pn, Sus ps S ∧ S.length ≤ ps.length ∧ RowPt w.heap.size w' v S ∧ Below w.heap.size w w' := by
  have hm := h.max
  have hf := h.fits
  unfold maxLen at hm
  obtain ⟨iP, hiP, hP0, hP1, hP2⟩ := info_parts infoPt
  have R0 := RowPt.empty w (base := w.heap.size) (Nat.le_refl _)
  have B0 := below1 w (.cells #[] 29)
  go_enter Try.func26, Try.ntmps26
  go_wp2
  go_loopw [3, 4] (fun s3 s4 wr => ∃ (i : Nat) (S : List Pn), i ≤ ps.length ∧ s4 = .int .i64 i ∧ Hid (Sus (ps.take i) S) ∧ Hid (S.length ≤ i) ∧ RowPt w.heap.size wr s3 S ∧ Below w.heap.size w wr) (fun _ s4 _ => ps.length - (intOf s4).toNat)
  case atStart => exact ⟨0, [], Nat.zero_le _, rfl, Sus.nil, Nat.le_refl _, R0, B0⟩
  case round =>
    clear R0 B0
    obtain ⟨i, S, hi, rfl, SU, SLN, R, B⟩ := hrel
    rename World => wr
    by_cases hlt : i < ps.length
    · obtain ⟨⟨p1, p2⟩, hp⟩ : ∃ p : Pn, Hid (ptN ps i = p) := ⟨_, rfl⟩
      have TK : Hid (ps.take (i + 1) = ps.take i ++ [(p1, p2)]) := by show _ = _; rw [List.take_succ_eq_append_getElem hlt, ← hp.out]; unfold ptN; rw [List.getElem?_eq_getElem hlt]; rfl
      obtain ⟨bA, oA, rfl, y0, y1⟩ := (h.below B).at0 hlt hp.out
      obtain ⟨g3, c3, e3, hc3, hm3⟩ := R.shape
      subst e3
      unfold maxLen at hm3
      have SL := SLN.out
      have RH : Hid (RowPt w.heap.size wr (.slice g3 S.length c3) S) := R
      have wix : IntKind.i64.wrap (i : Int) = (i : Int) := by rw [IntKind.wrap_i64]; omega
      have bix : (i : Int) < (ps.length : Int) := by omega
      have B2 : Hid (Below w.heap.size w wr) := B
      clear R B y0 y1
      generalize hn : S.length = n at *
      go_wp2
      go_loopw [5] (fun s5 wi => ∃ k : Nat, k ≤ n ∧ s5 = .int .i64 k ∧ Hid (∀ j, k ≤ j → j < n → ltP (p1, p2) (ptN S j)) ∧ Below wr.heap.size wr wi) (fun s5 _ => (intOf s5).toNat)
      case atStart => exact ⟨n, Nat.le_refl _, rfl, fun j h1 h2 => by omega, Below.refl _ _⟩
      case round =>
        obtain ⟨k, hk, rfl, GT, BI⟩ := hrel
        rename World => wi
        have RI := RH.out.below BI
        have SPI := (h.below B2.out).below BI
        obtain ⟨bB, oB, eB, x0, x1⟩ := SPI.at0 hlt hp.out
        obtain ⟨rfl, rfl⟩ : bA = bB ∧ oA = oB := by simpa using eB
        clear eB
        rcases Nat.eq_zero_or_pos k with rfl | k0
        · have FIN : Hid (∀ v7 : List Pn, v7 = holeP S 0 (p1, p2) → Sus (ps.take (i + 1)) v7) := fun v7 e => by rw [e, TK.out]; exact SU.out.put (Nat.zero_le _) (fun j h1 h2 => GT.out j h1 (by omega)) (fun h => absurd h (by omega))
          · have kz : ((0 : Nat) : Int) = 0 := rfl
            go_upto_region 6 with fail
            refine wp_region_held_drew (S := Below wi.heap.size wi) (by kernel_rfl) ((Below.refl _ _).drew) (fun hHeld => ?_)
            have N : Below wi.heap.size wi wi.drew := hHeld
            revert hHeld N
            generalize wi.drew = ww0
            intro hHeld N
            refine takeQ (i := 0) (gt rfl) (by kernel_rfl) (fun _ _ _ h => h) (by rfl) (by intro wq _; go_simp <;> with_reducible rfl) (by assumption) ?_
            try simp only [Act.put, sA, sB, sC]
            refine takeQ (i := 1) (gt rfl) (by kernel_rfl) (fun _ _ _ h => h) (by rfl) (by intro wq _; go_simp <;> with_reducible rfl) (by assumption) ?_
            try simp only [Act.put, sA, sB, sC]
            refine takeQ (i := 2) (gt rfl) (by kernel_rfl) (fun _ _ _ h => h) (by rfl) (by intro wq _; go_simp <;> with_reducible rfl) (by assumption) ?_
            try simp only [Act.put, sA, sB, sC]
            refine takeN (i := 3) (gt rfl) (by kernel_rfl) (by kernel_rfl) (by kernel_rfl) (by exact fun _ _ _ h => h) (by rfl) (by assumption) ?_
            try simp only [Act.put, sA, sB, sC]
            refine takeN (i := 4) (gt rfl) (by kernel_rfl) (by kernel_rfl) (by kernel_rfl) (by exact fun _ _ _ h => h) (by rfl) (by assumption) ?_
            try simp only [Act.put, sA, sB, sC]
            refine takeN (i := 5) (gt rfl) (by kernel_rfl) (by kernel_rfl) (by kernel_rfl) (by exact fun _ _ _ h => h) (by rfl) (by assumption) ?_
            try simp only [Act.put, sA, sB, sC]
            refine takeN (i := 6) (gt rfl) (by kernel_rfl) (by kernel_rfl) (by kernel_rfl) (by exact fun _ _ _ h => h) (by rfl) (by assumption) ?_
            try simp only [Act.put, sA, sB, sC]
            refine takeN (i := 7) (gt rfl) (by kernel_rfl) (by kernel_rfl) (by kernel_rfl) (by exact fun _ _ _ h => h) (by rfl) (by assumption) ?_
            try simp only [Act.put, sA, sB, sC]
            refine takeN (i := 8) (gt rfl) (by kernel_rfl) (by kernel_rfl) (by kernel_rfl) (by exact fun _ _ _ h => h) (by rfl) (by assumption) ?_
            try simp only [Act.put, sA, sB, sC]
            refine takeN (i := 9) (gt rfl) (by kernel_rfl) (by kernel_rfl) (by kernel_rfl) (by exact fun _ _ _ h => h) (by rfl) (by assumption) ?_
            try simp only [Act.put, sA, sB, sC]
            refine takeN (i := 10) (gt rfl) (by kernel_rfl) (by kernel_rfl) (by kernel_rfl) (by exact fun _ _ _ h => h) (by rfl) (by assumption) ?_
            try simp only [Act.put, sA, sB, sC]
            refine takeN (i := 11) (gt rfl) (by kernel_rfl) (by kernel_rfl) (by kernel_rfl) (by exact fun _ _ _ h => h) (by rfl) (by assumption) ?_
            try simp only [Act.put, sA, sB, sC]
            refine takeN (i := 12) (gt rfl) (by kernel_rfl) (by kernel_rfl) (by kernel_rfl) (by exact fun _ _ _ h => h) (by rfl) (by assumption) ?_
            try simp only [Act.put, sA, sB, sC]
            refine takeQ (i := 13) (gt rfl) (by kernel_rfl) (fun _ _ _ h => h) (by rfl) (by intro wq _; go_simp <;> with_reducible rfl) (by assumption) ?_
            try simp only [Act.put, sA, sB, sC]
            refine wpAnyH_done (by kernel_rfl) ?_ _
            replace BI := BI.trans (N.mono BI.size)
            clear N RI SPI x0 x1
            generalize ww0 = wj at *
            go_upto_region 8 with fail
            refine wp_region_held_drew (S := Below wj.heap.size wj) (by kernel_rfl) ((Below.refl _ _).drew) (fun hHeld => ?_)
            have N : Below wj.heap.size wj wj.drew := hHeld
            revert hHeld N
            generalize wj.drew = ww0
            intro hHeld N
            refine takeQ (i := 0) (gt rfl) (by kernel_rfl) (fun _ _ _ h => h) (by rfl) (by intro wq _; go_simp <;> with_reducible rfl) (by assumption) ?_
            try simp only [Act.put, sA, sB, sC]
            refine takeQ (i := 1) (gt rfl) (by kernel_rfl) (fun _ _ _ h => h) (by rfl) (by intro wq _; go_simp <;> with_reducible rfl) (by assumption) ?_
            try simp only [Act.put, sA, sB, sC]
            refine takeQ (i := 2) (gt rfl) (by kernel_rfl) (fun _ _ _ h => h) (by rfl) (by intro wq _; go_simp <;> with_reducible rfl) (by assumption) ?_
            try simp only [Act.put, sA, sB, sC]
            refine takeN (i := 3) (gt rfl) (by kernel_rfl) (by kernel_rfl) (by kernel_rfl) (by exact fun _ _ _ h => h) (by rfl) (by assumption) ?_
            try simp only [Act.put, sA, sB, sC]
            refine takeN (i := 4) (gt rfl) (by kernel_rfl) (by kernel_rfl) (by kernel_rfl) (by exact fun _ _ _ h => h) (by rfl) (by assumption) ?_
            try simp only [Act.put, sA, sB, sC]
            refine takeN (i := 5) (gt rfl) (by kernel_rfl) (by kernel_rfl) (by kernel_rfl) (by exact fun _ _ _ h => h) (by rfl) (by assumption) ?_
            try simp only [Act.put, sA, sB, sC]
            refine takeN (i := 6) (gt rfl) (by kernel_rfl) (by kernel_rfl) (by kernel_rfl) (by exact fun _ _ _ h => h) (by rfl) (by assumption) ?_
            try simp only [Act.put, sA, sB, sC]
            refine takeN (i := 7) (gt rfl) (by kernel_rfl) (by kernel_rfl) (by kernel_rfl) (by exact fun _ _ _ h => h) (by rfl) (by assumption) ?_
            try simp only [Act.put, sA, sB, sC]
            refine takeN (i := 8) (gt rfl) (by kernel_rfl) (by kernel_rfl) (by kernel_rfl) (by exact fun _ _ _ h => h) (by rfl) (by assumption) ?_
            try simp only [Act.put, sA, sB, sC]
            refine takeN (i := 9) (gt rfl) (by kernel_rfl) (by kernel_rfl) (by kernel_rfl) (by exact fun _ _ _ h => h) (by rfl) (by assumption) ?_
            try simp only [Act.put, sA, sB, sC]
            refine takeN (i := 10) (gt rfl) (by kernel_rfl) (by kernel_rfl) (by kernel_rfl) (by exact fun _ _ _ h => h) (by rfl) (by assumption) ?_
            try simp only [Act.put, sA, sB, sC]
            refine takeN (i := 11) (gt rfl) (by kernel_rfl) (by kernel_rfl) (by kernel_rfl) (by exact fun _ _ _ h => h) (by rfl) (by assumption) ?_
            try simp only [Act.put, sA, sB, sC]
            refine takeN (i := 12) (gt rfl) (by kernel_rfl) (by kernel_rfl) (by kernel_rfl) (by exact fun _ _ _ h => h) (by rfl) (by assumption) ?_
            try simp only [Act.put, sA, sB, sC]
            refine takeQ (i := 13) (gt rfl) (by kernel_rfl) (fun _ _ _ h => h) (by rfl) (by intro wq _; go_simp <;> with_reducible rfl) (by assumption) ?_
            try simp only [Act.put, sA, sB, sC]
            refine wpAnyH_done (by kernel_rfl) ?_ _
            replace BI := BI.trans (N.mono BI.size)
            clear N
            have BW : Below w.heap.size w ww0 := B2.out.trans (BI.mono B2.out.size)
            have RW := RH.out.below BI
            have SPW := h.below BW
            obtain ⟨bB, oB, eB, x0, x1⟩ := SPW.at0 hlt hp.out
            obtain ⟨rfl, rfl⟩ : bA = bB ∧ oA = oB := by simpa using eB
            clear eB
            have hb := below1 ww0 (.cells #[.int .i64 p1, .int .i64 p2] 29)
            have NW := pt_new ww0 29 p1 p2
            have RA := RW.below hb
            have BA := BW.trans (hb.mono BW.size)
            have za := BA.size
            have RA' : RowPt w.heap.size (ww0.alloc (.cells #[.int .i64 p1, .int .i64 p2] 29)) (.slice g3 n c3) S := RA
            clear hb RA
            have L7 : (S ++ [(p1, p2)]).length = n + 1 := by rw [List.length_append, hn]; rfl
            go_wp2_with (at_builtin; refine wpList_append_own _ rfl (.tmp 46) (.tmp 51) 24 rfl w.heap.size 29 iP (.agg #[.int .i64 0, .int .i64 0]) 2 16 Try.underlying24 hiP hP0 hP1 hP2 rfl (by decide) (.slice g3 n c3) S.length (ptC S) rfl RA' ⟨ww0.heap.size, 0, none⟩ 1 _ (ptC [(p1, p2)]) rfl rfl NW (ptC_ones _) (by unfold maxLen; omega) (by omega) za ?_; intro v7 w7 R7 G7 _; replace R7 := RowPt.snoc R7; obtain ⟨g8, c7, e7, hc7, hm7⟩ := R7.nonnil (by simp); subst e7; rw [L7] at R7 hc7 ⊢)
            have B7 := BA.grown G7 za (fun k hk => (World.ownsRow.lt RA' k hk).1)
            clear G7 RA' BA za NW SPW BW RW x0 x1
            unfold maxLen at hm7
            rw [← holeP_end S (p1, p2), hn] at R7
            clear L7
            go_wp2
            go_loopw [6] (fun s6 wi => ∃ (m : Nat) (x : Pn), 0 ≤ m ∧ m ≤ n ∧ s6 = .int .i64 m ∧ RowPt w.heap.size wi (.slice (some ⟨g8, 0, none⟩) (n + 1) c7) (holeP S m x) ∧ Below w.heap.size w wi) (fun s6 _ => (intOf s6).toNat)
            case atStart => exact ⟨n, (p1, p2), by omega, Nat.le_refl _, by first | rfl | go_num, R7, B7⟩
            case round =>
              clear R7 B7
              obtain ⟨m, x, km, mn, rfl, RM, BM⟩ := hrel
              rename World => wm
              by_cases hmk : 0 < m
              · obtain ⟨m', rfl⟩ : ∃ m', m = m' + 1 := ⟨m - 1, by omega⟩
                obtain ⟨⟨r0, r1⟩, fr, -⟩ := RM.atN (i := m') (by rw [holeP_len]; omega)
                obtain ⟨⟨d0, d1⟩, -⟩ := RM.atN (i := m' + 1) (by rw [holeP_len]; omega)
                rw [holeP_at (by omega) (by omega)] at r0 r1
                obtain ⟨RS, GS⟩ := RM.setAt (m' + 1) (ptN S m').1 (ptN S m').2
                rw [show (holeP S (m' + 1) x).set (m' + 1) ((ptN S m').1, (ptN S m').2) = holeP S m' (ptN S m') from holeP_down (by omega)] at RS
                have g9 := (World.ownsRow.lt RM g8 rfl).1
                have BS := BM.grown GS BM.size (fun k hk => by injection hk with hk; omega)
                obtain ⟨⟨z1, z2⟩, hz⟩ : ∃ z : Pn, Hid (ptN S m' = z) := ⟨_, rfl⟩
                rw [hz.out] at r0 r1 RS BS
                dsimp only at r0 r1 RS BS
                have n1 : ((m' + 1 : Nat) : Int) - 1 = (m' : Int) := by omega
                clear RM BM GS
                go_wp2
                go_roundw
                case rel => exact ⟨m', (z1, z2), by omega, by omega, by first | rfl | go_num, RS, BS⟩
                case measure => simp [intOf] <;> omega
              · obtain rfl : 0 = m := by omega
                obtain ⟨⟨d0, d1⟩, fr, -⟩ := RM.atN (i := 0) (by rw [holeP_len]; omega)
                obtain ⟨RS, GS⟩ := RM.setAt 0 p1 p2
                rw [holeP_set (by omega)] at RS
                have g9 := (World.ownsRow.lt RM g8 rfl).1
                have BS := BM.grown GS BM.size (fun k hk => by injection hk with hk; omega)
                have SPM := h.below BM
                obtain ⟨bB, oB, eB, x0, x1⟩ := SPM.at0 hlt hp.out
                obtain ⟨rfl, rfl⟩ : bA = bB ∧ oA = oB := by simpa using eB
                clear eB RM BM GS SPM
                go_wp2
                go_roundw
                case rel => exact ⟨i + 1, holeP S 0 (p1, p2), by omega, by go_num, FIN.out _ rfl, (by show _ ≤ _; rw [holeP_len]; omega), RS, BS⟩
                case measure => simp [intOf] <;> omega
        · obtain ⟨g, rfl⟩ : ∃ g, g3 = some ⟨g, 0, none⟩ := by
            rcases RI.2 with ⟨hv, h0⟩ | ⟨q, cap', cur, hv, _⟩
            · omega
            · injection hv with h1 _ _
              exact ⟨q, h1⟩
          obtain ⟨⟨r0, r1⟩, -⟩ := RI.atN (i := k - 1) (by omega)
          obtain ⟨⟨q1, q2⟩, hq⟩ : ∃ p : Pn, Hid (ptN S (k - 1) = p) := ⟨_, rfl⟩
          rw [hq.out] at r0 r1
          dsimp only at r0 r1
          have n1 : (k : Int) - 1 = ((k - 1 : Nat) : Int) := by omega
          have wn1 : IntKind.i64.wrap ((k - 1 : Nat) : Int) = ((k - 1 : Nat) : Int) := by rw [IntKind.wrap_i64]; omega
          have bn1 : ((k - 1 : Nat) : Int) < (n : Int) := by omega
          have gt1 : (0 : Int) < (k : Int) := by omega
          · · go_upto_region 6 with fail
              refine wp_region_held_drew (S := Below wi.heap.size wi) (by kernel_rfl) ((Below.refl _ _).drew) (fun hHeld => ?_)
              have N : Below wi.heap.size wi wi.drew := hHeld
              revert hHeld N
              generalize wi.drew = ww0
              intro hHeld N
              refine takeQ (i := 0) (gt rfl) (by kernel_rfl) (fun _ _ _ h => h) (by rfl) (by intro wq _; go_simp <;> with_reducible rfl) (by assumption) ?_
              try simp only [Act.put, sA, sB, sC]
              refine takeQ (i := 1) (gt rfl) (by kernel_rfl) (fun _ _ _ h => h) (by rfl) (by intro wq _; go_simp <;> with_reducible rfl) (by assumption) ?_
              try simp only [Act.put, sA, sB, sC]
              refine takeQ (i := 2) (gt rfl) (by kernel_rfl) (fun _ _ _ h => h) (by rfl) (by intro wq _; go_simp <;> with_reducible rfl) (by assumption) ?_
              try simp only [Act.put, sA, sB, sC]
              refine takeQ (i := 3) (gt rfl) (by kernel_rfl) (fun _ _ _ h => h) (by rfl) (by intro wq _; go_simp <;> with_reducible rfl) (by assumption) ?_
              try simp only [Act.put, sA, sB, sC]
              refine takeQ (i := 4) (gt rfl) (by kernel_rfl) (fun _ _ _ h => h) (by rfl) (by intro wq _; go_simp <;> with_reducible rfl) (by assumption) ?_
              try simp only [Act.put, sA, sB, sC]
              refine takeQ (i := 5) (gt rfl) (by kernel_rfl) (fun _ _ _ h => h) (by rfl) (by intro wq _; go_simp <;> with_reducible rfl) (by assumption) ?_
              try simp only [Act.put, sA, sB, sC]
              refine takeQ (i := 6) (gt rfl) (by kernel_rfl) (fun _ _ _ h => h) (by rfl) (by intro wq hSw; have q0 := bat hSw x0; have q1 := bat hSw x1; have q2 := bat hSw r0; have q3 := bat hSw r1; go_simp <;> with_reducible rfl) (by assumption) ?_
              try simp only [Act.put, sA, sB, sC]
              refine takeQ (i := 7) (gt rfl) (by kernel_rfl) (fun _ _ _ h => h) (by rfl) (by intro wq _; go_simp <;> with_reducible rfl) (by assumption) ?_
              try simp only [Act.put, sA, sB, sC]
              refine takeQ (i := 8) (gt rfl) (by kernel_rfl) (fun _ _ _ h => h) (by rfl) (by intro wq _; go_simp <;> with_reducible rfl) (by assumption) ?_
              try simp only [Act.put, sA, sB, sC]
              refine takeQ (i := 9) (gt rfl) (by kernel_rfl) (fun _ _ _ h => h) (by rfl) (by intro wq _; go_simp <;> with_reducible rfl) (by assumption) ?_
              try simp only [Act.put, sA, sB, sC]
              refine takeQ (i := 10) (gt rfl) (by kernel_rfl) (fun _ _ _ h => h) (by rfl) (by intro wq _; go_simp <;> with_reducible rfl) (by assumption) ?_
              try simp only [Act.put, sA, sB, sC]
              refine takeQ (i := 11) (gt rfl) (by kernel_rfl) (fun _ _ _ h => h) (by rfl) (by intro wq hSw; have q0 := bat hSw x0; have q1 := bat hSw x1; have q2 := bat hSw r0; have q3 := bat hSw r1; go_simp <;> with_reducible rfl) (by assumption) ?_
              try simp only [Act.put, sA, sB, sC]
              refine wpAnyH_ready (rs := [12]) (by kernel_rfl) (by simp) (AllReadyH.cons (gt rfl) (fun K hK => ?_) AllReadyH.nil)
              go_simp
              refine (l9Less_any p1 p2 q1 q2 _).mono ?_
              rintro e1 ww1 ⟨rfl, hb⟩
              replace N := N.trans (hb.mono N.size)
              clear hb
              refine hK.out _ _ N (fun hHeld => ?_)
              clear hK K
              try simp only [Act.put, sA, sB, sC]
              refine takeQ (i := 13) (gt rfl) (by kernel_rfl) (fun _ _ _ h => h) (by rfl) (by intro wq _; go_simp <;> with_reducible rfl) (by assumption) ?_
              try simp only [Act.put, sA, sB, sC]
              refine wpAnyH_done (by kernel_rfl) ?_ _
              replace BI := BI.trans (N.mono BI.size)
              replace r0 := bat N r0
              replace r1 := bat N r1
              replace x0 := bat N x0
              replace x1 := bat N x1
              clear N RI SPI
              cases hb9 : lessB p1 p2 q1 q2
              · have NL : Hid (¬ ltP (p1, p2) (q1, q2)) := by intro t; rw [(lessB_iff ..).2 t] at hb9; cases hb9
                clear hb9
                generalize ww1 = wj at *
                go_upto_region 8 with fail
                go_cut [45] (fun s45 wx => s45 = .bool (decide (q1 = p1 ∧ q2 = p2)) ∧ Below wj.heap.size wj wx)
                case first =>
                  by_cases c1 : q1 = p1
                  · subst c1
                    by_cases c2 : q2 = p2
                    · subst c2
                      refine wp_region_held_drew (S := Below wj.heap.size wj) (by kernel_rfl) ((Below.refl _ _).drew) (fun hHeld => ?_)
                      have N : Below wj.heap.size wj wj.drew := hHeld
                      revert hHeld N
                      generalize wj.drew = ww0
                      intro hHeld N
                      refine takeQ (i := 0) (gt rfl) (by kernel_rfl) (fun _ _ _ h => h) (by rfl) (by intro wq _; go_simp <;> with_reducible rfl) (by assumption) ?_
                      try simp only [Act.put, sA, sB, sC]
                      refine takeQ (i := 1) (gt rfl) (by kernel_rfl) (fun _ _ _ h => h) (by rfl) (by intro wq _; go_simp <;> with_reducible rfl) (by assumption) ?_
                      try simp only [Act.put, sA, sB, sC]
                      refine takeQ (i := 2) (gt rfl) (by kernel_rfl) (fun _ _ _ h => h) (by rfl) (by intro wq _; go_simp <;> with_reducible rfl) (by assumption) ?_
                      try simp only [Act.put, sA, sB, sC]
                      refine takeQ (i := 3) (gt rfl) (by kernel_rfl) (fun _ _ _ h => h) (by rfl) (by intro wq _; go_simp <;> with_reducible rfl) (by assumption) ?_
                      try simp only [Act.put, sA, sB, sC]
                      refine takeQ (i := 4) (gt rfl) (by kernel_rfl) (fun _ _ _ h => h) (by rfl) (by intro wq _; go_simp <;> with_reducible rfl) (by assumption) ?_
                      try simp only [Act.put, sA, sB, sC]
                      refine takeQ (i := 5) (gt rfl) (by kernel_rfl) (fun _ _ _ h => h) (by rfl) (by intro wq _; go_simp <;> with_reducible rfl) (by assumption) ?_
                      try simp only [Act.put, sA, sB, sC]
                      refine takeQ (i := 6) (gt rfl) (by kernel_rfl) (fun _ _ _ h => h) (by rfl) (by intro wq _; go_simp <;> with_reducible rfl) (by assumption) ?_
                      try simp only [Act.put, sA, sB, sC]
                      refine takeQ (i := 7) (gt rfl) (by kernel_rfl) (fun _ _ _ h => h) (by rfl) (by intro wq hSw; have q0 := bat hSw r0; have q1 := bat hSw r1; have q2 := bat hSw x0; have q3 := bat hSw x1; go_simp <;> with_reducible rfl) (by assumption) ?_
                      try simp only [Act.put, sA, sB, sC]
                      refine takeQ (i := 8) (gt rfl) (by kernel_rfl) (fun _ _ _ h => h) (by rfl) (by intro wq _; go_simp <;> with_reducible rfl) (by assumption) ?_
                      try simp only [Act.put, sA, sB, sC]
                      refine takeQ (i := 9) (gt rfl) (by kernel_rfl) (fun _ _ _ h => h) (by rfl) (by intro wq _; go_simp <;> with_reducible rfl) (by assumption) ?_
                      try simp only [Act.put, sA, sB, sC]
                      refine takeQ (i := 10) (gt rfl) (by kernel_rfl) (fun _ _ _ h => h) (by rfl) (by intro wq _; go_simp <;> with_reducible rfl) (by assumption) ?_
                      try simp only [Act.put, sA, sB, sC]
                      refine takeQ (i := 11) (gt rfl) (by kernel_rfl) (fun _ _ _ h => h) (by rfl) (by intro wq hSw; have q0 := bat hSw r0; have q1 := bat hSw r1; have q2 := bat hSw x0; have q3 := bat hSw x1; go_simp <;> with_reducible rfl) (by assumption) ?_
                      try simp only [Act.put, sA, sB, sC]
                      refine takeQ (i := 12) (gt rfl) (by kernel_rfl) (fun _ _ _ h => h) (by rfl) (by intro wq _; go_simp <;> with_reducible rfl) (by assumption) ?_
                      try simp only [Act.put, sA, sB, sC]
                      refine takeQ (i := 13) (gt rfl) (by kernel_rfl) (fun _ _ _ h => h) (by rfl) (by intro wq _; go_simp <;> with_reducible rfl) (by assumption) ?_
                      try simp only [Act.put, sA, sB, sC]
                      refine wpAnyH_done (by kernel_rfl) ?_ _
                      go_wp2
                      go_meet
                      case rel => exact ⟨by simp, N⟩
                    · have c2' : (q2 == p2) = false := by simpa using c2
                      refine wp_region_held_drew (S := Below wj.heap.size wj) (by kernel_rfl) ((Below.refl _ _).drew) (fun hHeld => ?_)
                      have N : Below wj.heap.size wj wj.drew := hHeld
                      revert hHeld N
                      generalize wj.drew = ww0
                      intro hHeld N
                      refine takeQ (i := 0) (gt rfl) (by kernel_rfl) (fun _ _ _ h => h) (by rfl) (by intro wq _; go_simp <;> with_reducible rfl) (by assumption) ?_
                      try simp only [Act.put, sA, sB, sC]
                      refine takeQ (i := 1) (gt rfl) (by kernel_rfl) (fun _ _ _ h => h) (by rfl) (by intro wq _; go_simp <;> with_reducible rfl) (by assumption) ?_
                      try simp only [Act.put, sA, sB, sC]
                      refine takeQ (i := 2) (gt rfl) (by kernel_rfl) (fun _ _ _ h => h) (by rfl) (by intro wq _; go_simp <;> with_reducible rfl) (by assumption) ?_
                      try simp only [Act.put, sA, sB, sC]
                      refine takeQ (i := 3) (gt rfl) (by kernel_rfl) (fun _ _ _ h => h) (by rfl) (by intro wq _; go_simp <;> with_reducible rfl) (by assumption) ?_
                      try simp only [Act.put, sA, sB, sC]
                      refine takeQ (i := 4) (gt rfl) (by kernel_rfl) (fun _ _ _ h => h) (by rfl) (by intro wq _; go_simp <;> with_reducible rfl) (by assumption) ?_
                      try simp only [Act.put, sA, sB, sC]
                      refine takeQ (i := 5) (gt rfl) (by kernel_rfl) (fun _ _ _ h => h) (by rfl) (by intro wq _; go_simp <;> with_reducible rfl) (by assumption) ?_
                      try simp only [Act.put, sA, sB, sC]
                      refine takeQ (i := 6) (gt rfl) (by kernel_rfl) (fun _ _ _ h => h) (by rfl) (by intro wq _; go_simp <;> with_reducible rfl) (by assumption) ?_
                      try simp only [Act.put, sA, sB, sC]
                      refine takeQ (i := 7) (gt rfl) (by kernel_rfl) (fun _ _ _ h => h) (by rfl) (by intro wq hSw; have q0 := bat hSw r0; have q1 := bat hSw r1; have q2 := bat hSw x0; have q3 := bat hSw x1; go_simp <;> with_reducible rfl) (by assumption) ?_
                      try simp only [Act.put, sA, sB, sC]
                      refine takeQ (i := 8) (gt rfl) (by kernel_rfl) (fun _ _ _ h => h) (by rfl) (by intro wq _; go_simp <;> with_reducible rfl) (by assumption) ?_
                      try simp only [Act.put, sA, sB, sC]
                      refine takeQ (i := 9) (gt rfl) (by kernel_rfl) (fun _ _ _ h => h) (by rfl) (by intro wq _; go_simp <;> with_reducible rfl) (by assumption) ?_
                      try simp only [Act.put, sA, sB, sC]
                      refine takeQ (i := 10) (gt rfl) (by kernel_rfl) (fun _ _ _ h => h) (by rfl) (by intro wq _; go_simp <;> with_reducible rfl) (by assumption) ?_
                      try simp only [Act.put, sA, sB, sC]
                      refine takeQ (i := 11) (gt rfl) (by kernel_rfl) (fun _ _ _ h => h) (by rfl) (by intro wq hSw; have q0 := bat hSw r0; have q1 := bat hSw r1; have q2 := bat hSw x0; have q3 := bat hSw x1; go_simp <;> with_reducible rfl) (by assumption) ?_
                      try simp only [Act.put, sA, sB, sC]
                      refine takeQ (i := 12) (gt rfl) (by kernel_rfl) (fun _ _ _ h => h) (by rfl) (by intro wq _; go_simp <;> with_reducible rfl) (by assumption) ?_
                      try simp only [Act.put, sA, sB, sC]
                      refine takeQ (i := 13) (gt rfl) (by kernel_rfl) (fun _ _ _ h => h) (by rfl) (by intro wq _; go_simp <;> with_reducible rfl) (by assumption) ?_
                      try simp only [Act.put, sA, sB, sC]
                      refine wpAnyH_done (by kernel_rfl) ?_ _
                      go_wp2
                      go_meet
                      case rel => exact ⟨by simp [c2], N⟩
                  · have c1' : (q1 == p1) = false := by simpa using c1
                    refine wp_region_held_drew (S := Below wj.heap.size wj) (by kernel_rfl) ((Below.refl _ _).drew) (fun hHeld => ?_)
                    have N : Below wj.heap.size wj wj.drew := hHeld
                    revert hHeld N
                    generalize wj.drew = ww0
                    intro hHeld N
                    refine takeQ (i := 0) (gt rfl) (by kernel_rfl) (fun _ _ _ h => h) (by rfl) (by intro wq _; go_simp <;> with_reducible rfl) (by assumption) ?_
                    try simp only [Act.put, sA, sB, sC]
                    refine takeQ (i := 1) (gt rfl) (by kernel_rfl) (fun _ _ _ h => h) (by rfl) (by intro wq _; go_simp <;> with_reducible rfl) (by assumption) ?_
                    try simp only [Act.put, sA, sB, sC]
                    refine takeQ (i := 2) (gt rfl) (by kernel_rfl) (fun _ _ _ h => h) (by rfl) (by intro wq _; go_simp <;> with_reducible rfl) (by assumption) ?_
                    try simp only [Act.put, sA, sB, sC]
                    refine takeQ (i := 3) (gt rfl) (by kernel_rfl) (fun _ _ _ h => h) (by rfl) (by intro wq _; go_simp <;> with_reducible rfl) (by assumption) ?_
                    try simp only [Act.put, sA, sB, sC]
                    refine takeQ (i := 4) (gt rfl) (by kernel_rfl) (fun _ _ _ h => h) (by rfl) (by intro wq _; go_simp <;> with_reducible rfl) (by assumption) ?_
                    try simp only [Act.put, sA, sB, sC]
                    refine takeQ (i := 5) (gt rfl) (by kernel_rfl) (fun _ _ _ h => h) (by rfl) (by intro wq _; go_simp <;> with_reducible rfl) (by assumption) ?_
                    try simp only [Act.put, sA, sB, sC]
                    refine takeQ (i := 6) (gt rfl) (by kernel_rfl) (fun _ _ _ h => h) (by rfl) (by intro wq _; go_simp <;> with_reducible rfl) (by assumption) ?_
                    try simp only [Act.put, sA, sB, sC]
                    refine takeQ (i := 7) (gt rfl) (by kernel_rfl) (fun _ _ _ h => h) (by rfl) (by intro wq hSw; have q0 := bat hSw r0; have q1 := bat hSw r1; have q2 := bat hSw x0; have q3 := bat hSw x1; go_simp <;> with_reducible rfl) (by assumption) ?_
                    try simp only [Act.put, sA, sB, sC]
                    refine takeQ (i := 8) (gt rfl) (by kernel_rfl) (fun _ _ _ h => h) (by rfl) (by intro wq _; go_simp <;> with_reducible rfl) (by assumption) ?_
                    try simp only [Act.put, sA, sB, sC]
                    refine takeQ (i := 9) (gt rfl) (by kernel_rfl) (fun _ _ _ h => h) (by rfl) (by intro wq _; go_simp <;> with_reducible rfl) (by assumption) ?_
                    try simp only [Act.put, sA, sB, sC]
                    refine takeQ (i := 10) (gt rfl) (by kernel_rfl) (fun _ _ _ h => h) (by rfl) (by intro wq _; go_simp <;> with_reducible rfl) (by assumption) ?_
                    try simp only [Act.put, sA, sB, sC]
                    refine takeQ (i := 11) (gt rfl) (by kernel_rfl) (fun _ _ _ h => h) (by rfl) (by intro wq hSw; have q0 := bat hSw r0; have q1 := bat hSw r1; have q2 := bat hSw x0; have q3 := bat hSw x1; go_simp <;> with_reducible rfl) (by assumption) ?_
                    try simp only [Act.put, sA, sB, sC]
                    refine takeQ (i := 12) (gt rfl) (by kernel_rfl) (fun _ _ _ h => h) (by rfl) (by intro wq _; go_simp <;> with_reducible rfl) (by assumption) ?_
                    try simp only [Act.put, sA, sB, sC]
                    refine takeQ (i := 13) (gt rfl) (by kernel_rfl) (fun _ _ _ h => h) (by rfl) (by intro wq _; go_simp <;> with_reducible rfl) (by assumption) ?_
                    try simp only [Act.put, sA, sB, sC]
                    refine wpAnyH_done (by kernel_rfl) ?_ _
                    go_wp2
                    go_meet
                    case rel => exact ⟨by simp [c1], N⟩
                case rest =>
                  obtain ⟨rfl, hb⟩ := hcut
                  rename World => wc
                  replace BI := BI.trans (hb.mono BI.size)
                  clear hb r0 r1 x0 x1
                  by_cases ce : q1 = p1 ∧ q2 = p2
                  · have hd : decide (q1 = p1 ∧ q2 = p2) = true := decide_eq_true ce
                    rw [hd]
                    have SU2 : Hid (Sus (ps.take (i + 1)) S) := by
                      show Sus _ _
                      rw [TK.out]
                      exact SU.out.same ((mem_ptN S _).2 ⟨k - 1, by omega, by rw [hq.out, ce.1, ce.2]⟩)
                    have BW : Below w.heap.size w wc := B2.out.trans (BI.mono B2.out.size)
                    have RW := RH.out.below BI
                    clear hd
                    go_wp2
                    go_roundw
                    case rel => exact ⟨i + 1, S, by omega, by go_num, SU2, (by show _ ≤ _; omega), RW, BW⟩
                    case measure => simp [intOf] <;> omega
                  · have hd : decide (q1 = p1 ∧ q2 = p2) = false := decide_eq_false ce
                    rw [hd]
                    clear hd
                    have FIN : Hid (∀ v7 : List Pn, v7 = holeP S k (p1, p2) → Sus (ps.take (i + 1)) v7) := fun v7 e => by
                      rw [e, TK.out]
                      refine SU.out.put (by omega) (fun j h1 h2 => GT.out j h1 (by omega)) (fun _ => ?_)
                      rw [hq.out]
                      rcases ltP_tri (q1, q2) (p1, p2) with t | t | t
                      · exact t
                      · injection t with t1 t2; exact absurd ⟨t1, t2⟩ ce
                      · exact absurd t NL.out
                    have BW : Below w.heap.size w wc := B2.out.trans (BI.mono B2.out.size)
                    have RW := RH.out.below BI
                    have SPW := h.below BW
                    obtain ⟨bB, oB, eB, x0, x1⟩ := SPW.at0 hlt hp.out
                    obtain ⟨rfl, rfl⟩ : bA = bB ∧ oA = oB := by simpa using eB
                    clear eB
                    have hb := below1 wc (.cells #[.int .i64 p1, .int .i64 p2] 29)
                    have NW := pt_new wc 29 p1 p2
                    have RA := RW.below hb
                    have BA := BW.trans (hb.mono BW.size)
                    have za := BA.size
                    have RA' : RowPt w.heap.size (wc.alloc (.cells #[.int .i64 p1, .int .i64 p2] 29)) (.slice (some ⟨g, 0, none⟩) n c3) S := RA
                    clear hb RA
                    have L7 : (S ++ [(p1, p2)]).length = n + 1 := by rw [List.length_append, hn]; rfl
                    go_wp2_with (at_builtin; refine wpList_append_own _ rfl (.tmp 46) (.tmp 51) 24 rfl w.heap.size 29 iP (.agg #[.int .i64 0, .int .i64 0]) 2 16 Try.underlying24 hiP hP0 hP1 hP2 rfl (by decide) (.slice (some ⟨g, 0, none⟩) n c3) S.length (ptC S) rfl RA' ⟨wc.heap.size, 0, none⟩ 1 _ (ptC [(p1, p2)]) rfl rfl NW (ptC_ones _) (by unfold maxLen; omega) (by omega) za ?_; intro v7 w7 R7 G7 _; replace R7 := RowPt.snoc R7; obtain ⟨g8, c7, e7, hc7, hm7⟩ := R7.nonnil (by simp); subst e7; rw [L7] at R7 hc7 ⊢)
                    have B7 := BA.grown G7 za (fun k hk => (World.ownsRow.lt RA' k hk).1)
                    clear G7 RA' BA za NW SPW BW RW x0 x1
                    unfold maxLen at hm7
                    rw [← holeP_end S (p1, p2), hn] at R7
                    clear L7
                    go_wp2
                    go_loopw [6] (fun s6 wi => ∃ (m : Nat) (x : Pn), k ≤ m ∧ m ≤ n ∧ s6 = .int .i64 m ∧ RowPt w.heap.size wi (.slice (some ⟨g8, 0, none⟩) (n + 1) c7) (holeP S m x) ∧ Below w.heap.size w wi) (fun s6 _ => (intOf s6).toNat)
                    case atStart => exact ⟨n, (p1, p2), by omega, Nat.le_refl _, by first | rfl | go_num, R7, B7⟩
                    case round =>
                      clear R7 B7
                      obtain ⟨m, x, km, mn, rfl, RM, BM⟩ := hrel
                      rename World => wm
                      by_cases hmk : k < m
                      · obtain ⟨m', rfl⟩ : ∃ m', m = m' + 1 := ⟨m - 1, by omega⟩
                        obtain ⟨⟨r0, r1⟩, fr, -⟩ := RM.atN (i := m') (by rw [holeP_len]; omega)
                        obtain ⟨⟨d0, d1⟩, -⟩ := RM.atN (i := m' + 1) (by rw [holeP_len]; omega)
                        rw [holeP_at (by omega) (by omega)] at r0 r1
                        obtain ⟨RS, GS⟩ := RM.setAt (m' + 1) (ptN S m').1 (ptN S m').2
                        rw [show (holeP S (m' + 1) x).set (m' + 1) ((ptN S m').1, (ptN S m').2) = holeP S m' (ptN S m') from holeP_down (by omega)] at RS
                        have g9 := (World.ownsRow.lt RM g8 rfl).1
                        have BS := BM.grown GS BM.size (fun k hk => by injection hk with hk; omega)
                        obtain ⟨⟨z1, z2⟩, hz⟩ : ∃ z : Pn, Hid (ptN S m' = z) := ⟨_, rfl⟩
                        rw [hz.out] at r0 r1 RS BS
                        dsimp only at r0 r1 RS BS
                        have n1 : ((m' + 1 : Nat) : Int) - 1 = (m' : Int) := by omega
                        clear RM BM GS
                        go_wp2
                        go_roundw
                        case rel => exact ⟨m', (z1, z2), by omega, by omega, by first | rfl | go_num, RS, BS⟩
                        case measure => simp [intOf] <;> omega
                      · obtain rfl : k = m := by omega
                        obtain ⟨⟨d0, d1⟩, fr, -⟩ := RM.atN (i := k) (by rw [holeP_len]; omega)
                        obtain ⟨RS, GS⟩ := RM.setAt k p1 p2
                        rw [holeP_set (by omega)] at RS
                        have g9 := (World.ownsRow.lt RM g8 rfl).1
                        have BS := BM.grown GS BM.size (fun k hk => by injection hk with hk; omega)
                        have SPM := h.below BM
                        obtain ⟨bB, oB, eB, x0, x1⟩ := SPM.at0 hlt hp.out
                        obtain ⟨rfl, rfl⟩ : bA = bB ∧ oA = oB := by simpa using eB
                        clear eB RM BM GS SPM
                        go_wp2
                        go_roundw
                        case rel => exact ⟨i + 1, holeP S k (p1, p2), by omega, by go_num, FIN.out _ rfl, (by show _ ≤ _; rw [holeP_len]; omega), RS, BS⟩
                        case measure => simp [intOf] <;> omega
              · have LT : ltP (p1, p2) (q1, q2) := (lessB_iff ..).1 hb9
                have GT2 : Hid (∀ j, k - 1 ≤ j → j < n → ltP (p1, p2) (ptN S j)) := fun j h1 h2 => by
                  by_cases e : j = k - 1
                  · subst e; rw [hq.out]; exact LT
                  · exact GT.out j (by omega) h2
                clear hb9 LT
                go_wp2
                go_roundw
                case rel => exact ⟨k - 1, by omega, by first | rfl | go_num, GT2, BI⟩
                case measure => simp [intOf] <;> omega
    · obtain rfl : i = ps.length := by omega
      have SUE : Hid (Sus ps S) := by have := SU.out; rwa [List.take_length] at this
      go_wp2
      go_ret
      exact ⟨_, rfl, S, SUE.out, SLN.out, R, B⟩
end Go.Proofs.Ytbdpnfdpnaoicaa
