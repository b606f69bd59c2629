/- The law FnHulls: all drawn points lie in their hull, its corners turn left, the hull's hull is itself. -/
import Derived.Test.YtbdpnfdpnaoicaaHulU
import Derived.Test.YtbdpnfdpnaoicaaHullN
import Derived.Test.YtbdpnfdpnaoicaaDrHull
import Derived.Test.YtbdpnfdpnaoicaaPtU
import Derived.Test.YtbdpnfdpnaoicaaPtM
import Derived.Test.YtbdpnfdpnaoicaaBig
namespace Go.Proofs.Ytbdpnfdpnaoicaa
open Go.RowKit

theorem okP {ps : List Pn} (h : okL ps = true) {q : Pn} (hq : q ∈ ps) : ptOk q.1 q.2 = true := List.all_eq_true.1 h q hq
theorem okBd {q : Pn} (h : ptOk q.1 q.2 = true) : Bd q := by
  unfold ptOk at h
  simp only [Bool.and_eq_true, inB_true] at h
  exact h
theorem turnT (a b c : Pn) (w : World) (ha : ptOk a.1 a.2 = true) (hb : ptOk b.1 b.2 = true) (hc : ptOk c.1 c.2 = true) :
    Calls Try.prog 8 #[.agg #[.int .i64 a.1, .int .i64 a.2], .agg #[.int .i64 b.1, .int .i64 b.2], .agg #[.int .i64 c.1, .int .i64 c.2]] w fun e w' => e = .returned (.int .i64 (sgn1 (tn a b c))) ∧ Below w.heap.size w w' := by
  have := implTurn a.1 a.2 b.1 b.2 c.1 c.2 w
  unfold tX tY at this
  rw [ha, hb, hc] at this
  exact this
theorem onT (a b c : Pn) (w : World) (ha : ptOk a.1 a.2 = true) (hb : ptOk b.1 b.2 = true) (hc : ptOk c.1 c.2 = true) :
    Calls Try.prog 9 #[.agg #[.int .i64 a.1, .int .i64 a.2], .agg #[.int .i64 b.1, .int .i64 b.2], .agg #[.int .i64 c.1, .int .i64 c.2]] w fun e w' => e = .returned (.bool (onB a.1 a.2 b.1 b.2 c.1 c.2)) ∧ Below w.heap.size w w' := by
  have := implOnSeg a.1 a.2 b.1 b.2 c.1 c.2 w
  unfold tX tY at this
  rw [ha, hb, hc] at this
  exact this
theorem sgn1_one {n : Int} (h : 0 < n) : sgn1 n = 1 := by unfold sgn1; rw [if_pos h]
theorem sgn1_nn {n : Int} (h : 0 ≤ n) : 0 ≤ sgn1 n := by unfold sgn1; split <;> (try split) <;> omega
theorem ixP_mem {l : List Pn} {i : Nat} (h : i < l.length) : ixP l i ∈ l := by unfold ixP; rw [List.getElem?_eq_getElem h]; exact List.getElem_mem h
/-- All of a hull that the law asks. -/
structure HlF (ps H : List Pn) : Prop where
  ok : ∀ q ∈ H, ptOk q.1 q.2 = true
  okp : ∀ q ∈ ps, ptOk q.1 q.2 = true
  few : H.length ≤ 500
  turns : 2 < H.length → ∀ i, i < H.length → 0 < tn (ixP H i) (ixP H ((i + 1) % H.length)) (ixP H ((i + 2) % H.length))
  left : 2 ≤ H.length → ∀ i, i < H.length → ∀ q ∈ ps, 0 ≤ tn (ixP H i) (ixP H ((i + 1) % H.length)) q
  line : H.length = 2 → ∀ q ∈ ps, onB (ixP H 0).1 (ixP H 0).2 (ixP H 1).1 (ixP H 1).2 q.1 q.2 = true
  again : ∀ H', HullOf H H' → H' = H
theorem hul_short {S : List Pn} (h : S.length < 2) : hul S = S := by unfold hul; rw [if_pos h]
theorem hul_pos {S : List Pn} (hs : 2 ≤ S.length) (h : S.Pairwise ltP) (ok : ∀ q ∈ S, Bd q) : 2 ≤ (hul S).length := by
  obtain ⟨z, y, m, e, _⟩ := hul_walk hs h ok
  rw [e]; simp
theorem HlF.of {ps H : List Pn} (h : HullOf ps H) (hn : H ≠ []) (hp : ps.length ≤ 30 ∨ ∃ k : Nat, k ≤ 501 ∧ ps = List.replicate k (0, 0)) : HlF ps H := by
  rcases h with ⟨ok, l5, S, sus, sl, rfl⟩ | ⟨_, rfl⟩
  · have okp : ∀ q ∈ ps, ptOk q.1 q.2 = true := fun q hq => okP ok hq
    have okS : ∀ q ∈ S, ptOk q.1 q.2 = true := fun q hq => okp q ((sus.2 q).1 hq)
    have bd : ∀ q ∈ S, Bd q := fun q hq => okBd (okS q hq)
    have okH : ∀ q ∈ hul S, ptOk q.1 q.2 = true := fun q hq => okS q (hul_sub sus.1 bd q hq)
    have few : (hul S).length ≤ 500 := by
      rcases hp with hp | ⟨k, _, e⟩
      · have := hul_len S; omega
      · have s1 : S.length < 2 := by
          have z : ∀ q ∈ S, q = (0, 0) := fun q hq => by
            have := (sus.2 q).1 hq
            rw [e] at this
            exact List.eq_of_mem_replicate this
          match S, sus.1, z with
          | [], _, _ => simp
          | [_], _, _ => simp
          | a :: b :: r, p, z =>
            have h1 := z a (by simp)
            have h2 := z b (by simp)
            have := (List.pairwise_cons.1 p).1 b (by simp)
            rw [h1, h2] at this
            unfold ltP at this
            simp at this
        rw [hul_short s1]; omega
    have two : 2 ≤ (hul S).length → 2 ≤ S.length := fun q => by
      apply Classical.byContradiction
      intro h
      rw [hul_short (by omega)] at q
      omega
    refine ⟨okH, okp, few, fun h i hi => hul_turns (two (by omega)) sus.1 bd h hi, fun h i hi q hq => hul_left (two h) sus.1 bd hi ((sus.2 q).2 hq), fun h q hq => hul_line (two (by omega)) sus.1 bd h ((sus.2 q).2 hq), fun H' h' => ?_⟩
    rcases h' with ⟨_, _, T, sT, _, rfl⟩ | ⟨no, _⟩
    · exact hul_hul sus.1 bd sT
    · exact absurd ⟨List.all_eq_true.2 okH, few⟩ no
  · exact absurd rfl hn

set_option maxRecDepth 20000 in
set_option maxHeartbeats 1000000 in
theorem sameH (a b : Option Addr) (c d : Nat) (ps : List (Int × Int)) (w : World) (h : SeesP w a c ps) (k : SeesP w b d ps) :
    Calls Try.prog 10 #[.slice a ps.length c, .slice b ps.length d] w fun e w' => e = .returned (.bool true) ∧ Below w.heap.size w w' := by
  have hm := h.max
  have hf := h.fits
  unfold maxLen at hm
  have hne : ((ps.length : Int) != (ps.length : Int)) = false := by simp
  go_enter Try.func10, Try.ntmps10
  go_wp2
  go_loopw [5] (fun i wr => ∃ j : Nat, j ≤ ps.length ∧ i = .int .i64 j ∧ Hid (Below w.heap.size w wr)) (fun i _ => ps.length - (intOf i).toNat)
  case atStart => exact ⟨0, Nat.zero_le _, rfl, Below.refl _ _⟩
  case round =>
    obtain ⟨j, hj, rfl, B⟩ := hrel
    rename World => wr
    by_cases hlt : j < ps.length
    · obtain ⟨b1, o1, rfl, hc⟩ := (h.below B.out).cells (by intro e; simp [e] at hlt)
      obtain ⟨b2, o2, rfl, hd⟩ := (k.below B.out).cells (by intro e; simp [e] at hlt)
      obtain ⟨g1, g2⟩ := hc j hlt
      obtain ⟨g3, g4⟩ := hd j hlt
      generalize (ps[j]?.getD (0, 0)).1 = x at *
      generalize (ps[j]?.getD (0, 0)).2 = y at *
      have B2 : Hid (Below w.heap.size w wr.drew) := B.out.drew
      clear hc hd
      go_wp2_with fail
      go_region
      go_wp2
      go_roundw
      case rel => exact ⟨j + 1, by omega, by go_num, B2⟩
      case measure => simp [intOf]; omega
    · go_wp2
      go_ret
      exact ⟨rfl, B.out⟩
set_option maxRecDepth 20000 in
set_option maxHeartbeats 32000000 in
theorem lawHulls (a : Option Addr) (n cap : Nat) (w : World) (hB : Byt w a n) :
    Calls Try.prog 3 #[.slice a n cap] w fun e w' => e = .returned (.bool true) ∧ Below w.heap.size w w' := by
  by_cases hs : n ≤ 1048576
  · have HM : Hid (n ≤ 1048576) := hs
    have hd : decide (1048576 < (n : Int)) = false := decide_eq_false (by omega)
    clear hs
    go_enter Try.func3, Try.ntmps3
    go_wp2_with fail
    refine (bigB_any a n cap _).mono ?_
    rintro e w0 ⟨rfl, rfl⟩
    rw [hd]
    go_wp2_with fail
    refine (drawHull_any a n cap _ hB HM.out).mono ?_
    rintro e w1 ⟨ad, c, ps, rfl, S1, l1, B⟩
    have HP : Hid (ps.length ≤ 30 ∨ ∃ k : Nat, k ≤ 501 ∧ ps = List.replicate k (0, 0)) := l1
    have L1 : ps.length ≤ 501 := by
      rcases l1 with q | ⟨k, hk, e⟩
      · omega
      · rw [e]; simp; exact hk
    clear l1
    go_wp2_with fail
    refine (implHull ad c ps _ S1 (by omega)).mono ?_
    rintro e w2 ⟨v2, rfl, H, HO, R2, hb⟩
    obtain ⟨e2, f2, ee, _, _⟩ := R2.shape
    subst ee
    have T2 := R2.seesP
    have HH : Hid (HullOf ps H) := HO
    have H1 := HO.len
    replace S1 := S1.below hb
    replace B := B.trans (hb.mono B.size)
    clear hb HO
    go_wp2_with fail
    refine (specHull ad c ps _ S1 (by omega)).mono ?_
    rintro e w3 ⟨v3, rfl, H3, HO, R3, hb⟩
    have eh := HO.one HH.out
    subst eh
    obtain ⟨e3, f3, ee, _, _⟩ := R3.shape
    subst ee
    replace S1 := S1.below hb
    replace T2 := T2.below hb
    replace B := B.trans (hb.mono B.size)
    have NB : Hid (e2 = none → H3 = []) := fun q => by
      rcases R2.2 with ⟨_, h0⟩ | ⟨g, cp, cur, hv, _⟩
      · exact List.eq_nil_of_length_eq_zero h0
      · rw [q] at hv; injection hv with hv; cases hv
    clear hb HO R3 R2
    by_cases h0 : H3.length = 0
    · have z0 : ((H3.length : Int) == 0) = true := by simp [h0]
      go_wp2
      go_ret
      exact ⟨by first | done | rfl | simp [h0], B⟩
    · have z0 : ((H3.length : Int) == 0) = false := by simp; exact fun q => h0 (by rw [q]; rfl)
      have F : Hid (HlF ps H3) := HlF.of HH.out (fun e => h0 (by rw [e]; rfl)) HP.out
      obtain ⟨hd2, rfl⟩ : ∃ hd2, e2 = some hd2 := by
        cases e2 with
        | none => exact absurd (by rw [NB.out rfl]; rfl) h0
        | some q => exact ⟨q, rfl⟩
      clear NB HH HP
      have pm := S1.max
      have pf := S1.fits
      have qm := T2.max
      have qf := T2.fits
      unfold maxLen at pm qm
      generalize H3 = H at *
      rcases (show 2 < H.length ∨ H.length = 2 ∨ H.length = 1 by omega) with h2 | h2 | h2
      · -- more than two corners
        go_wp2
        go_loopw [6] (fun i wr => ∃ j : Nat, j ≤ H.length ∧ i = .int .i64 j ∧ Hid (Below w3.heap.size w3 wr)) (fun i _ => H.length - (intOf i).toNat)
        case atStart => exact ⟨0, Nat.zero_le _, rfl, Below.refl _ _⟩
        case round =>
          obtain ⟨j, hj, rfl, BW⟩ := hrel
          rename World => wr
          by_cases hlt : j < H.length
          · obtain ⟨b, off, eb, hc⟩ := (T2.below BW.out).cells (by intro e; simp [e] at hlt)
            injection eb with eb
            subst eb
            have n0 : 0 < H.length := by omega
            obtain ⟨k1, hk1⟩ : ∃ k, Hid ((j + 1) % H.length = k) := ⟨_, rfl⟩
            obtain ⟨k2, hk2⟩ : ∃ k, Hid ((j + 2) % H.length = k) := ⟨_, rfl⟩
            have l1 : k1 < H.length := by rw [← hk1.out]; exact Nat.mod_lt _ n0
            have l2 : k2 < H.length := by rw [← hk2.out]; exact Nat.mod_lt _ n0
            have m1 : ((j : Int) + 1) % (H.length : Int) = (k1 : Int) := by rw [← hk1.out]; push_cast; rfl
            have m2 : ((j : Int) + 2) % (H.length : Int) = (k2 : Int) := by rw [← hk2.out]; push_cast; rfl
            have hn0 : (0 : Int) < H.length := by omega
            have t1 : ((j : Int) + 1).tmod (H.length : Int) = (k1 : Int) := by rw [Int.tmod_eq_emod_of_nonneg (by omega)]; exact m1
            have t2 : ((j : Int) + 2).tmod (H.length : Int) = (k2 : Int) := by rw [Int.tmod_eq_emod_of_nonneg (by omega)]; exact m2
            have wj1 : IntKind.i64.wrap ((j : Int) + 1) = (j : Int) + 1 := by rw [IntKind.wrap_i64]; omega
            have wj2 : IntKind.i64.wrap ((j : Int) + 2) = (j : Int) + 2 := by rw [IntKind.wrap_i64]; omega
            have wk1 : IntKind.i64.wrap (k1 : Int) = (k1 : Int) := by rw [IntKind.wrap_i64]; omega
            have wk2 : IntKind.i64.wrap (k2 : Int) = (k2 : Int) := by rw [IntKind.wrap_i64]; omega
            have bk1 : (0 : Int) ≤ k1 ∧ (k1 : Int) < H.length := by omega
            have bk2 : (0 : Int) ≤ k2 ∧ (k2 : Int) < H.length := by omega
            obtain ⟨g1, g2⟩ := hc j hlt
            obtain ⟨g3, g4⟩ := hc k1 l1
            obtain ⟨g5, g6⟩ := hc k2 l2
            have TT : Hid (0 < tn (ixP H j) (ixP H k1) (ixP H k2)) := by have := F.out.turns h2 j hlt; rw [hk1.out, hk2.out] at this; exact this
            have LL : Hid (∀ q ∈ ps, 0 ≤ tn (ixP H j) (ixP H k1) q) := by have := F.out.left (by omega) j hlt; rw [hk1.out] at this; exact this
            have o1 : Hid (ptOk (ixP H j).1 (ixP H j).2 = true) := F.out.ok _ (ixP_mem hlt)
            have o2 : Hid (ptOk (ixP H k1).1 (ixP H k1).2 = true) := F.out.ok _ (ixP_mem l1)
            have o3 : Hid (ptOk (ixP H k2).1 (ixP H k2).2 = true) := F.out.ok _ (ixP_mem l2)
            have p1 : H[j]?.getD (0, 0) = ixP H j := rfl
            have p2 : H[k1]?.getD (0, 0) = ixP H k1 := rfl
            have p3 : H[k2]?.getD (0, 0) = ixP H k2 := rfl
            rw [p1] at g1 g2
            rw [p2] at g3 g4
            rw [p3] at g5 g6
            have s1 : sgn1 (tn (ixP H j) (ixP H k1) (ixP H k2)) = 1 := sgn1_one TT.out
            generalize ixP H j = A1 at *
            generalize ixP H k1 = A2 at *
            generalize ixP H k2 = A3 at *
            have G1 : Hid (wr.cell? ⟨b, off + j * 2, none⟩ = some (.int .i64 A1.1) ∧ wr.cell? ⟨b, off + j * 2 + 1, none⟩ = some (.int .i64 A1.2) ∧ wr.cell? ⟨b, off + k1 * 2, none⟩ = some (.int .i64 A2.1) ∧ wr.cell? ⟨b, off + k1 * 2 + 1, none⟩ = some (.int .i64 A2.2)) := ⟨g1, g2, g3, g4⟩
            clear hc p1 p2 p3
            go_wp2_with fail
            have k0 : wr.cell? ⟨b, off + j * 2, none⟩ = some (.int .i64 A1.1) ∧ wr.cell? ⟨b, off + j * 2 + 1, none⟩ = some (.int .i64 A1.2) ∧ wr.cell? ⟨b, off + k1 * 2, none⟩ = some (.int .i64 A2.1) ∧ wr.cell? ⟨b, off + k1 * 2 + 1, none⟩ = some (.int .i64 A2.2) ∧ wr.cell? ⟨b, off + k2 * 2, none⟩ = some (.int .i64 A3.1) ∧ wr.cell? ⟨b, off + k2 * 2 + 1, none⟩ = some (.int .i64 A3.2) := ⟨g1, g2, g3, g4, g5, g6⟩
            have B1 : Below wr.heap.size wr wr := Below.refl _ _
            clear g1 g2 g3 g4 g5 g6
            go_region_held3 (fun w' => w'.cell? ⟨b, off + j * 2, none⟩ = some (.int .i64 A1.1) ∧ w'.cell? ⟨b, off + j * 2 + 1, none⟩ = some (.int .i64 A1.2) ∧ w'.cell? ⟨b, off + k1 * 2, none⟩ = some (.int .i64 A2.1) ∧ w'.cell? ⟨b, off + k1 * 2 + 1, none⟩ = some (.int .i64 A2.2) ∧ w'.cell? ⟨b, off + k2 * 2, none⟩ = some (.int .i64 A3.1) ∧ w'.cell? ⟨b, off + k2 * 2 + 1, none⟩ = some (.int .i64 A3.2))
              (first | exact k0 | exact ⟨bat B1 k0.1, bat B1 k0.2.1, bat B1 k0.2.2.1, bat B1 k0.2.2.2.1, bat B1 k0.2.2.2.2.1, bat B1 k0.2.2.2.2.2⟩)
              (first | (go_at_call 8; refine (turnT A1 A2 A3 _ o1.out o2.out o3.out).mono ?_; rintro e w7 ⟨rfl, hb⟩; replace B1 := B1.drew.trans (hb.mono B1.drew.size)))
            try rw [s1]
            have BX := BW.out.trans (B1.mono BW.out.size)
            have G2 : Hid (w7.cell? ⟨b, off + j * 2, none⟩ = some (.int .i64 A1.1) ∧ w7.cell? ⟨b, off + j * 2 + 1, none⟩ = some (.int .i64 A1.2) ∧ w7.cell? ⟨b, off + k1 * 2, none⟩ = some (.int .i64 A2.1) ∧ w7.cell? ⟨b, off + k1 * 2 + 1, none⟩ = some (.int .i64 A2.2)) := ⟨bat B1 G1.out.1, bat B1 G1.out.2.1, bat B1 G1.out.2.2.1, bat B1 G1.out.2.2.2⟩
            clear B1 k0 G1 BW o3 TT s1 m2 hk2
            go_wp2
            go_loopw [7] (fun i wr => ∃ q : Nat, q ≤ ps.length ∧ i = .int .i64 q ∧ Hid (Below w7.heap.size w7 wr)) (fun i _ => ps.length - (intOf i).toNat)
            case atStart => exact ⟨0, Nat.zero_le _, rfl, Below.refl _ _⟩
            case round =>
              obtain ⟨q, hq, rfl, BV⟩ := hrel
              rename World => wq
              by_cases hql : q < ps.length
              · obtain ⟨b', off', eb', hc'⟩ := (S1.below (BX.trans (BV.out.mono BX.size))).cells (by intro e; simp [e] at hql)
                injection eb' with eb'
                subst eb'
                obtain ⟨g5, g6⟩ := hc' q hql
                have g1 := bat BV.out G2.out.1
                have g2 := bat BV.out G2.out.2.1
                have g3 := bat BV.out G2.out.2.2.1
                have g4 := bat BV.out G2.out.2.2.2
                have p1 : ps[q]?.getD (0, 0) = ixP ps q := rfl
                rw [p1] at g5 g6
                have o3 : Hid (ptOk (ixP ps q).1 (ixP ps q).2 = true) := F.out.okp _ (ixP_mem hql)
                have s1 : 0 ≤ sgn1 (tn A1 A2 (ixP ps q)) := sgn1_nn (LL.out _ (ixP_mem hql))
                generalize ixP ps q = A3 at *
                obtain ⟨z, hz⟩ : ∃ z, Hid (sgn1 (tn A1 A2 A3) = z) := ⟨_, rfl⟩
                rw [hz.out] at s1
                clear hc' p1
                go_wp2_with fail
                have k0 : wq.cell? ⟨b, off + j * 2, none⟩ = some (.int .i64 A1.1) ∧ wq.cell? ⟨b, off + j * 2 + 1, none⟩ = some (.int .i64 A1.2) ∧ wq.cell? ⟨b, off + k1 * 2, none⟩ = some (.int .i64 A2.1) ∧ wq.cell? ⟨b, off + k1 * 2 + 1, none⟩ = some (.int .i64 A2.2) ∧ wq.cell? ⟨b', off' + q * 2, none⟩ = some (.int .i64 A3.1) ∧ wq.cell? ⟨b', off' + q * 2 + 1, none⟩ = some (.int .i64 A3.2) := ⟨g1, g2, g3, g4, g5, g6⟩
                have B1 : Below wq.heap.size wq wq := Below.refl _ _
                clear g1 g2 g3 g4 g5 g6
                go_region_held3 (fun w' => w'.cell? ⟨b, off + j * 2, none⟩ = some (.int .i64 A1.1) ∧ w'.cell? ⟨b, off + j * 2 + 1, none⟩ = some (.int .i64 A1.2) ∧ w'.cell? ⟨b, off + k1 * 2, none⟩ = some (.int .i64 A2.1) ∧ w'.cell? ⟨b, off + k1 * 2 + 1, none⟩ = some (.int .i64 A2.2) ∧ w'.cell? ⟨b', off' + q * 2, none⟩ = some (.int .i64 A3.1) ∧ w'.cell? ⟨b', off' + q * 2 + 1, none⟩ = some (.int .i64 A3.2))
                  (first | exact k0 | exact ⟨bat B1 k0.1, bat B1 k0.2.1, bat B1 k0.2.2.1, bat B1 k0.2.2.2.1, bat B1 k0.2.2.2.2.1, bat B1 k0.2.2.2.2.2⟩)
                  (first | (go_at_call 8; refine (turnT A1 A2 A3 _ o1.out o2.out o3.out).mono ?_; rintro e w6 ⟨rfl, hb⟩; replace B1 := B1.drew.trans (hb.mono B1.drew.size)))
                try rw [hz.out]
                have BY := BV.out.trans (B1.mono BV.out.size)
                clear B1 k0 BV
                go_wp2
                go_roundw
                case rel => exact ⟨q + 1, by omega, by go_num, BY⟩
                case measure => simp [intOf]; omega
              · go_wp2
                go_roundw
                case rel => exact ⟨j + 1, by omega, by go_num, BX.trans (BV.out.mono BX.size)⟩
                case measure => simp [intOf]; omega
          · go_wp2
            go_loopw [8] (fun i wr => i = .int .i64 0 ∧ Hid (Below w3.heap.size w3 wr)) (fun _ _ => 0)
            case atStart => exact ⟨rfl, BW⟩
            case round =>
              obtain ⟨rfl, BW⟩ := hrel
              rename World => wr
              have z2 : ((H.length : Int) == 2) = false := by simp; omega
              by_cases hp0 : 0 < ps.length
              · go_wp2_with fail
                refine (implHull hd2 f2 H _ (T2.below BW.out) (by omega)).mono ?_
                rintro e w8 ⟨v8, rfl, H8, HO, R8, hb⟩
                have eh := F.out.again H8 HO
                subst eh
                obtain ⟨e8, f8, ee, _, _⟩ := R8.shape
                subst ee
                have T8 := R8.seesP
                have B8 := (BW.out).trans (hb.mono (BW.out).size)
                clear hb R8 HO
                go_wp2_with fail
                refine (sameH e8 (some hd2) f8 f2 H8 _ T8 (T2.below B8)).mono ?_
                rintro e w9 ⟨rfl, hb⟩
                have B9 := B8.trans (hb.mono B8.size)
                clear hb
                have hpos : decide ((0 : Int) < (H8.length : Int)) = true := decide_eq_true (by omega)
                have hps : (0 : Int) < (H8.length : Int) := by omega
                go_wp2
                go_ret
                exact ⟨by first | done | rfl | (rw [hpos]; done) | (simp; done) | (simp; omega), B.trans (B9.mono B.size)⟩
              · go_wp2_with fail
                refine (implHull hd2 f2 H _ (T2.below BW.out) (by omega)).mono ?_
                rintro e w8 ⟨v8, rfl, H8, HO, R8, hb⟩
                have eh := F.out.again H8 HO
                subst eh
                obtain ⟨e8, f8, ee, _, _⟩ := R8.shape
                subst ee
                have T8 := R8.seesP
                have B8 := (BW.out).trans (hb.mono (BW.out).size)
                clear hb R8 HO
                go_wp2_with fail
                refine (sameH e8 (some hd2) f8 f2 H8 _ T8 (T2.below B8)).mono ?_
                rintro e w9 ⟨rfl, hb⟩
                have B9 := B8.trans (hb.mono B8.size)
                clear hb
                have hpos : decide ((0 : Int) < (H8.length : Int)) = true := decide_eq_true (by omega)
                have hps : (0 : Int) < (H8.length : Int) := by omega
                go_wp2
                go_ret
                exact ⟨by first | done | rfl | (rw [hpos]; done) | (simp; done) | (simp; omega), B.trans (B9.mono B.size)⟩
      · have HL2 : Hid (H.length = 2) := h2
        have n2 : ¬ 2 < H.length := by omega
        have hp2 : 0 < H.length := by omega
        have h12 : 1 < H.length := by omega
        have i12 : (1 : Int) < (H.length : Int) := by omega
        have z2 : ((H.length : Int) == 2) = true := by simp [h2]
        clear h2
        go_wp2
        go_loopw [6] (fun i wr => i = .int .i64 0 ∧ Hid (Below w3.heap.size w3 wr)) (fun _ _ => 0)
        case atStart => exact ⟨rfl, Below.refl _ _⟩
        case round =>
          obtain ⟨rfl, BW0⟩ := hrel
          rename World => w5
          go_wp2
          go_loopw [8] (fun i wr => ∃ q : Nat, q ≤ ps.length ∧ i = .int .i64 q ∧ Hid (Below w3.heap.size w3 wr)) (fun i _ => ps.length - (intOf i).toNat)
          case atStart => exact ⟨0, Nat.zero_le _, rfl, BW0⟩
          case round =>
            obtain ⟨q, hq, rfl, BW⟩ := hrel
            rename World => wq
            by_cases hql : q < ps.length
            · obtain ⟨b, off, eb, hc⟩ := (T2.below BW.out).cells (by intro e; have := HL2.out; simp [e] at this)
              injection eb with eb
              subst eb
              obtain ⟨b', off', eb', hc'⟩ := (S1.below BW.out).cells (by intro e; simp [e] at hql)
              injection eb' with eb'
              subst eb'
              obtain ⟨g1, g2⟩ := hc 0 hp2
              obtain ⟨g3, g4⟩ := hc 1 (by have := HL2.out; omega)
              obtain ⟨g5, g6⟩ := hc' q hql
              have p1 : H[0]?.getD (0, 0) = ixP H 0 := rfl
              have p2 : H[1]?.getD (0, 0) = ixP H 1 := rfl
              have p3 : ps[q]?.getD (0, 0) = ixP ps q := rfl
              rw [p1] at g1 g2
              rw [p2] at g3 g4
              rw [p3] at g5 g6
              have o1 : Hid (ptOk (ixP H 0).1 (ixP H 0).2 = true) := F.out.ok _ (ixP_mem (by have := HL2.out; omega))
              have o2 : Hid (ptOk (ixP H 1).1 (ixP H 1).2 = true) := F.out.ok _ (ixP_mem (by have := HL2.out; omega))
              have o3 : Hid (ptOk (ixP ps q).1 (ixP ps q).2 = true) := F.out.okp _ (ixP_mem hql)
              have s1 : Hid (onB (ixP H 0).1 (ixP H 0).2 (ixP H 1).1 (ixP H 1).2 (ixP ps q).1 (ixP ps q).2 = true) := F.out.line HL2.out _ (ixP_mem hql)
              generalize ixP H 0 = A1 at *
              generalize ixP H 1 = A2 at *
              generalize ixP ps q = A3 at *
              simp only [Nat.zero_mul, Nat.one_mul, Nat.add_zero] at g1 g2 g3 g4
              clear hc hc' p1 p2 p3
              go_wp2_with fail
              have k0 : wq.cell? ⟨b, off, none⟩ = some (.int .i64 A1.1) ∧ wq.cell? ⟨b, off + 1, none⟩ = some (.int .i64 A1.2) ∧ wq.cell? ⟨b, off + 2, none⟩ = some (.int .i64 A2.1) ∧ wq.cell? ⟨b, off + 2 + 1, none⟩ = some (.int .i64 A2.2) ∧ wq.cell? ⟨b', off' + q * 2, none⟩ = some (.int .i64 A3.1) ∧ wq.cell? ⟨b', off' + q * 2 + 1, none⟩ = some (.int .i64 A3.2) := ⟨g1, g2, g3, g4, g5, g6⟩
              have B1 : Below wq.heap.size wq wq := Below.refl _ _
              clear g1 g2 g3 g4 g5 g6
              go_region_held3 (fun w' => w'.cell? ⟨b, off, none⟩ = some (.int .i64 A1.1) ∧ w'.cell? ⟨b, off + 1, none⟩ = some (.int .i64 A1.2) ∧ w'.cell? ⟨b, off + 2, none⟩ = some (.int .i64 A2.1) ∧ w'.cell? ⟨b, off + 2 + 1, none⟩ = some (.int .i64 A2.2) ∧ w'.cell? ⟨b', off' + q * 2, none⟩ = some (.int .i64 A3.1) ∧ w'.cell? ⟨b', off' + q * 2 + 1, none⟩ = some (.int .i64 A3.2))
                (first | exact k0 | exact ⟨bat B1 k0.1, bat B1 k0.2.1, bat B1 k0.2.2.1, bat B1 k0.2.2.2.1, bat B1 k0.2.2.2.2.1, bat B1 k0.2.2.2.2.2⟩)
                (first | (go_at_call 9; refine (onT A1 A2 A3 _ o1.out o2.out o3.out).mono ?_; rintro e w7 ⟨rfl, hb⟩; replace B1 := B1.drew.trans (hb.mono B1.drew.size)))
              try rw [s1.out]
              have BY := BW.out.trans (B1.mono BW.out.size)
              clear B1 k0 BW
              go_wp2
              go_roundw
              case rel => exact ⟨q + 1, by omega, by go_num, BY⟩
              case measure => simp [intOf]; omega
            · go_wp2_with fail
              refine (implHull hd2 f2 H _ (T2.below BW.out) (by omega)).mono ?_
              rintro e w8 ⟨v8, rfl, H8, HO, R8, hb⟩
              have eh := F.out.again H8 HO
              subst eh
              obtain ⟨e8, f8, ee, _, _⟩ := R8.shape
              subst ee
              have T8 := R8.seesP
              have B8 := (BW.out).trans (hb.mono (BW.out).size)
              clear hb R8 HO
              go_wp2_with fail
              refine (sameH e8 (some hd2) f8 f2 H8 _ T8 (T2.below B8)).mono ?_
              rintro e w9 ⟨rfl, hb⟩
              have B9 := B8.trans (hb.mono B8.size)
              clear hb
              have hpos : decide ((0 : Int) < (H8.length : Int)) = true := decide_eq_true (by omega)
              have hps : (0 : Int) < (H8.length : Int) := by omega
              go_wp2
              go_ret
              exact ⟨by first | done | rfl | (rw [hpos]; done) | (simp; done) | (simp; omega), B.trans (B9.mono B.size)⟩
      · have n2 : ¬ 2 < H.length := by omega
        have hp2 : 0 < H.length := by omega
        have z2 : ((H.length : Int) == 2) = false := by simp; omega
        clear h2
        go_wp2
        go_loopw [6] (fun i wr => i = .int .i64 0 ∧ Hid (Below w3.heap.size w3 wr)) (fun _ _ => 0)
        case atStart => exact ⟨rfl, Below.refl _ _⟩
        case round =>
          obtain ⟨rfl, BW0⟩ := hrel
          rename World => w5
          go_wp2
          go_loopw [8] (fun i wr => i = .int .i64 0 ∧ Hid (Below w3.heap.size w3 wr)) (fun _ _ => 0)
          case atStart => exact ⟨rfl, BW0⟩
          case round =>
            obtain ⟨rfl, BW⟩ := hrel
            rename World => wr
            by_cases hp0 : 0 < ps.length
            · go_wp2_with fail
              refine (implHull hd2 f2 H _ (T2.below BW.out) (by omega)).mono ?_
              rintro e w8 ⟨v8, rfl, H8, HO, R8, hb⟩
              have eh := F.out.again H8 HO
              subst eh
              obtain ⟨e8, f8, ee, _, _⟩ := R8.shape
              subst ee
              have T8 := R8.seesP
              have B8 := (BW.out).trans (hb.mono (BW.out).size)
              clear hb R8 HO
              go_wp2_with fail
              refine (sameH e8 (some hd2) f8 f2 H8 _ T8 (T2.below B8)).mono ?_
              rintro e w9 ⟨rfl, hb⟩
              have B9 := B8.trans (hb.mono B8.size)
              clear hb
              have hpos : decide ((0 : Int) < (H8.length : Int)) = true := decide_eq_true (by omega)
              have hps : (0 : Int) < (H8.length : Int) := by omega
              go_wp2
              go_ret
              exact ⟨by first | done | rfl | (rw [hpos]; done) | (simp; done) | (simp; omega), B.trans (B9.mono B.size)⟩
            · go_wp2_with fail
              refine (implHull hd2 f2 H _ (T2.below BW.out) (by omega)).mono ?_
              rintro e w8 ⟨v8, rfl, H8, HO, R8, hb⟩
              have eh := F.out.again H8 HO
              subst eh
              obtain ⟨e8, f8, ee, _, _⟩ := R8.shape
              subst ee
              have T8 := R8.seesP
              have B8 := (BW.out).trans (hb.mono (BW.out).size)
              clear hb R8 HO
              go_wp2_with fail
              refine (sameH e8 (some hd2) f8 f2 H8 _ T8 (T2.below B8)).mono ?_
              rintro e w9 ⟨rfl, hb⟩
              have B9 := B8.trans (hb.mono B8.size)
              clear hb
              have hpos : decide ((0 : Int) < (H8.length : Int)) = true := decide_eq_true (by omega)
              have hps : (0 : Int) < (H8.length : Int) := by omega
              go_wp2
              go_ret
              exact ⟨by first | done | rfl | (rw [hpos]; done) | (simp; done) | (simp; omega), B.trans (B9.mono B.size)⟩
  · have hd : decide (1048576 < (n : Int)) = true := decide_eq_true (by omega)
    go_enter Try.func3, Try.ntmps3
    go_wp2_with fail
    refine (bigB_any a n cap _).mono ?_
    rintro e w0 ⟨rfl, rfl⟩
    rw [hd]
    go_wp2
    go_ret
    exact ⟨rfl, Below.refl _ _⟩
end Go.Proofs.Ytbdpnfdpnaoicaa
