/- Which shapes of a map meet a shape, or a box: of the specification (Meeting, Window). -/
import Derived.Test.YtecjeomcbcpfiaaGreatWinM
import Derived.Test.YtecjeomcbcpfiaaGreatBxShW
import Derived.Test.YtecjeomcbcpfiaaGreatMeetS
import Derived.Test.YtecjeomcbcpfiaaGreatGoodS
import Derived.Test.YtecjeomcbcpfiaaGreatMapS
import Derived.Test.YtecjeomcbcpfiaaGreatIntsL
import Derived.Test.YtecjeomcbcpfiaaGreatSeg
namespace Go.Proofs.YtecjeomcbcpfiaaGreat
open Go.RowKit

theorem Box2.grown2N {lo q : Nat} {w w' : World} {x0 x1 : Value} {row : Option Nat} (h : Box2 lo w q x0 x1) (g : w.grownBy w' row) (ne : some q ≠ row) : Box2 lo w' q x0 x1 := by
  have e := g.block q h.lt ne
  exact ⟨(World.cell?_of_block (a := ⟨q, 0, none⟩) e).trans h.c0, (World.cell?_of_block (a := ⟨q, 1, none⟩) e).trans h.c1, fun o => (World.frozen?_of_block (a := ⟨q, o, none⟩) e).trans (h.fr o), h.lo⟩
theorem Box4.grown4N {lo q : Nat} {w w' : World} {x0 x1 x2 x3 : Value} {row : Option Nat} (h : Box4 lo w q x0 x1 x2 x3) (g : w.grownBy w' row) (ne : some q ≠ row) : Box4 lo w' q x0 x1 x2 x3 := by
  have e := g.block q h.lt ne
  exact ⟨(World.cell?_of_block (a := ⟨q, 0, none⟩) e).trans h.c0, (World.cell?_of_block (a := ⟨q, 1, none⟩) e).trans h.c1, (World.cell?_of_block (a := ⟨q, 2, none⟩) e).trans h.c2, (World.cell?_of_block (a := ⟨q, 3, none⟩) e).trans h.c3, fun o => (World.frozen?_of_block (a := ⟨q, o, none⟩) e).trans (h.fr o), h.lo⟩

set_option maxRecDepth 20000 in
set_option maxHeartbeats 4000000 in
theorem specMeeting (a : Option Addr) (c : Nat) (es : List En) (k : Int) (b : Option Addr) (d : Nat) (rs : List (List (Int × Int))) (w : World) (h : SeesEn w a c es) (hs : SeesS w b d rs) :
    Calls Tryz.prog 16 #[.slice a es.length c, .agg #[.int .i64 k, .slice b rs.length d]] w fun e w' => ∃ v, e = .returned v ∧ RowI w.heap.size w' v (mtV k rs es) ∧ Below w.heap.size w w' := by
  have hm := h.max
  have hf := h.fits
  unfold maxLen at hm
  obtain ⟨iX, hiX, hx0, hx1, hx2⟩ := info_parts infoI
  have HL : Hid (∀ j, (idsP (mtP k rs) es j).length ≤ j) := idsP_le _ es
  have HS : Hid (SeesS w b d rs) := hs
  have b0 := below1 w (.cells #[.int .i64 k, .slice b rs.length d] 48)
  have V0 := Box2.new w (lo := w.heap.size) (Nat.le_refl _) (.int .i64 k) (.slice b rs.length d) 48
  have b1 := below1 (w.alloc (.cells #[.int .i64 k, .slice b rs.length d] 48)) (.cells #[] 3)
  have V := V0.below b1
  have RE0 : RowI (w.heap.size + 1) ((w.alloc (.cells #[.int .i64 k, .slice b rs.length d] 48)).alloc (.cells #[] 3)) (.slice (some ⟨(w.alloc (.cells #[.int .i64 k, .slice b rs.length d] 48)).heap.size, 0, none⟩) 0 0) (idsP (mtP k rs) es 0) := RowI.empty _ V0.lt
  have bn := b0.trans (b1.mono b0.size)
  rw [World.size_alloc] at RE0
  clear hs b0 b1 V0
  go_enter Tryz.func16, Tryz.ntmps16
  go_upto_region 2 with fail
  generalize (w.alloc (.cells #[.int .i64 k, .slice b rs.length d] 48)).alloc (.cells #[] 3) = W0 at *
  go_wp2_with fail
  refine (specMapOk a c es _ (h.below bn)).mono ?_
  rintro e w1 ⟨rfl, hb⟩
  replace bn := bn.trans (hb.mono bn.size)
  replace RE0 := RE0.below hb
  replace V := V.below hb
  clear hb
  obtain ⟨v0, v1, _, _⟩ := id V
  cases hp : mpB es
  · have Z : Hid (mtV k rs es = []) := mtV_off (.inl hp)
    have RF : Hid (RowI w.heap.size w1 (.slice (some ⟨w.heap.size + 1, 0, none⟩) 0 0) (mtV k rs es)) := by show RowI _ _ _ _; rw [Z.out]; exact row_base RE0 (Nat.le_succ _)
    clear hp RE0
    go_wp2
    go_ret
    exact ⟨_, rfl, RF.out, bn⟩
  · have HP : Hid (mpB es = true) := hp
    clear hp
    go_wp2_with fail
    refine (l5Good_any k b d rs _ (HS.out.below bn)).mono ?_
    rintro e w2 ⟨rfl, hb⟩
    replace bn := bn.trans (hb.mono bn.size)
    replace RE0 := RE0.below hb
    replace V := V.below hb
    clear hb v0 v1
    cases hg : goodB k rs
    · have Z : Hid (mtV k rs es = []) := mtV_off (.inr hg)
      have RF : Hid (RowI w.heap.size w2 (.slice (some ⟨w.heap.size + 1, 0, none⟩) 0 0) (mtV k rs es)) := by show RowI _ _ _ _; rw [Z.out]; exact row_base RE0 (Nat.le_succ _)
      clear hg RE0
      go_wp2
      go_ret
      exact ⟨_, rfl, RF.out, bn⟩
    · have HK : Hid (goodB k rs = true) := hg
      have hl5 : es.length ≤ 500 := mpB_few HP.out
      have HG : Hid (∀ j, j < es.length → goodB (enA es j).2.1 (enA es j).2.2 = true) := fun j hj => mpB_good HP.out hj
      have HZ : Hid (mtV k rs es = idsP (mtP k rs) es es.length) := mtV_on HP.out hg
      have RE : Hid (RowI (w.heap.size + 1) w2 (.slice (some ⟨w.heap.size + 1, 0, none⟩) 0 0) (idsP (mtP k rs) es 0)) := RE0
      replace V : Hid (Box2 w.heap.size w2 w.heap.size (.int .i64 k) (.slice b rs.length d)) := V
      clear hg RE0
      go_wp2
      go_loopw [5, 6] (fun s5 s6 wr => ∃ (j : Nat), j ≤ es.length ∧ s6 = .int .i64 j ∧ Hid (RowI (w.heap.size + 1) wr s5 (idsP (mtP k rs) es j)) ∧ Hid (Box2 w.heap.size wr w.heap.size (.int .i64 k) (.slice b rs.length d)) ∧ Below w.heap.size w wr) (fun _ s6 _ => es.length - (intOf s6).toNat)
      case atStart => exact ⟨0, Nat.zero_le _, rfl, RE, V, bn⟩
      case round =>
        clear RE V bn
        obtain ⟨j, hj, rfl, RR, VV, B⟩ := hrel
        rename World => wr
        have V := VV.out
        obtain ⟨v0, v1, _, _⟩ := id V
        clear VV
        by_cases hlt : j < es.length
        · obtain ⟨b0, off, rfl, hc⟩ := (h.below B).cells (by intro e; simp [e] at hlt)
          obtain ⟨g0, g1, a', c', g2, sp⟩ := hc j hlt
          have HI : Hid (idsP (mtP k rs) es (j + 1) = idsP (mtP k rs) es j ++ (if (mtP k rs) (enA es j) then [(enA es j).1] else [])) := (rfl : idsP (mtP k rs) es (j + 1) = _)
          have hlj := HL.out j
          have hg := HG.out j hlt
          clear hc
          generalize enA es j = en at *
          obtain ⟨ix, n, ts⟩ := en
          dsimp only at g0 g1 g2 sp HI hg
          go_wp2_with fail
          refine wp_region_held_drew (S := Below wr.heap.size wr) (by kernel_rfl) ((Below.refl _ _).drew) (fun hHeld => ?_)
          have N : Below wr.heap.size wr wr.drew := hHeld
          revert hHeld N
          generalize wr.drew = ww0
          intro hHeld N
          refine takeQ (i := 0) (gt rfl) (by kernel_rfl) (fun _ _ _ h => h) (by rfl) (by intro wq hSw; go_simp <;> with_reducible rfl) (by assumption) ?_
          try simp only [Act.put, sA, sB, sC]
          refine takeQ (i := 1) (gt rfl) (by kernel_rfl) (fun _ _ _ h => h) (by rfl) (by intro wq hSw; go_simp <;> with_reducible rfl) (by assumption) ?_
          try simp only [Act.put, sA, sB, sC]
          refine takeQ (i := 2) (gt rfl) (by kernel_rfl) (fun _ _ _ h => h) (by rfl) (by intro wq hSw; go_simp <;> with_reducible rfl) (by assumption) ?_
          try simp only [Act.put, sA, sB, sC]
          refine takeQ (i := 3) (gt rfl) (by kernel_rfl) (fun _ _ _ h => h) (by rfl) (by intro wq hSw; go_simp <;> with_reducible rfl) (by assumption) ?_
          try simp only [Act.put, sA, sB, sC]
          refine takeQ (i := 4) (gt rfl) (by kernel_rfl) (fun _ _ _ h => h) (by rfl) (by intro wq hSw; have q1 := bat hSw g1; have q2 := bat hSw g2; have p0 := bat hSw v0; have p1 := bat hSw v1; go_simp <;> with_reducible rfl) (by assumption) ?_
          try simp only [Act.put, sA, sB, sC]
          refine takeQ (i := 5) (gt rfl) (by kernel_rfl) (fun _ _ _ h => h) (by rfl) (by intro wq hSw; have q1 := bat hSw g1; have q2 := bat hSw g2; have p0 := bat hSw v0; have p1 := bat hSw v1; go_simp <;> with_reducible rfl) (by assumption) ?_
          try simp only [Act.put, sA, sB, sC]
          refine wpAnyH_ready (rs := [6]) (by kernel_rfl) (by simp) (AllReadyH.cons (gt rfl) (fun K hK => ?_) AllReadyH.nil)
          go_simp
          refine (l6Meet_any n k a' b c' d ts rs _ (sp.below N) (HS.out.below (B.trans (N.mono B.size))) hg HK.out).mono ?_
          rintro e w2 ⟨rfl, hb⟩
          replace N := N.trans (hb.mono N.size)
          clear hb
          refine hK.out _ _ N (fun hHeld => ?_)
          clear hK K
          try simp only [Act.put, sA, sB, sC]
          refine wpAnyH_done (by kernel_rfl) ?_ _
          have V2 := V.below N
          have R2 := RR.out.below N
          replace g0 := bat N g0
          have B2 := B.trans (N.mono B.size)
          clear RR V B g1 g2 sp hg v0 v1
          replace V2 : Hid (Box2 w.heap.size w2 w.heap.size (.int .i64 k) (.slice b rs.length d)) := V2
          obtain ⟨pv, HP⟩ : ∃ z, Hid (meetS n ts k rs = z) := ⟨_, rfl⟩
          replace HI : Hid (idsP (mtP k rs) es (j + 1) = idsP (mtP k rs) es j ++ (if pv then [ix] else [])) := by rw [← HP.out]; exact HI
          rw [HP.out]
          clear HP N hHeld
          cases pv
          · have RF : Hid (RowI (w.heap.size + 1) w2 u5 (idsP (mtP k rs) es (j + 1))) := by show RowI _ _ _ _; rw [HI.out]; simpa using R2
            clear HI R2 g0
            go_wp2
            go_roundw
            case rel => exact ⟨j + 1, by omega, by go_num, RF, V2, B2⟩
            case measure => simp [intOf]; omega
          · obtain ⟨ds, HD⟩ : ∃ z, Hid (idsP (mtP k rs) es j = z) := ⟨_, rfl⟩
            rw [HD.out] at R2 hlj HI
            clear HD
            have bq := below1 w2 (.cells #[.int .i64 ix] 3)
            have R3 := R2.below bq
            have B3 := B2.trans (bq.mono B2.size)
            have V3 : Hid (Box2 w.heap.size (w2.alloc (.cells #[.int .i64 ix] 3)) w.heap.size (.int .i64 k) (.slice b rs.length d)) := V2.out.below bq
            have hz3 := V3.out.lt
            clear R2 B2 bq V2
            go_wp2_with (at_builtin; refine wpList_append_own _ rfl (.tmp 30) (.tmp 36) 28 rfl (w.heap.size + 1) 3 iX (.int .i64 0) 1 8 Tryz.underlying28 hiX hx0 hx1 hx2 rfl (by decide) u5 ds.length (ds.map (Value.int .i64)) rfl R3 ⟨w2.heap.size, 0, none⟩ 1 1 ([ix].map (Value.int .i64)) rfl rfl (one_newI _ _ _) (onesI _) (by unfold maxLen; omega) (by omega) hz3 ?_; intro v7 w7 R8 G7 nil7; clear nil7)
            have R9 : Hid (RowI (w.heap.size + 1) w7 v7 (idsP (mtP k rs) es (j + 1))) := by show RowI _ _ _ _; rw [HI.out]; exact RowI.snoc (n := 0) R8 rfl
            have B7 := B3.grown G7 (by omega) (fun q hq => by have := (World.ownsRow.lt R3 q hq).1; omega)
            have V7 : Hid (Box2 w.heap.size w7 w.heap.size (.int .i64 k) (.slice b rs.length d)) := V3.out.grown2N G7 (fun e => by have := (World.ownsRow.lt R3 _ e.symm).1; omega)
            clear R8 G7 R3 B3 HI V3
            go_roundw
            case rel => exact ⟨j + 1, by omega, by go_num, R9, V7, B7⟩
            case measure => simp [intOf]; omega
        · obtain rfl : j = es.length := by omega
          have RF : Hid (RowI w.heap.size wr u5 (mtV k rs es)) := by show RowI _ _ _ _; rw [HZ.out]; exact row_base RR.out (Nat.le_succ _)
          clear RR V v0 v1
          go_wp2
          go_ret
          exact ⟨u5, rfl, RF.out, B⟩

set_option maxRecDepth 20000 in
set_option maxHeartbeats 4000000 in
theorem l16Window_any (a : Option Addr) (c : Nat) (es : List En) (r1 r2 r3 r4 : Int) (w : World) (h : SeesEn w a c es) (hp : mpB es = true) :
    Calls Tryz.prog 23 #[.slice a es.length c, .agg #[.int .i64 r1, .int .i64 r2, .int .i64 r3, .int .i64 r4]] w fun e w' => ∃ v, e = .returned v ∧ RowI w.heap.size w' v (wnV r1 r2 r3 r4 es) ∧ Below w.heap.size w w' := by
  have hm := h.max
  have hf := h.fits
  unfold maxLen at hm
  obtain ⟨iX, hiX, hx0, hx1, hx2⟩ := info_parts infoI
  have HL : Hid (∀ j, (idsP (mtP (bxK r1 r2 r3 r4) (bxR r1 r2 r3 r4)) es j).length ≤ j) := idsP_le _ es
  have HG : Hid (∀ j, j < es.length → goodB (enA es j).2.1 (enA es j).2.2 = true) := fun j hj => mpB_good hp hj
  have HP : Hid (mpB es = true) := hp
  have b0 := below1 w (.cells #[.int .i64 r1, .int .i64 r2, .int .i64 r3, .int .i64 r4] 34)
  have V0 := Box4.new w (lo := w.heap.size) (Nat.le_refl _) (.int .i64 r1) (.int .i64 r2) (.int .i64 r3) (.int .i64 r4) 34
  have b1 := below1 (w.alloc (.cells #[.int .i64 r1, .int .i64 r2, .int .i64 r3, .int .i64 r4] 34)) (.cells #[] 3)
  have V := V0.below b1
  have RE0 : RowI (w.heap.size + 1) ((w.alloc (.cells #[.int .i64 r1, .int .i64 r2, .int .i64 r3, .int .i64 r4] 34)).alloc (.cells #[] 3)) (.slice (some ⟨(w.alloc (.cells #[.int .i64 r1, .int .i64 r2, .int .i64 r3, .int .i64 r4] 34)).heap.size, 0, none⟩) 0 0) [] := RowI.empty _ V0.lt
  have bn := b0.trans (b1.mono b0.size)
  rw [World.size_alloc] at RE0
  clear hp b0 b1 V0
  cases hk : boxOk r1 r2 r3 r4
  · have HK : Hid (boxOk r1 r2 r3 r4 = false) := hk
    have HZ : Hid (wnV r1 r2 r3 r4 es = []) := by show _ = _; unfold wnV; rw [hk]; rfl
    clear hk
    go_enter Tryz.func23, Tryz.ntmps23
    go_upto_region 2 with fail
    generalize (w.alloc (.cells #[.int .i64 r1, .int .i64 r2, .int .i64 r3, .int .i64 r4] 34)).alloc (.cells #[] 3) = W0 at *
    have RE : Hid (RowI (w.heap.size + 1) W0 (.slice (some ⟨w.heap.size + 1, 0, none⟩) 0 0) []) := RE0
    replace V : Hid (Box4 w.heap.size W0 w.heap.size (.int .i64 r1) (.int .i64 r2) (.int .i64 r3) (.int .i64 r4)) := V
    clear RE0
    go_wp2
    go_loopw [5, 6] (fun s5 s6 wr => ∃ (j : Nat), j ≤ es.length ∧ s6 = .int .i64 j ∧ s5 = .slice (some ⟨w.heap.size + 1, 0, none⟩) 0 0 ∧ Hid (RowI (w.heap.size + 1) wr (.slice (some ⟨w.heap.size + 1, 0, none⟩) 0 0) []) ∧ Hid (Box4 w.heap.size wr w.heap.size (.int .i64 r1) (.int .i64 r2) (.int .i64 r3) (.int .i64 r4)) ∧ Below w.heap.size w wr) (fun _ s6 _ => es.length - (intOf s6).toNat)
    case atStart => exact ⟨0, Nat.zero_le _, rfl, rfl, RE, V, bn⟩
    case round =>
      clear RE V bn
      obtain ⟨j, hj, rfl, rfl, RR, VV, B⟩ := hrel
      rename World => wr
      have V := VV.out
      obtain ⟨v0, v1, v2, v3, _, _⟩ := id V
      clear VV
      by_cases hlt : j < es.length
      · go_wp2_with fail
        refine wp_region_held_drew (S := Below wr.heap.size wr) (by kernel_rfl) ((Below.refl _ _).drew) (fun hHeld => ?_)
        have N : Below wr.heap.size wr wr.drew := hHeld
        revert hHeld N
        generalize wr.drew = ww0
        intro hHeld N
        refine takeQ (i := 0) (gt rfl) (by kernel_rfl) (fun _ _ _ h => h) (by rfl) (by intro wq hSw; have p0 := bat hSw v0; have p1 := bat hSw v1; have p2 := bat hSw v2; have p3 := bat hSw v3; go_simp <;> with_reducible rfl) (by assumption) ?_
        try simp only [Act.put, sA, sB, sC]
        refine wpAnyH_ready (rs := [1]) (by kernel_rfl) (by simp) (AllReadyH.cons (gt rfl) (fun K hK => ?_) AllReadyH.nil)
        go_simp
        refine (specBoxOk r1 r2 r3 r4 _).mono ?_
        rintro e w2 ⟨rfl, hb⟩
        rw [HK.out]
        replace N := N.trans (hb.mono N.size)
        clear hb
        refine hK.out _ _ N (fun hHeld => ?_)
        clear hK K
        try simp only [Act.put, sA, sB, sC]
        refine takeQ (i := 2) (gt rfl) (by kernel_rfl) (fun _ _ _ h => h) (by rfl) (by intro wq hSw; go_simp <;> with_reducible rfl) (by assumption) ?_
        try simp only [Act.put, sA, sB, sC]
        refine takeN (i := 3) (gt rfl) (by kernel_rfl) (by kernel_rfl) (by kernel_rfl) (by exact fun _ _ _ h => h) (by rfl) (by assumption) ?_
        try simp only [Act.put, sA, sB, sC]
        refine takeN (i := 4) (gt rfl) (by kernel_rfl) (by kernel_rfl) (by kernel_rfl) (by exact fun _ _ _ h => h) (by rfl) (by assumption) ?_
        try simp only [Act.put, sA, sB, sC]
        refine takeN (i := 5) (gt rfl) (by kernel_rfl) (by kernel_rfl) (by kernel_rfl) (by exact fun _ _ _ h => h) (by rfl) (by assumption) ?_
        try simp only [Act.put, sA, sB, sC]
        refine takeN (i := 6) (gt rfl) (by kernel_rfl) (by kernel_rfl) (by kernel_rfl) (by exact fun _ _ _ h => h) (by rfl) (by assumption) ?_
        try simp only [Act.put, sA, sB, sC]
        refine takeN (i := 7) (gt rfl) (by kernel_rfl) (by kernel_rfl) (by kernel_rfl) (by exact fun _ _ _ h => h) (by rfl) (by assumption) ?_
        try simp only [Act.put, sA, sB, sC]
        refine takeN (i := 8) (gt rfl) (by kernel_rfl) (by kernel_rfl) (by kernel_rfl) (by exact fun _ _ _ h => h) (by rfl) (by assumption) ?_
        try simp only [Act.put, sA, sB, sC]
        refine takeN (i := 9) (gt rfl) (by kernel_rfl) (by kernel_rfl) (by kernel_rfl) (by exact fun _ _ _ h => h) (by rfl) (by assumption) ?_
        try simp only [Act.put, sA, sB, sC]
        refine takeN (i := 10) (gt rfl) (by kernel_rfl) (by kernel_rfl) (by kernel_rfl) (by exact fun _ _ _ h => h) (by rfl) (by assumption) ?_
        try simp only [Act.put, sA, sB, sC]
        refine takeQ (i := 11) (gt rfl) (by kernel_rfl) (fun _ _ _ h => h) (by rfl) (by intro wq hSw; go_simp <;> with_reducible rfl) (by assumption) ?_
        try simp only [Act.put, sA, sB, sC]
        refine wpAnyH_done (by kernel_rfl) ?_ _
        have V2 : Hid (Box4 w.heap.size w2 w.heap.size (.int .i64 r1) (.int .i64 r2) (.int .i64 r3) (.int .i64 r4)) := V.below N
        have R2 : Hid (RowI (w.heap.size + 1) w2 (.slice (some ⟨w.heap.size + 1, 0, none⟩) 0 0) []) := RR.out.below N
        have B2 := B.trans (N.mono B.size)
        clear RR V B v0 v1 v2 v3 N hHeld
        go_wp2
        go_roundw
        case rel => exact ⟨j + 1, by omega, by go_num, rfl, R2, V2, B2⟩
        case measure => simp [intOf]; omega
      · obtain rfl : j = es.length := by omega
        have RF : Hid (RowI w.heap.size wr (.slice (some ⟨w.heap.size + 1, 0, none⟩) 0 0) (wnV r1 r2 r3 r4 es)) := by show RowI _ _ _ _; rw [HZ.out]; exact row_base RR.out (Nat.le_succ _)
        clear RR V v0 v1 v2 v3
        go_wp2
        go_ret
        exact ⟨_, rfl, RF.out, B⟩
  · have HK : Hid (boxOk r1 r2 r3 r4 = true) := hk
    have hl5 : es.length ≤ 500 := mpB_few HP.out
    have HZ : Hid (wnV r1 r2 r3 r4 es = idsP (mtP (bxK r1 r2 r3 r4) (bxR r1 r2 r3 r4)) es es.length) := by show _ = _; unfold wnV; rw [hk]; exact mtV_on HP.out (good_box hk)
    clear hk
    go_enter Tryz.func23, Tryz.ntmps23
    go_upto_region 2 with fail
    generalize (w.alloc (.cells #[.int .i64 r1, .int .i64 r2, .int .i64 r3, .int .i64 r4] 34)).alloc (.cells #[] 3) = W0 at *
    have RE : Hid (RowI (w.heap.size + 1) W0 (.slice (some ⟨w.heap.size + 1, 0, none⟩) 0 0) (idsP (mtP (bxK r1 r2 r3 r4) (bxR r1 r2 r3 r4)) es 0)) := RE0
    replace V : Hid (Box4 w.heap.size W0 w.heap.size (.int .i64 r1) (.int .i64 r2) (.int .i64 r3) (.int .i64 r4)) := V
    clear RE0
    go_wp2
    go_loopw [5, 6] (fun s5 s6 wr => ∃ (j : Nat), j ≤ es.length ∧ s6 = .int .i64 j ∧ Hid (RowI (w.heap.size + 1) wr s5 (idsP (mtP (bxK r1 r2 r3 r4) (bxR r1 r2 r3 r4)) es j)) ∧ Hid (Box4 w.heap.size wr w.heap.size (.int .i64 r1) (.int .i64 r2) (.int .i64 r3) (.int .i64 r4)) ∧ Below w.heap.size w wr) (fun _ s6 _ => es.length - (intOf s6).toNat)
    case atStart => exact ⟨0, Nat.zero_le _, rfl, RE, V, bn⟩
    case round =>
      clear RE V bn
      obtain ⟨j, hj, rfl, RR, VV, B⟩ := hrel
      rename World => wr
      have V := VV.out
      obtain ⟨v0, v1, v2, v3, _, _⟩ := id V
      clear VV
      by_cases hlt : j < es.length
      · obtain ⟨b0, off, rfl, hc⟩ := (h.below B).cells (by intro e; simp [e] at hlt)
        obtain ⟨g0, g1, a', c', g2, sp⟩ := hc j hlt
        have HI : Hid (idsP (mtP (bxK r1 r2 r3 r4) (bxR r1 r2 r3 r4)) es (j + 1) = idsP (mtP (bxK r1 r2 r3 r4) (bxR r1 r2 r3 r4)) es j ++ (if (mtP (bxK r1 r2 r3 r4) (bxR r1 r2 r3 r4)) (enA es j) then [(enA es j).1] else [])) := (rfl : idsP (mtP (bxK r1 r2 r3 r4) (bxR r1 r2 r3 r4)) es (j + 1) = _)
        have hlj := HL.out j
        have hg := HG.out j hlt
        clear hc
        generalize enA es j = en at *
        obtain ⟨ix, n, ts⟩ := en
        dsimp only at g0 g1 g2 sp HI hg
        go_wp2_with fail
        refine wp_region_held_drew (S := Below wr.heap.size wr) (by kernel_rfl) ((Below.refl _ _).drew) (fun hHeld => ?_)
        have N : Below wr.heap.size wr wr.drew := hHeld
        revert hHeld N
        generalize wr.drew = ww0
        intro hHeld N
        refine takeQ (i := 0) (gt rfl) (by kernel_rfl) (fun _ _ _ h => h) (by rfl) (by intro wq hSw; have p0 := bat hSw v0; have p1 := bat hSw v1; have p2 := bat hSw v2; have p3 := bat hSw v3; go_simp <;> with_reducible rfl) (by assumption) ?_
        try simp only [Act.put, sA, sB, sC]
        refine wpAnyH_ready (rs := [1]) (by kernel_rfl) (by simp) (AllReadyH.cons (gt rfl) (fun K hK => ?_) AllReadyH.nil)
        go_simp
        refine (specBoxOk r1 r2 r3 r4 _).mono ?_
        rintro e w2 ⟨rfl, hb⟩
        rw [HK.out]
        replace N := N.trans (hb.mono N.size)
        clear hb
        refine hK.out _ _ N (fun hHeld => ?_)
        clear hK K
        try simp only [Act.put, sA, sB, sC]
        refine takeQ (i := 2) (gt rfl) (by kernel_rfl) (fun _ _ _ h => h) (by rfl) (by intro wq hSw; go_simp <;> with_reducible rfl) (by assumption) ?_
        try simp only [Act.put, sA, sB, sC]
        refine takeQ (i := 3) (gt rfl) (by kernel_rfl) (fun _ _ _ h => h) (by rfl) (by intro wq hSw; go_simp <;> with_reducible rfl) (by assumption) ?_
        try simp only [Act.put, sA, sB, sC]
        refine takeQ (i := 4) (gt rfl) (by kernel_rfl) (fun _ _ _ h => h) (by rfl) (by intro wq hSw; go_simp <;> with_reducible rfl) (by assumption) ?_
        try simp only [Act.put, sA, sB, sC]
        refine takeQ (i := 5) (gt rfl) (by kernel_rfl) (fun _ _ _ h => h) (by rfl) (by intro wq hSw; go_simp <;> with_reducible rfl) (by assumption) ?_
        try simp only [Act.put, sA, sB, sC]
        refine takeQ (i := 6) (gt rfl) (by kernel_rfl) (fun _ _ _ h => h) (by rfl) (by intro wq hSw; go_simp <;> with_reducible rfl) (by assumption) ?_
        try simp only [Act.put, sA, sB, sC]
        refine takeQ (i := 7) (gt rfl) (by kernel_rfl) (fun _ _ _ h => h) (by rfl) (by intro wq hSw; have q1 := bat hSw g1; have q2 := bat hSw g2; have p0 := bat hSw v0; have p1 := bat hSw v1; have p2 := bat hSw v2; have p3 := bat hSw v3; go_simp <;> with_reducible rfl) (by assumption) ?_
        try simp only [Act.put, sA, sB, sC]
        refine takeQ (i := 8) (gt rfl) (by kernel_rfl) (fun _ _ _ h => h) (by rfl) (by intro wq hSw; have q1 := bat hSw g1; have q2 := bat hSw g2; have p0 := bat hSw v0; have p1 := bat hSw v1; have p2 := bat hSw v2; have p3 := bat hSw v3; go_simp <;> with_reducible rfl) (by assumption) ?_
        try simp only [Act.put, sA, sB, sC]
        refine wpAnyH_ready (rs := [9]) (by kernel_rfl) (by simp) (AllReadyH.cons (gt rfl) (fun K hK => ?_) AllReadyH.nil)
        go_simp
        refine (l6Box_any r1 r2 r3 r4 _).mono ?_
        rintro e w3 ⟨qb, rfl, S, hb⟩
        replace N := N.trans (hb.mono N.size)
        refine hK.out _ _ N (fun hHeld => ?_)
        clear hK K
        try simp only [Act.put, sA, sB, sC]
        refine wpAnyH_ready (rs := [10]) (by kernel_rfl) (by simp) (AllReadyH.cons (gt rfl) (fun K hK => ?_) AllReadyH.nil)
        go_simp
        refine (l6Meet_any n _ a' qb c' 1 ts _ _ (sp.below N) S hg (good_box HK.out)).mono ?_
        rintro e w4 ⟨rfl, hb2⟩
        replace N := N.trans (hb2.mono N.size)
        clear hb hb2 S
        refine hK.out _ _ N (fun hHeld => ?_)
        clear hK K
        try simp only [Act.put, sA, sB, sC]
        refine takeQ (i := 11) (gt rfl) (by kernel_rfl) (fun _ _ _ h => h) (by rfl) (by intro wq hSw; go_simp <;> with_reducible rfl) (by assumption) ?_
        try simp only [Act.put, sA, sB, sC]
        refine wpAnyH_done (by kernel_rfl) ?_ _
        have V2 := V.below N
        have R2 := RR.out.below N
        replace g0 := bat N g0
        have B2 := B.trans (N.mono B.size)
        clear RR V B g1 g2 sp hg v0 v1 v2 v3
        replace V2 : Hid (Box4 w.heap.size w4 w.heap.size (.int .i64 r1) (.int .i64 r2) (.int .i64 r3) (.int .i64 r4)) := V2
        obtain ⟨pv, HP⟩ : ∃ z, Hid (meetS n ts (bxK r1 r2 r3 r4) (bxR r1 r2 r3 r4) = z) := ⟨_, rfl⟩
        replace HI : Hid (idsP (mtP (bxK r1 r2 r3 r4) (bxR r1 r2 r3 r4)) es (j + 1) = idsP (mtP (bxK r1 r2 r3 r4) (bxR r1 r2 r3 r4)) es j ++ (if pv then [ix] else [])) := by rw [← HP.out]; exact HI
        rw [HP.out]
        clear HP N hHeld
        cases pv
        · have RF : Hid (RowI (w.heap.size + 1) w4 u5 (idsP (mtP (bxK r1 r2 r3 r4) (bxR r1 r2 r3 r4)) es (j + 1))) := by show RowI _ _ _ _; rw [HI.out]; simpa using R2
          clear HI R2 g0
          go_wp2
          go_roundw
          case rel => exact ⟨j + 1, by omega, by go_num, RF, V2, B2⟩
          case measure => simp [intOf]; omega
        · obtain ⟨ds, HD⟩ : ∃ z, Hid (idsP (mtP (bxK r1 r2 r3 r4) (bxR r1 r2 r3 r4)) es j = z) := ⟨_, rfl⟩
          rw [HD.out] at R2 hlj HI
          clear HD
          have bq := below1 w4 (.cells #[.int .i64 ix] 3)
          have R3 := R2.below bq
          have B3 := B2.trans (bq.mono B2.size)
          have V3 : Hid (Box4 w.heap.size (w4.alloc (.cells #[.int .i64 ix] 3)) w.heap.size (.int .i64 r1) (.int .i64 r2) (.int .i64 r3) (.int .i64 r4)) := V2.out.below bq
          have hz3 := V3.out.lt
          clear R2 B2 bq V2
          go_wp2_with (at_builtin; refine wpList_append_own _ rfl (.tmp 26) (.tmp 32) 28 rfl (w.heap.size + 1) 3 iX (.int .i64 0) 1 8 Tryz.underlying28 hiX hx0 hx1 hx2 rfl (by decide) u5 ds.length (ds.map (Value.int .i64)) rfl R3 ⟨w4.heap.size, 0, none⟩ 1 1 ([ix].map (Value.int .i64)) rfl rfl (one_newI _ _ _) (onesI _) (by unfold maxLen; omega) (by omega) hz3 ?_; intro v7 w7 R8 G7 nil7; clear nil7)
          have R9 : Hid (RowI (w.heap.size + 1) w7 v7 (idsP (mtP (bxK r1 r2 r3 r4) (bxR r1 r2 r3 r4)) es (j + 1))) := by show RowI _ _ _ _; rw [HI.out]; exact RowI.snoc (n := 0) R8 rfl
          have B7 := B3.grown G7 (by omega) (fun q hq => by have := (World.ownsRow.lt R3 q hq).1; omega)
          have V7 : Hid (Box4 w.heap.size w7 w.heap.size (.int .i64 r1) (.int .i64 r2) (.int .i64 r3) (.int .i64 r4)) := V3.out.grown4N G7 (fun e => by have := (World.ownsRow.lt R3 _ e.symm).1; omega)
          clear R8 G7 R3 B3 HI V3
          go_roundw
          case rel => exact ⟨j + 1, by omega, by go_num, R9, V7, B7⟩
          case measure => simp [intOf]; omega
      · obtain rfl : j = es.length := by omega
        have RF : Hid (RowI w.heap.size wr u5 (wnV r1 r2 r3 r4 es)) := by show RowI _ _ _ _; rw [HZ.out]; exact row_base RR.out (Nat.le_succ _)
        clear RR V v0 v1 v2 v3
        go_wp2
        go_ret
        exact ⟨u5, rfl, RF.out, B⟩

set_option maxRecDepth 20000 in
set_option maxHeartbeats 4000000 in
theorem specWindow (a : Option Addr) (c : Nat) (es : List En) (r1 r2 r3 r4 : Int) (w : World) (h : SeesEn w a c es) :
    Calls Tryz.prog 6 #[.slice a es.length c, .agg #[.int .i64 r1, .int .i64 r2, .int .i64 r3, .int .i64 r4]] w fun e w' => ∃ v, e = .returned v ∧ RowI w.heap.size w' v (wnV r1 r2 r3 r4 es) ∧ Below w.heap.size w w' := by
  have bn := below1 w (.cells #[.int .i64 r1, .int .i64 r2, .int .i64 r3, .int .i64 r4] 34)
  have V := Box4.new w (lo := w.heap.size) (Nat.le_refl _) (.int .i64 r1) (.int .i64 r2) (.int .i64 r3) (.int .i64 r4) 34
  replace h := h.below bn
  go_enter Tryz.func6, Tryz.ntmps6
  go_upto_region 1 with fail
  generalize w.alloc (.cells #[.int .i64 r1, .int .i64 r2, .int .i64 r3, .int .i64 r4] 34) = W0 at *
  go_wp2_with fail
  refine (specMapOk a c es _ h).mono ?_
  rintro e w1 ⟨rfl, hb⟩
  replace bn := bn.trans (hb.mono bn.size)
  replace h := h.below hb
  replace V := V.below hb
  clear hb
  obtain ⟨v0, v1, v2, v3, _, _⟩ := id V
  cases hp : mpB es
  · have Z : Hid (wnV r1 r2 r3 r4 es = []) := by
      show _ = _
      unfold wnV
      rw [mtV_off (.inl hp)]
      split <;> rfl
    have RE : Hid (RowI w.heap.size (w1.alloc (.cells #[] 3)) (.slice (some ⟨w1.heap.size, 0, none⟩) 0 0) []) := RowI.empty _ bn.size
    have b1 := below1 w1 (.cells #[] 3)
    replace bn := bn.trans (b1.mono bn.size)
    clear hp b1 V v0 v1 v2 v3
    go_wp2
    go_ret
    exact ⟨_, rfl, by rw [Z.out]; exact RE.out, bn⟩
  · have C := l16Window_any a c es r1 r2 r3 r4 w1 h hp
    clear hp
    go_wp2_with fail
    refine C.mono ?_
    rintro e w2 ⟨v, rfl, R, hb⟩
    have RE : Hid (RowI w.heap.size w2 v (wnV r1 r2 r3 r4 es)) := row_base R bn.size
    replace bn := bn.trans (hb.mono bn.size)
    clear hb R C
    go_wp2
    go_ret
    exact ⟨v, rfl, RE.out, bn⟩
end Go.Proofs.YtecjeomcbcpfiaaGreat
