/- The chain of left turns of the program: leftTurns. -/
import Derived.Test.YtbdpnfdpnaoicaaHulC
import Derived.Test.YtbdpnfdpnaoicaaPtT
import Derived.Test.YtbdpnfdpnaoicaaHeld
import Derived.Deep.Cut
namespace Go.Proofs.Ytbdpnfdpnaoicaa
open Go.RowKit

theorem rev_last {b : Pn} {r : List Pn} {a' : Pn} : ptN ((b :: a' :: r).reverse) (r.length + 1) = b := by simp [ptN]
theorem rev_last2 {b : Pn} {r : List Pn} {a' : Pn} : ptN ((b :: a' :: r).reverse) r.length = a' := by simp [ptN]
theorem rev_take {b : Pn} {r : List Pn} {a' : Pn} : ((b :: a' :: r).reverse).take (r.length + 1) = (a' :: r).reverse := by rw [List.reverse_cons]; exact List.take_left' (by simp)
theorem SeesP.at0 {w : World} {a : Option Addr} {c i : Nat} {ps : List Pn} {p1 p2 : Int} (h : SeesP w a c ps) (hi : i < ps.length) (hp : ptN ps i = (p1, p2)) : ∃ b o, a = some ⟨b, o, none⟩ ∧ w.cell? ⟨b, o + i * 2, none⟩ = some (.int .i64 p1) ∧ w.cell? ⟨b, o + i * 2 + 1, none⟩ = some (.int .i64 p2) := by
  obtain ⟨b, o, e, hc⟩ := h.cells (by intro e; rw [e] at hi; simp at hi)
  have := hc i hi
  unfold ptN at hp
  rw [hp] at this
  exact ⟨b, o, e, this.1, this.2⟩
def lenOf : Value → Nat
  | .slice _ n _ => n
  | _ => 0

set_option maxRecDepth 20000 in
set_option maxHeartbeats 4000000 in
theorem leftTurns_any (a : Option Addr) (c : Nat) (ps : List Pn) (w : World) (h : SeesP w a c ps) (hl : ps.length ≤ 500) (ok : ∀ q ∈ ps, Crd q.1 ∧ Crd q.2) :
    Calls Try.prog 22 #[.slice a ps.length c] w fun e w' => ∃ v, e = .returned v ∧ RowPt w.heap.size w' v (chn ps) ∧ Below w.heap.size w w' := by
  have hm := h.max
  have hf := h.fits
  unfold maxLen at hm
  obtain ⟨iP, hiP, hP0, hP1, hP2⟩ := info_parts infoPt
  have OKP : Hid (∀ q ∈ ps, Crd q.1 ∧ Crd q.2) := ok
  clear ok
  have R0 := RowPt.nil w.heap.size w
  have B0 := Below.refl w.heap.size w
  go_enter Try.func22, Try.ntmps22
  go_wp2
  go_loopw [3, 9] (fun s3 si wr => ∃ i : Nat, i ≤ ps.length ∧ si = .int .i64 i ∧ RowPt w.heap.size wr s3 (chnR [] (ps.take i)).reverse ∧ Below w.heap.size w wr) (fun _ si _ => ps.length - (intOf si).toNat)
  case atStart => exact ⟨0, Nat.zero_le _, rfl, R0, B0⟩
  case round =>
    clear R0 B0
    obtain ⟨i, hi, rfl, R, B⟩ := hrel
    rename World => wr
    by_cases hlt : i < ps.length
    · obtain ⟨⟨p1, p2⟩, hp⟩ : ∃ p : Pn, Hid (ptN ps i = p) := ⟨_, rfl⟩
      have hpm : (p1, p2) ∈ ps := by rw [← hp.out]; exact (mem_ptN ps _).2 ⟨i, hlt, rfl⟩
      have op := OKP.out _ hpm
      dsimp only at op
      have TK : ps.take (i + 1) = ps.take i ++ [(p1, p2)] := by rw [List.take_succ_eq_append_getElem hlt, ← hp.out]; unfold ptN; rw [List.getElem?_eq_getElem hlt]; rfl
      have OKS : Hid (∀ q ∈ chnR [] (ps.take i), Crd q.1 ∧ Crd q.2) := fun q hq => by
        rcases chnR_mem _ _ _ hq with h' | h'
        · cases h'
        · exact OKP.out q (List.mem_of_mem_take h')
      have KLS : Hid ((chnR [] (ps.take i)).length ≤ 500) := by have := (chnR_len (ps.take i) []).1; rw [List.length_take] at this; simp at this; show _ ≤ _; omega
      have HK : Hid (chnR [] (ps.take (i + 1)) = (p1, p2) :: popR (chnR [] (ps.take i)) (p1, p2)) := by show _ = _; rw [TK, chnR_snoc]
      clear TK hpm
      generalize chnR [] (ps.take i) = ks at *
      · obtain ⟨bA, oA, rfl, y0, y1⟩ := (h.below B).at0 hlt hp.out
        have PB0 := Box2.new wr (lo := w.heap.size) B.size (.int .i64 p1) (.int .i64 p2) 29
        have hb := below1 wr (.cells #[.int .i64 p1, .int .i64 p2] 29)
        have RI0 := R.below hb
        have BI0 := B.trans (hb.mono B.size)
        clear hb R B
        obtain ⟨g0, c0', e0, hc0, hm0⟩ := RI0.shape
        subst e0
        unfold maxLen at hm0
        rw [List.length_reverse] at hc0 RI0 ⊢
        go_wp2
        go_loopw [3, 6] (fun s3 s6 wi => ∃ k2 : List Pn, s6 = .int .i64 (k2.length : Nat) ∧ Hid (popR ks (p1, p2) = popR k2 (p1, p2)) ∧ Hid (∀ q ∈ k2, Crd q.1 ∧ Crd q.2) ∧ Hid (k2.length ≤ 500) ∧ RowPt w.heap.size wi s3 k2.reverse ∧ Box2 w.heap.size wi wr.heap.size (.int .i64 p1) (.int .i64 p2) ∧ Below w.heap.size w wi) (fun _ s6 _ => (intOf s6).toNat)
        case atStart => exact ⟨ks, (by first | rfl | (rw [List.length_reverse])), rfl, OKS, KLS, RI0, PB0, BI0⟩
        case round =>
          clear RI0 BI0 PB0 OKS KLS
          obtain ⟨k2, rfl, HP, OKK, KL, RI, PB, BI⟩ := hrel
          rename World => wi
          obtain ⟨g3, c3, e3, hc3, hm3⟩ := RI.shape
          subst e3
          unfold maxLen at hm3
          rw [List.length_reverse] at hc3 RI ⊢
          by_cases long : 2 ≤ k2.length
          · obtain ⟨⟨b1, b2⟩, ⟨a1, a2⟩, r, rfl⟩ : ∃ b a' r, k2 = b :: a' :: r := by
              match k2, long with
              | b :: a' :: r, _ => exact ⟨b, a', r, rfl⟩
            clear long
            · have ob := OKK.out (b1, b2) (by simp)
              have oa := OKK.out (a1, a2) (by simp)
              dsimp only at oa ob
              obtain ⟨g, rfl⟩ : ∃ g, g3 = some ⟨g, 0, none⟩ := by
                rcases RI.2 with ⟨hv, h0⟩ | ⟨q, cap', cur, hv, _⟩
                · simp at h0
                · injection hv with h1 _ _
                  exact ⟨q, h1⟩
              obtain ⟨⟨r0, r1⟩, -⟩ := RI.atN (i := r.length) (by rw [List.length_reverse]; simp only [List.length_cons]; omega)
              obtain ⟨⟨r2, r3⟩, -⟩ := RI.atN (i := r.length + 1) (by rw [List.length_reverse]; simp only [List.length_cons]; omega)
              rw [rev_last2] at r0 r1
              rw [rev_last] at r2 r3
              dsimp only at r0 r1 r2 r3
              obtain ⟨x0, x1, _, _⟩ := id PB
              have r4 := x0
              have r5 := x1
              obtain ⟨n, hn⟩ : ∃ n : Nat, Hid (r.length + 1 + 1 = n) := ⟨_, rfl⟩
              have LL : ((b1, b2) :: (a1, a2) :: r).length = n := by rw [← hn.out]; simp
              have KB := KL.out
              rw [LL] at KB hc3 RI ⊢
              have e2 : Hid (r.length = n - 2) := by have := hn.out; show _ = _; omega
              have e1 : Hid (r.length + 1 = n - 1) := by have := hn.out; show _ = _; omega
              have ng2 : 2 ≤ n := by have := hn.out; omega
              rw [e2.out] at r0 r1
              rw [e1.out] at r2 r3
              have n1 : (n : Int) - 1 = ((n - 1 : Nat) : Int) := by omega
              have n2 : (n : Int) - 2 = ((n - 2 : Nat) : Int) := by omega
              have wn1 : IntKind.i64.wrap ((n - 1 : Nat) : Int) = ((n - 1 : Nat) : Int) := by rw [IntKind.wrap_i64]; omega
              have wn2 : IntKind.i64.wrap ((n - 2 : Nat) : Int) = ((n - 2 : Nat) : Int) := by rw [IntKind.wrap_i64]; omega
              have bn1 : ((n - 1 : Nat) : Int) < (n : Int) := by omega
              have bn2 : ((n - 2 : Nat) : Int) < (n : Int) := by omega
              have gt1 : (1 : Int) < (n : Int) := by omega
              have wix : IntKind.i64.wrap (i : Int) = (i : Int) := by rw [IntKind.wrap_i64]; omega
              have bix : (i : Int) < (ps.length : Int) := by omega
              have LS : Hid (((a1, a2) :: r).length = n - 1) := by show _ = _; rw [← e1.out]; simp
              clear LL
              go_upto_region 6 with fail
              refine wp_region_held_drew (S := Below wi.heap.size wi) (by kernel_rfl) ((Below.refl _ _).drew) (fun hHeld => ?_)
              have N : Below wi.heap.size wi wi.drew := hHeld
              revert hHeld N
              generalize wi.drew = ww0
              intro hHeld N
              refine takeQ (i := 0) (gt rfl) (by kernel_rfl) (fun _ _ _ h => h) (by rfl) (by intro wq _; go_simp <;> with_reducible rfl) (by assumption) ?_
              try simp only [Act.put, sA, sB, sC]
              refine takeQ (i := 1) (gt rfl) (by kernel_rfl) (fun _ _ _ h => h) (by rfl) (by intro wq _; go_simp <;> with_reducible rfl) (by assumption) ?_
              try simp only [Act.put, sA, sB, sC]
              refine takeQ (i := 2) (gt rfl) (by kernel_rfl) (fun _ _ _ h => h) (by rfl) (by intro wq _; go_simp <;> with_reducible rfl) (by assumption) ?_
              try simp only [Act.put, sA, sB, sC]
              refine takeQ (i := 3) (gt rfl) (by kernel_rfl) (fun _ _ _ h => h) (by rfl) (by intro wq _; go_simp <;> with_reducible rfl) (by assumption) ?_
              try simp only [Act.put, sA, sB, sC]
              refine takeQ (i := 4) (gt rfl) (by kernel_rfl) (fun _ _ _ h => h) (by rfl) (by intro wq _; go_simp <;> with_reducible rfl) (by assumption) ?_
              try simp only [Act.put, sA, sB, sC]
              refine takeQ (i := 5) (gt rfl) (by kernel_rfl) (fun _ _ _ h => h) (by rfl) (by intro wq _; go_simp <;> with_reducible rfl) (by assumption) ?_
              try simp only [Act.put, sA, sB, sC]
              refine takeQ (i := 6) (gt rfl) (by kernel_rfl) (fun _ _ _ h => h) (by rfl) (by intro wq _; go_simp <;> with_reducible rfl) (by assumption) ?_
              try simp only [Act.put, sA, sB, sC]
              refine takeQ (i := 7) (gt rfl) (by kernel_rfl) (fun _ _ _ h => h) (by rfl) (by intro wq hSw; have q0 := bat hSw r0; have q1 := bat hSw r1; have q2 := bat hSw r2; have q3 := bat hSw r3; have q4 := bat hSw r4; have q5 := bat hSw r5; go_simp <;> with_reducible rfl) (by assumption) ?_
              try simp only [Act.put, sA, sB, sC]
              refine takeQ (i := 8) (gt rfl) (by kernel_rfl) (fun _ _ _ h => h) (by rfl) (by intro wq _; go_simp <;> with_reducible rfl) (by assumption) ?_
              try simp only [Act.put, sA, sB, sC]
              refine takeQ (i := 9) (gt rfl) (by kernel_rfl) (fun _ _ _ h => h) (by rfl) (by intro wq _; go_simp <;> with_reducible rfl) (by assumption) ?_
              try simp only [Act.put, sA, sB, sC]
              refine takeQ (i := 10) (gt rfl) (by kernel_rfl) (fun _ _ _ h => h) (by rfl) (by intro wq _; go_simp <;> with_reducible rfl) (by assumption) ?_
              try simp only [Act.put, sA, sB, sC]
              refine takeQ (i := 11) (gt rfl) (by kernel_rfl) (fun _ _ _ h => h) (by rfl) (by intro wq _; go_simp <;> with_reducible rfl) (by assumption) ?_
              try simp only [Act.put, sA, sB, sC]
              refine takeQ (i := 12) (gt rfl) (by kernel_rfl) (fun _ _ _ h => h) (by rfl) (by intro wq hSw; have q0 := bat hSw r0; have q1 := bat hSw r1; have q2 := bat hSw r2; have q3 := bat hSw r3; have q4 := bat hSw r4; have q5 := bat hSw r5; go_simp <;> with_reducible rfl) (by assumption) ?_
              try simp only [Act.put, sA, sB, sC]
              refine takeQ (i := 13) (gt rfl) (by kernel_rfl) (fun _ _ _ h => h) (by rfl) (by intro wq hSw; have q0 := bat hSw r0; have q1 := bat hSw r1; have q2 := bat hSw r2; have q3 := bat hSw r3; have q4 := bat hSw r4; have q5 := bat hSw r5; go_simp <;> with_reducible rfl) (by assumption) ?_
              try simp only [Act.put, sA, sB, sC]
              refine wpAnyH_ready (rs := [14]) (by kernel_rfl) (by simp) (AllReadyH.cons (gt rfl) (fun K hK => ?_) AllReadyH.nil)
              go_simp
              refine (turn_any a1 a2 b1 b2 p1 p2 _ oa.1 oa.2 ob.1 ob.2 op.1 op.2).mono ?_
              rintro e1 ww1 ⟨rfl, hb⟩
              replace N := N.trans (hb.mono N.size)
              clear hb
              refine hK.out _ _ N (fun hHeld => ?_)
              clear hK K
              try simp only [Act.put, sA, sB, sC]
              refine takeQ (i := 15) (gt rfl) (by kernel_rfl) (fun _ _ _ h => h) (by rfl) (by intro wq _; go_simp <;> with_reducible rfl) (by assumption) ?_
              try simp only [Act.put, sA, sB, sC]
              refine takeQ (i := 16) (gt rfl) (by kernel_rfl) (fun _ _ _ h => h) (by rfl) (by intro wq _; go_simp <;> with_reducible rfl) (by assumption) ?_
              try simp only [Act.put, sA, sB, sC]
              refine wpAnyH_done (by kernel_rfl) ?_ _
              replace PB := PB.below N
              replace RI := RI.below N
              replace BI := BI.trans (N.mono BI.size)
              clear N
              by_cases hle : ar a1 a2 b1 b2 p1 p2 ≤ 0
              · have hs : sgn1 (ar a1 a2 b1 b2 p1 p2) ≤ 0 := by unfold sgn1; split <;> (try split) <;> omega
                have HP2 : Hid (popR ks (p1, p2) = popR ((a1, a2) :: r) (p1, p2)) := by show _ = _; rw [HP.out]; exact popR_pop hle
                have OK2 : Hid (∀ q ∈ (a1, a2) :: r, Crd q.1 ∧ Crd q.2) := fun q hq => OKK.out q (List.mem_cons_of_mem _ hq)
                have RC := RI.cut (m := n - 1) (by rw [List.length_reverse, ← e1.out]; simp)
                rw [show List.take (n - 1) ((b1, b2) :: (a1, a2) :: r).reverse = ((a1, a2) :: r).reverse by rw [← e1.out]; exact rev_take] at RC
                have KL2 : Hid (((a1, a2) :: r).length ≤ 500) := by have := KL.out; simp only [List.length_cons] at this; show _ ≤ _; simp only [List.length_cons]; omega
                generalize sgn1 (ar a1 a2 b1 b2 p1 p2) = sg at *
                clear r0 r1 r2 r3 RI 
                go_wp2
                go_roundw
                case rel => exact ⟨(a1, a2) :: r, (by rw [LS.out]; first | done | rfl | go_num), HP2, OK2, KL2, RC, PB, BI⟩
                case measure => simp [intOf] <;> omega
              · have hs : ¬ sgn1 (ar a1 a2 b1 b2 p1 p2) ≤ 0 := by unfold sgn1; rw [if_pos (by omega)]; omega
                replace HP : Hid (popR ks (p1, p2) = (b1, b2) :: (a1, a2) :: r) := by show _ = _; rw [HP.out]; exact popR_stay hle
                generalize sgn1 (ar a1 a2 b1 b2 p1 p2) = sg at *
                clear r0 r1 r2 r3 
                have KF : Hid (chnR [] (ps.take (i + 1)) = (p1, p2) :: ((b1, b2) :: (a1, a2) :: r)) := by show _ = _; rw [HK.out, HP.out]
                have hb := below1 ww1 (.cells #[.int .i64 p1, .int .i64 p2] 29)
                have NW := pt_new ww1 29 p1 p2
                obtain ⟨x0, x1, _, _⟩ := id PB
                have RA := RI.below hb
                have BA := BI.trans (hb.mono BI.size)
                have za := BA.size
                have LK := KL.out
                clear hb
                go_wp2_with (at_builtin; refine wpList_append_own _ rfl (.tmp 38) (.tmp 40) 24 rfl w.heap.size 29 iP (.agg #[.int .i64 0, .int .i64 0]) 2 16 Try.underlying24 hiP hP0 hP1 hP2 rfl (by decide) (.slice (some ⟨g, 0, none⟩) n c3) (((b1, b2) :: (a1, a2) :: r)).reverse.length (ptC (((b1, b2) :: (a1, a2) :: r)).reverse) rfl RA ⟨ww1.heap.size, 0, none⟩ 1 _ (ptC [(p1, p2)]) rfl rfl NW (ptC_ones _) (by unfold maxLen; rw [List.length_reverse]; omega) (by rw [List.length_reverse]; omega) za ?_; intro v7 w7 R7 G7 _; replace R7 := RowPt.snoc R7)
                have B7 := BA.grown G7 za (fun k hk => (World.ownsRow.lt RA k hk).1)
                go_roundw
                case rel => exact ⟨i + 1, by omega, by go_num, (by rw [KF.out, List.reverse_cons]; exact R7), B7⟩
                case measure => simp [intOf] <;> omega
          · have short : k2.length ≤ 1 := by omega
            clear long
            · have ng1 : ¬ (1 : Int) < ((k2.length : Nat) : Int) := by omega
              have wix : IntKind.i64.wrap (i : Int) = (i : Int) := by rw [IntKind.wrap_i64]; omega
              go_upto_region 6 with fail
              refine wp_region_held_drew (S := Below wi.heap.size wi) (by kernel_rfl) ((Below.refl _ _).drew) (fun hHeld => ?_)
              have N : Below wi.heap.size wi wi.drew := hHeld
              revert hHeld N
              generalize wi.drew = ww0
              intro hHeld N
              refine takeQ (i := 0) (gt rfl) (by kernel_rfl) (fun _ _ _ h => h) (by rfl) (by intro wq _; go_simp <;> with_reducible rfl) (by assumption) ?_
              try simp only [Act.put, sA, sB, sC]
              refine takeQ (i := 1) (gt rfl) (by kernel_rfl) (fun _ _ _ h => h) (by rfl) (by intro wq _; go_simp <;> with_reducible rfl) (by assumption) ?_
              try simp only [Act.put, sA, sB, sC]
              refine takeQ (i := 2) (gt rfl) (by kernel_rfl) (fun _ _ _ h => h) (by rfl) (by intro wq _; go_simp <;> with_reducible rfl) (by assumption) ?_
              try simp only [Act.put, sA, sB, sC]
              refine takeN (i := 3) (gt rfl) (by kernel_rfl) (by kernel_rfl) (by kernel_rfl) (by exact fun _ _ _ h => h) (by rfl) (by assumption) ?_
              try simp only [Act.put, sA, sB, sC]
              refine takeN (i := 4) (gt rfl) (by kernel_rfl) (by kernel_rfl) (by kernel_rfl) (by exact fun _ _ _ h => h) (by rfl) (by assumption) ?_
              try simp only [Act.put, sA, sB, sC]
              refine takeN (i := 5) (gt rfl) (by kernel_rfl) (by kernel_rfl) (by kernel_rfl) (by exact fun _ _ _ h => h) (by rfl) (by assumption) ?_
              try simp only [Act.put, sA, sB, sC]
              refine takeN (i := 6) (gt rfl) (by kernel_rfl) (by kernel_rfl) (by kernel_rfl) (by exact fun _ _ _ h => h) (by rfl) (by assumption) ?_
              try simp only [Act.put, sA, sB, sC]
              refine takeN (i := 7) (gt rfl) (by kernel_rfl) (by kernel_rfl) (by kernel_rfl) (by exact fun _ _ _ h => h) (by rfl) (by assumption) ?_
              try simp only [Act.put, sA, sB, sC]
              refine takeN (i := 8) (gt rfl) (by kernel_rfl) (by kernel_rfl) (by kernel_rfl) (by exact fun _ _ _ h => h) (by rfl) (by assumption) ?_
              try simp only [Act.put, sA, sB, sC]
              refine takeN (i := 9) (gt rfl) (by kernel_rfl) (by kernel_rfl) (by kernel_rfl) (by exact fun _ _ _ h => h) (by rfl) (by assumption) ?_
              try simp only [Act.put, sA, sB, sC]
              refine takeN (i := 10) (gt rfl) (by kernel_rfl) (by kernel_rfl) (by kernel_rfl) (by exact fun _ _ _ h => h) (by rfl) (by assumption) ?_
              try simp only [Act.put, sA, sB, sC]
              refine takeN (i := 11) (gt rfl) (by kernel_rfl) (by kernel_rfl) (by kernel_rfl) (by exact fun _ _ _ h => h) (by rfl) (by assumption) ?_
              try simp only [Act.put, sA, sB, sC]
              refine takeN (i := 12) (gt rfl) (by kernel_rfl) (by kernel_rfl) (by kernel_rfl) (by exact fun _ _ _ h => h) (by rfl) (by assumption) ?_
              try simp only [Act.put, sA, sB, sC]
              refine takeN (i := 13) (gt rfl) (by kernel_rfl) (by kernel_rfl) (by kernel_rfl) (by exact fun _ _ _ h => h) (by rfl) (by assumption) ?_
              try simp only [Act.put, sA, sB, sC]
              refine takeN (i := 14) (gt rfl) (by kernel_rfl) (by kernel_rfl) (by kernel_rfl) (by exact fun _ _ _ h => h) (by rfl) (by assumption) ?_
              try simp only [Act.put, sA, sB, sC]
              refine takeN (i := 15) (gt rfl) (by kernel_rfl) (by kernel_rfl) (by kernel_rfl) (by exact fun _ _ _ h => h) (by rfl) (by assumption) ?_
              try simp only [Act.put, sA, sB, sC]
              refine takeQ (i := 16) (gt rfl) (by kernel_rfl) (fun _ _ _ h => h) (by rfl) (by intro wq _; go_simp <;> with_reducible rfl) (by assumption) ?_
              try simp only [Act.put, sA, sB, sC]
              refine wpAnyH_done (by kernel_rfl) ?_ _
              replace PB := PB.below N
              replace RI := RI.below N
              replace BI := BI.trans (N.mono BI.size)
              clear N
              replace HP : Hid (popR ks (p1, p2) = k2) := by show _ = _; rw [HP.out]; exact popR_short _ short
              have KF : Hid (chnR [] (ps.take (i + 1)) = (p1, p2) :: k2) := by show _ = _; rw [HK.out, HP.out]
              have hb := below1 ww0 (.cells #[.int .i64 p1, .int .i64 p2] 29)
              have NW := pt_new ww0 29 p1 p2
              obtain ⟨x0, x1, _, _⟩ := id PB
              have RA := RI.below hb
              have BA := BI.trans (hb.mono BI.size)
              have za := BA.size
              have LK := KL.out
              clear hb
              go_wp2_with (at_builtin; refine wpList_append_own _ rfl (.tmp 38) (.tmp 40) 24 rfl w.heap.size 29 iP (.agg #[.int .i64 0, .int .i64 0]) 2 16 Try.underlying24 hiP hP0 hP1 hP2 rfl (by decide) (.slice g3 k2.length c3) (k2).reverse.length (ptC (k2).reverse) rfl RA ⟨ww0.heap.size, 0, none⟩ 1 _ (ptC [(p1, p2)]) rfl rfl NW (ptC_ones _) (by unfold maxLen; rw [List.length_reverse]; omega) (by rw [List.length_reverse]; omega) za ?_; intro v7 w7 R7 G7 _; replace R7 := RowPt.snoc R7)
              have B7 := BA.grown G7 za (fun k hk => (World.ownsRow.lt RA k hk).1)
              go_roundw
              case rel => exact ⟨i + 1, by omega, by go_num, (by rw [KF.out, List.reverse_cons]; exact R7), B7⟩
              case measure => simp [intOf] <;> omega
    · obtain rfl : i = ps.length := by omega
      rw [List.take_length] at R
      go_wp2
      go_ret
      exact ⟨_, rfl, R, B⟩
end Go.Proofs.Ytbdpnfdpnaoicaa
