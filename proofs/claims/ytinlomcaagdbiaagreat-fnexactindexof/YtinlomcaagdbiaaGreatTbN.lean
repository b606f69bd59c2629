import Derived.Test.YtinlomcaagdbiaaGreatTbT
import Derived.Test.YtinlomcaagdbiaaGreatPtG
/- All nodes are told, of the program: followAll over tellings, nodeOf. -/
namespace Go.Proofs.YtinlomcaagdbiaaGreat
open Go.RowKit

def Te2 (ib kp m1 m2 : Nat) (W : World) : Prop := W.cell? ⟨ib, 0, none⟩ = some (.pointer (some ⟨kp, 0, none⟩)) ∧ W.cell? ⟨ib, 1, none⟩ = some (.pointer (some ⟨m1, m2, none⟩))
theorem Te2.grown {ib kp m1 m2 : Nat} {W W' : World} {R : Option Nat} (h : Te2 ib kp m1 m2 W) (g : W.grownBy W' R) (ne : some ib ≠ R) : Te2 ib kp m1 m2 W' := ⟨g.cell h.1 ne, g.cell h.2 ne⟩
theorem Te2.te {ib kp m1 m2 : Nat} {W W' : World} {l : Ptr} (h : Te2 ib kp m1 m2 W) (g : TeB W W' l) (ne : ib ≠ l.1) : Te2 ib kp m1 m2 W' := h.grown g.g (fun e => ne (by injection e))
theorem sz_kid {t k : Nd} (h : k ∈ t.ks) : ndSz k ≤ ndSz t := by
 obtain ⟨b, bs, is, ks⟩ := t
 have key : ∀ l : List Nd, k ∈ l → ndSz k ≤ ndSz.ndsSz l := by
  intro l
  induction l with
  | nil => intro hk; cases hk
  | cons x l ih =>
   intro hk
   simp only [ndSz.ndsSz]
   rcases List.mem_cons.1 hk with rfl | hk
   ·omega
   ·have := ih hk; omega
 have := key ks h
 simp only [ndSz]
 omega

set_option maxRecDepth 100000 in
set_option maxHeartbeats 8000000 in
theorem followAll_any {w0 : World} (p l1 l2 : Nat) (t0 : Nd) (w : World) (K : WkAt w0 p t0) (B0 : Below w0.heap.size w0 w) (hl : w0.heap.size ≤ l1) (Z : Sev w l1 l2 (0, 0, 0, 0) (.slice none 0 0) (.slice none 0 0) (.slice none 0 0)) (FR0 : ∀ o, w.frozen? ⟨l1, o, none⟩ = false) (hs0 : ndSz t0 ≤ 1048576) :
  Calls Tryz.prog 43 #[.agg #[.pointer (some ⟨p, 0, none⟩), .pointer (some ⟨l1, l2, none⟩)], .func (Fn.func 44) #[] #[]] w fun e w' => e = .returned (.tuple #[]) ∧ (∃ F, NdAt w' F (l1, l2) t0 ∧ ∀ q, F q → w0.heap.size ≤ q) ∧ Below w0.heap.size w0 w' := by
 obtain ⟨iT, hiT, hT0, hT1, hT2⟩ := info_parts infoTe
 have hll : l1 < w.heap.size := World.block_lt_of_cell? _ _ Z.c6
 have hb1 := below1 w (.cells #[.pointer (some ⟨p, 0, none⟩), .pointer (some ⟨l1, l2, none⟩)] 87)
 have hb2 := below1 (w.alloc (.cells #[.pointer (some ⟨p, 0, none⟩), .pointer (some ⟨l1, l2, none⟩)] 87)) (.cells #[.pointer (some ⟨p, 0, none⟩), .pointer (some ⟨l1, l2, none⟩)] 87)
 have R1 := RowTe.one (w.alloc (.cells #[.pointer (some ⟨p, 0, none⟩), .pointer (some ⟨l1, l2, none⟩)] 87)) (base := w0.heap.size) (Nat.le_trans B0.size hb1.size) p l1 l2
 have B2 := B0.trans (hb1.mono B0.size)
 replace B2 := B2.trans (hb2.mono B2.size)
 have FR2 : ∀ o, ((w.alloc (.cells #[.pointer (some ⟨p, 0, none⟩), .pointer (some ⟨l1, l2, none⟩)] 87)).alloc (.cells #[.pointer (some ⟨p, 0, none⟩), .pointer (some ⟨l1, l2, none⟩)] 87)).frozen? ⟨l1, o, none⟩ = false := fun o => (World.frozen?_of_block (a := ⟨l1, o, none⟩) ((hb2.block _ (Nat.lt_of_lt_of_le hll hb1.size)).trans (hb1.block _ hll))).trans (FR0 o)
 have S0 : Hid (FoR w0 (l1, l2) t0 (.slice (some ⟨(w.alloc (.cells #[.pointer (some ⟨p, 0, none⟩), .pointer (some ⟨l1, l2, none⟩)] 87)).heap.size, 0, none⟩) 1 1) ((w.alloc (.cells #[.pointer (some ⟨p, 0, none⟩), .pointer (some ⟨l1, l2, none⟩)] 87)).alloc (.cells #[.pointer (some ⟨p, 0, none⟩), .pointer (some ⟨l1, l2, none⟩)] 87)) (ndM.ndsM [t0])) := by
  refine ⟨[((p, 0), (l1, l2))], [t0], ⟨R1, ⟨rfl, fun i hi => ?_⟩, ⟨fun i hi => ?_, fun i o hi => ?_, fun i hi => ?_, fun i hi => ?_, fun i j hi hj ne => ?_⟩, Wand.start _ _ _ _ _ B2.size, rfl, ?_, B2⟩, fun x hx => ?_⟩
  ·obtain rfl : i = 0 := by simp at hi; omega
   exact ⟨rfl, K⟩
  ·obtain rfl : i = 0 := by simp at hi; omega
   exact (Z.below hb1).below hb2
  ·obtain rfl : i = 0 := by simp at hi; omega
   exact FR2 o
  ·obtain rfl : i = 0 := by simp at hi; omega
   exact hl
  ·obtain rfl : i = 0 := by simp at hi; omega
   intro e
   injection e with e
   have e' : w.heap.size + 1 = l1 := by rw [← World.size_alloc]; exact e
   omega
  ·simp at hi hj; omega
  ·have := ndM_le t0
   simp only [ndM.ndsM]
   omega
  ·rw [List.mem_singleton] at hx
   rw [hx]
   exact hs0
 clear R1 B2 FR2 hb1 hb2 Z K FR0
 go_enter Tryz.func43, Tryz.ntmps43
 go_wp2
 go_loopw [4, 5] (fun s4 _ W => ∃ k, FoR w0 (l1, l2) t0 s4 W k) (fun s4 _ W => lstN (FoR w0 (l1, l2) t0 s4 W))
 case atStart =>
  have h := S0
  rw [World.size_alloc] at h
  exact ⟨_, h⟩
 case round =>
  clear S0
  rename World => W
  obtain ⟨es, ts, O, HX⟩ := (least_at hrel).1
  clear hrel
  rcases O.two with ⟨rfl, rfl⟩ | ⟨es', e, ts', t, rfl, rfl⟩
  ·obtain ⟨a0, c0, ev, hc0, hc1⟩ := O.row.sl
   have OB : Hid (Below w0.heap.size w0 W) := O.bel
   have OD : Hid (∃ F, NdAt W F (l1, l2) t0 ∧ ∀ q, F q → w0.heap.size ≤ q) := O.wd.done
   clear O HX
   unfold maxLen at hc1
   dsimp only [List.length_nil] at ev hc0
   subst ev
   go_wp2
   exact bodyPost_end (results_none Tryz.results43 _ _ _) rfl ⟨rfl, OD.out, OB.out⟩
  ·obtain ⟨a0, c, ev, _, _⟩ := O.row.sl
   have hn1 : (es' ++ [e]).length = es'.length + 1 := by simp
   rw [hn1] at ev
   subst ev
   obtain ⟨g, rfl, _, hcc, hcm, x0, x1⟩ := RowTe.at O.row
   obtain ⟨⟨kp, k0⟩, ⟨m1, m2⟩⟩ := e
   obtain ⟨_, ek0, WK⟩ := (by have h := O.wk; rw [List.map_append] at h; exact h.last : WkL w0 (es'.map Prod.fst) ts' ∧ _ ∧ _)
   dsimp only at ek0 WK
   subst ek0
   have op := O.op
   rw [List.map_append, List.map_cons, List.map_nil] at op
   have hll2 : (es'.map Prod.snd).length < (es'.map Prod.snd ++ [((m1, m2) : Ptr)]).length := by rw [List.length_append]; simp
   have hlast : ptAt (es'.map Prod.snd ++ [((m1, m2) : Ptr)]) (es'.map Prod.snd).length = (m1, m2) := by rw [ptAt_app, if_neg (by omega), Nat.sub_self]; rfl
   have Z1 := op.z _ hll2
   have F1 := fun o => op.fr _ o hll2
   have hge := op.ge _ hll2
   have hgm := op.ne _ hll2
   rw [hlast] at Z1 F1 hge hgm
   dsimp only at Z1 F1 hge
   replace hgm : g ≠ m1 := fun e => hgm (by rw [e]; rfl)
   have hml : m1 < W.heap.size := World.block_lt_of_cell? _ _ Z1.c6
   have hgl : g < W.heap.size := World.block_lt_of_cell? _ _ x0
   have HKL : Hid (es'.length ≤ 1048577 ∧ t.ks.length ≤ 1048576) := ⟨by have := O.len; have := O.le; rw [hn1] at *; omega, by have := HX t (by simp); obtain ⟨b, bs, is, ks⟩ := t; simp only [ndSz] at this; show ks.length ≤ _; omega⟩
   have hsz : ndSz t ≤ 1048576 := HX t (by simp)
   have HSX : Hid (∀ x ∈ ts' ++ t.ks, ndSz x ≤ 1048576) := fun x hx => by
    rcases List.mem_append.1 hx with hx | hx
    ·exact HX x (by simp [hx])
    ·exact Nat.le_trans (sz_kid hx) hsz
   clear HX op hlast hll2
   unfold ptV at x0 x1
   dsimp only at x0 x1
   have hnn := HKL.out.1
   have RV0 := O.row.pop
   obtain ⟨n, hn⟩ : ∃ n, Hid (es'.length = n) := ⟨_, rfl⟩
   have HO : Hid (FoS w0 (l1, l2) t0 (lstN (FoR w0 (l1, l2) t0 (.slice (some ⟨g, 0, none⟩) (n + 1) c) W)) (.slice (some ⟨g, 0, none⟩) (n + 1) c) (es' ++ [((kp, 0), (m1, m2))]) (ts' ++ [t]) W) := by rw [← hn.out]; exact O
   rw [hn.out] at x0 x1 hcc hnn RV0 hn1 ⊢
   clear O
   unfold maxLen at hcm
   have f1 : (0 : Int) ≤ (n : Int) := by omega
   have f2 : (n : Int) ≤ (c : Int) := by omega
   have f3 : (n + 1 : Nat) ≤ c := hcc
   have ew : IntKind.i64.wrap (n : Int) = (n : Int) := by rw [IntKind.wrap_i64]; omega
   have bq := below1 W (.cells #[.pointer (some ⟨kp, 0, none⟩), .pointer (some ⟨m1, m2, none⟩)] 87)
   have NT : Te2 W.heap.size kp m1 m2 (W.alloc (.cells #[.pointer (some ⟨kp, 0, none⟩), .pointer (some ⟨m1, m2, none⟩)] 87)) := ⟨cell_new W _ _ 0 rfl, cell_new W _ _ 1 rfl⟩
   go_upto_region 4 with fail
   have hgi : g ≠ W.heap.size := by omega
   have hibm : W.heap.size ≠ m1 := by omega
   clear x0 x1 hgl
   generalize hW2 : W.alloc (.cells #[.pointer (some ⟨kp, 0, none⟩), .pointer (some ⟨m1, m2, none⟩)] 87) = W2 at *
   have bd := bq.trans ((Below.refl W2.heap.size W2).drew.mono bq.size)
   have OS : Hid (FoS w0 (l1, l2) t0 (lstN (FoR w0 (l1, l2) t0 (.slice (some ⟨g, 0, none⟩) (n + 1) c) W)) (.slice (some ⟨g, 0, none⟩) (n + 1) c) (es' ++ [((kp, 0), (m1, m2))]) (ts' ++ [t]) W2.drew) := HO.out.below bd
   have BW : Hid (Below w0.heap.size w0 W2.drew) := OS.out.bel
   have RV := RV0.below bd
   have ZZ := Z1.below bd
   have FRR : ∀ o, W2.drew.frozen? ⟨m1, o, none⟩ = false := fun o => (World.frozen?_of_block (a := ⟨m1, o, none⟩) (bd.block _ hml)).trans (F1 o)
   replace NT : Te2 W.heap.size kp m1 m2 W2.drew := NT
   have NL : True := trivial
   clear HO bd bq Z1 F1 RV0 hW2
   generalize W.heap.size = ib at *
   refine wp_region_M 8 (fun _ => True) (Te2 ib kp m1 m2) (by kernel_rfl) ?_
   generalize W2.drew = ww0 at *
   refine takeT (i := 0) (by simp only [List.getElem?_toArray, List.getElem?_cons_zero]; exact rfl) (by kernel_rfl) (by kernel_rfl) (by kernel_rfl) (by exact fun _ _ _ h => h) (by decide) (by rfl) (by intro wq hSw; go_simp <;> with_reducible rfl) ⟨NT, .inr NL⟩ ?_
   try simp only [Act.put, pA, pB, pC]
   refine takeT (i := 1) (by simp only [List.getElem?_toArray, List.getElem?_cons_succ, List.getElem?_cons_zero]; exact rfl) (by kernel_rfl) (by kernel_rfl) (by kernel_rfl) (by exact fun _ _ _ h => h) (by decide) (by rfl) (by intro wq hSw; go_simp <;> with_reducible rfl) ⟨NT, .inr NL⟩ ?_
   try simp only [Act.put, pA, pB, pC]
   refine takeT (i := 2) (by simp only [List.getElem?_toArray, List.getElem?_cons_succ, List.getElem?_cons_zero]; exact rfl) (by kernel_rfl) (by kernel_rfl) (by kernel_rfl) (by exact fun _ _ _ h => h) (by decide) (by rfl) (by intro wq hSw; go_simp <;> with_reducible rfl) ⟨NT, .inr NL⟩ ?_
   try simp only [Act.put, pA, pB, pC]
   refine takeT (i := 3) (v := .int .i64 (n : Int)) (by simp only [List.getElem?_toArray, List.getElem?_cons_succ, List.getElem?_cons_zero]; exact rfl) (by kernel_rfl) (by kernel_rfl) (by kernel_rfl) (by exact fun _ _ _ h => h) (by decide) (by rfl) (by intro wq hSw; go_simp <;> with_reducible rfl) ⟨NT, .inr NL⟩ ?_
   try simp only [Act.put, pA, pB, pC]
   refine takeT (i := 4) (v := .slice (some ⟨g, 0, none⟩) n c) (by simp only [List.getElem?_toArray, List.getElem?_cons_succ, List.getElem?_cons_zero]; exact rfl) (by kernel_rfl) (by kernel_rfl) (by kernel_rfl) (by exact fun _ _ _ h => h) (by decide) (by rfl) (by intro wq hSw; go_simp <;> with_reducible rfl) ⟨NT, .inr NL⟩ ?_
   try simp only [Act.put, pA, pB, pC]
   refine takeT (i := 5) (by simp only [List.getElem?_toArray, List.getElem?_cons_succ, List.getElem?_cons_zero]; exact rfl) (by kernel_rfl) (by kernel_rfl) (by kernel_rfl) (by exact fun _ _ _ h => h) (by decide) (by rfl) (by intro wq hSw; go_simp <;> with_reducible rfl) ⟨NT, .inr NL⟩ ?_
   try simp only [Act.put, pA, pB, pC]
   refine takeT (i := 6) (by simp only [List.getElem?_toArray, List.getElem?_cons_succ, List.getElem?_cons_zero]; exact rfl) (by kernel_rfl) (by kernel_rfl) (by kernel_rfl) (by exact fun _ _ _ h => h) (by decide) (by rfl) (by intro wq hSw; have y0 := hSw.1; have y1 := hSw.2; go_simp <;> with_reducible rfl) ⟨NT, .inr NL⟩ ?_
   try simp only [Act.put, pA, pB, pC]
   refine wpAnyM_ready (rs := [7]) (by kernel_rfl) (by simp) (AllReadyM.cons (by simp only [List.getElem?_toArray, List.getElem?_cons_succ, List.getElem?_cons_zero]; exact rfl) (fun K hK => ?_) AllReadyM.nil)
   go_simp
   refine (tell_any kp m1 m2 t ww0 WK BW.out hge ZZ FRR hsz).mono ?_
   rintro e w5 ⟨v5, qk, q3, rfl, R5, KL5, T5, TB5⟩
   have RV5 : RowTe w0.heap.size w5 (.slice (some ⟨g, 0, none⟩) n c) es' := World.ownsRow.kept RV TB5.g (.inr (fun e => by injection e with e; exact hgm e))
   have NT := NT.te TB5 hibm
   refine hK.out _ _ ⟨NT, .inr NL⟩ ?_
   clear hK K
   try simp only [Act.put, pA, pB, pC]
   refine wpAnyM_ready (rs := [8]) (by kernel_rfl) (by simp) (AllReadyM.cons (by simp only [List.getElem?_toArray, List.getElem?_cons_succ, List.getElem?_cons_zero]; exact rfl) (fun K hK => ?_) AllReadyM.nil)
   rcases R5.two with ⟨rfl, hnil⟩ | ⟨g5, c5, rfl, NW5, hg5⟩
   ·refine wp_append_none (.tmp 21) (.tmp 24) 106 rfl w0.heap.size 87 iT 2 Tryz.underlying106 hiT (.slice (some ⟨g, 0, none⟩) n c) es'.length (teC es') rfl RV5 rfl ?_
    obtain ⟨v9, hv9⟩ : ∃ v, Hid (Value.slice (some ⟨g, 0, none⟩) n c = v) := ⟨_, rfl⟩
    have R9 : RowTe w0.heap.size w5 v9 (es' ++ teK qk q3) := by rw [hnil, List.append_nil, ← hv9.out]; exact RV5
    have A9 : v9.ownBlock = (Value.slice (some ⟨g, 0, none⟩) (n + 1) c).ownBlock ∨ v9.ownBlock = some w5.heap.size := .inl (by rw [← hv9.out]; rfl)
    have G9 : w5.grownBy w5 (Value.slice (some ⟨g, 0, none⟩) (n + 1) c).ownBlock := grownBy_refl _ _
    rw [hv9.out]
    obtain ⟨w9, hw9⟩ : ∃ W, Hid (w5 = W) := ⟨_, rfl⟩
    rw [hw9.out] at R9 NT
    rw [hw9.out]
    have G9' : w5.grownBy w9 (Value.slice (some ⟨g, 0, none⟩) (n + 1) c).ownBlock := by rw [← hw9.out]; exact G9
    clear G9
    have G9 := G9'
    clear G9' RV5 R5
    obtain ⟨k', hk', S9⟩ := OS.out.next T5 TB5 KL5 G9 R9 A9
    have HX : Hid (∀ x ∈ ts' ++ t.ks, ndSz x ≤ 1048576) := HSX.out
    have HF : Hid (FoR w0 (l1, l2) t0 v9 w9 k') := ⟨_, _, S9, HX.out⟩
    have HK : Hid (k' < lstN (FoR w0 (l1, l2) t0 (.slice (some ⟨g, 0, none⟩) (n + 1) c) W)) := hk'
    clear S9 hk' HX R9 G9 A9 T5 TB5 KL5
    refine hK.out _ _ ⟨NT, .inl (by kernel_rfl)⟩ ?_
    clear hK K
    try simp only [Act.put, pA, pB, pC]
    refine takeT (i := 9) (by simp only [List.getElem?_toArray, List.getElem?_cons_succ, List.getElem?_cons_zero]; exact rfl) (by kernel_rfl) (by kernel_rfl) (by kernel_rfl) (by exact fun _ _ _ h => h) (by decide) (by rfl) (by intro wq hSw; go_simp <;> with_reducible rfl) ⟨NT, .inl (by kernel_rfl)⟩ ?_
    try simp only [Act.put, pA, pB, pC]
    refine wpAnyM_done (by kernel_rfl) ?_ _
    clear NT OS HSX HKL RV BW
    go_wp2
    go_roundw
    case rel => exact ⟨k', HF.out⟩
    case measure => exact least_lt HF.out HK.out
   ·have hlz : (teK qk q3).length ≤ 1048577 := by rw [teK_len, KL5.1]; have := HKL.out; omega
    have hlm : (teC (teK qk q3)).length = (teK qk q3).length * 2 := teC_len _
    refine wp_append_at (.tmp 21) (.tmp 24) 106 rfl w0.heap.size 87 iT (.agg #[.pointer none, .pointer none]) 2 16 Tryz.underlying106 hiT hT0 hT1 hT2 rfl (by decide) (.slice (some ⟨g, 0, none⟩) n c) es'.length (teC es') rfl RV5 ⟨g5, 0, none⟩ (teK qk q3).length _ (teC (teK qk q3)) rfl hlm NW5 (teC_ones _) (by have := hn.out; unfold maxLen; omega) (by have := hn.out; omega) (TB5.bel BW.out hge).size ?_
    intro v9 w9 R9 G9 A9
    replace R9 := RowTe.snocs R9
    replace NT := NT.grown G9 (fun e => by injection e with e; exact hgi e.symm)
    clear RV5 R5 hlm NW5
    obtain ⟨k', hk', S9⟩ := OS.out.next T5 TB5 KL5 G9 R9 A9
    have HX : Hid (∀ x ∈ ts' ++ t.ks, ndSz x ≤ 1048576) := HSX.out
    have HF : Hid (FoR w0 (l1, l2) t0 v9 w9 k') := ⟨_, _, S9, HX.out⟩
    have HK : Hid (k' < lstN (FoR w0 (l1, l2) t0 (.slice (some ⟨g, 0, none⟩) (n + 1) c) W)) := hk'
    clear S9 hk' HX R9 G9 A9 T5 TB5 KL5
    refine hK.out _ _ ⟨NT, .inl (by kernel_rfl)⟩ ?_
    clear hK K
    try simp only [Act.put, pA, pB, pC]
    refine takeT (i := 9) (by simp only [List.getElem?_toArray, List.getElem?_cons_succ, List.getElem?_cons_zero]; exact rfl) (by kernel_rfl) (by kernel_rfl) (by kernel_rfl) (by exact fun _ _ _ h => h) (by decide) (by rfl) (by intro wq hSw; go_simp <;> with_reducible rfl) ⟨NT, .inl (by kernel_rfl)⟩ ?_
    try simp only [Act.put, pA, pB, pC]
    refine wpAnyM_done (by kernel_rfl) ?_ _
    clear NT OS HSX HKL RV BW
    go_wp2
    go_roundw
    case rel => exact ⟨k', HF.out⟩
    case measure => exact least_lt HF.out HK.out
theorem nodeOf_any (p : Nat) (t : Nd) (w : World) (K : WkAt w p t) (hs : ndSz t ≤ 1048576) :
  Calls Tryz.prog 19 #[.pointer (some ⟨p, 0, none⟩)] w fun e w' => ∃ u1 u2 u3 F, e = .returned (ndV t u1 u2 u3) ∧ NdFp w' F t u1 u2 u3 ∧ (∀ q, F q → w.heap.size < q) ∧ Below w.heap.size w w' := by
 have hb1 := below1 w (.cells #[.int .i64 0, .int .i64 0, .int .i64 0, .int .i64 0, .slice none 0 0, .slice none 0 0, .slice none 0 0] 32)
 have R := Bx7.new w (.int .i64 0) (.int .i64 0) (.int .i64 0) (.int .i64 0) (.slice none 0 0) (.slice none 0 0) (.slice none 0 0) 32
 have K1 := WkAt.keep hb1 _ K
 have HW : Hid ((w.alloc (.cells #[.int .i64 0, .int .i64 0, .int .i64 0, .int .i64 0, .slice none 0 0, .slice none 0 0, .slice none 0 0] 32)).heap.size = w.heap.size + 1) := World.size_alloc _ _
 obtain ⟨w1, hw1⟩ : ∃ W, w.alloc (.cells #[.int .i64 0, .int .i64 0, .int .i64 0, .int .i64 0, .slice none 0 0, .slice none 0 0, .slice none 0 0] 32) = W := ⟨_, rfl⟩
 have hb2 := below1 w1 (.cells #[.int .i64 0, .int .i64 0, .int .i64 0, .int .i64 0, .slice none 0 0, .slice none 0 0, .slice none 0 0] 32)
 have Z := Bx7.new w1 (.int .i64 0) (.int .i64 0) (.int .i64 0) (.int .i64 0) (.slice none 0 0) (.slice none 0 0) (.slice none 0 0) 32
 have FR : ∀ o, (w1.alloc (.cells #[.int .i64 0, .int .i64 0, .int .i64 0, .int .i64 0, .slice none 0 0, .slice none 0 0, .slice none 0 0] 32)).frozen? ⟨w1.heap.size, o, none⟩ = false := fun o => frozen_new _ _ _ o
 rw [hw1] at hb1 R K1 HW
 have HE : Hid (w.alloc (.cells #[.int .i64 0, .int .i64 0, .int .i64 0, .int .i64 0, .slice none 0 0, .slice none 0 0, .slice none 0 0] 32) = w1) := hw1
 clear hw1 K
 obtain ⟨⟨x1, x2, x3, x4⟩, ux⟩ : ∃ x, Hid (t.b = x) := ⟨_, rfl⟩
 go_enter Tryz.func19, Tryz.ntmps19
 go_upto_region 1 with fail
 rw [HE.out]
 go_wp2_with fail
 refine (followAll_any p w1.heap.size 0 t _ K1 hb2 (Nat.le_refl _) Z.sev FR hs).mono ?_
 rintro e w5 ⟨rfl, ⟨F, ⟨v1, v2, v3, S, N⟩, hF⟩, hb⟩
 rw [ux.out] at S
 obtain ⟨b1, d1, b2, d2, b3, d3, p1, p2, p3, _, _, _, _, _, ev1, ev2, ev3, _⟩ := N.open
 have HN : Hid (NdFp w5 F t v1 v2 v3) := N
 have hR : Bx7 w5 w.heap.size (.int .i64 0) (.int .i64 0) (.int .i64 0) (.int .i64 0) (.slice none 0 0) (.slice none 0 0) (.slice none 0 0) := R.below hb
 have B5 := hb1.trans (hb.mono hb1.size)
 obtain ⟨⟨s0, s1, s2, s3⟩, s4, s5, s6⟩ := S
 dsimp only at s0 s1 s2 s3
 simp only [Nat.zero_add] at s1 s2 s3 s4 s5 s6
 have hlt : w.heap.size < w1.heap.size := by rw [HW.out]; omega
 have hFr : ∀ o, w5.frozen? ⟨w.heap.size, o, none⟩ = false := fun o => (World.frozen?_of_block (a := ⟨w.heap.size, o, none⟩) (hb.block _ hlt)).trans (by rw [← HE.out]; exact frozen_new _ _ _ o)
 subst ev1 ev2 ev3
 obtain ⟨r0, r1, r2, r3, r4, r5, r6, rf⟩ := id hR
 have R3 := ((((((hR.set0 (.int .i64 x1)).set1 (.int .i64 x2)).set2 (.int .i64 x3)).set3 (.int .i64 x4)).set4 (.slice b1 t.bs.length d1)).set5 (.slice b2 t.is.length d2)).set6 (.slice b3 t.ks.length d3)
 have C3 := ((((((((Chg.refl (fun q => q = w.heap.size) w5).put (p := w.heap.size) (k := 0) rfl (.int .i64 x1)).put (p := w.heap.size) (k := 1) rfl (.int .i64 x2)).put (p := w.heap.size) (k := 2) rfl (.int .i64 x3)).put (p := w.heap.size) (k := 3) rfl (.int .i64 x4)).put (p := w.heap.size) (k := 4) rfl (.slice b1 t.bs.length d1)).put (p := w.heap.size) (k := 5) rfl (.slice b2 t.is.length d2)).put (p := w.heap.size) (k := 6) rfl (.slice b3 t.ks.length d3))
 have N3 : Hid _ := NdFp.chg C3 _ (fun q f e => by have := hF q f; omega) HN.out
 have B3 := ((((((B5.setCell (p := ⟨w.heap.size, 0, none⟩) (Nat.le_refl _) (.int .i64 x1)).setCell (p := ⟨w.heap.size, 1, none⟩) (Nat.le_refl _) (.int .i64 x2)).setCell (p := ⟨w.heap.size, 2, none⟩) (Nat.le_refl _) (.int .i64 x3)).setCell (p := ⟨w.heap.size, 3, none⟩) (Nat.le_refl _) (.int .i64 x4)).setCell (p := ⟨w.heap.size, 4, none⟩) (Nat.le_refl _) (.slice b1 t.bs.length d1)).setCell (p := ⟨w.heap.size, 5, none⟩) (Nat.le_refl _) (.slice b2 t.is.length d2)).setCell (p := ⟨w.heap.size, 6, none⟩) (Nat.le_refl _) (.slice b3 t.ks.length d3)
 obtain ⟨q0, q1, q2, q3, q4, q5, q6, _⟩ := R3
 clear C3 hR HN Z R hb B5 FR K1 hb1 hb2
 go_wp2
 exact bodyPost_ret (v := .agg #[.int .i64 x1, .int .i64 x2, .int .i64 x3, .int .i64 x4, .slice b1 t.bs.length d1, .slice b2 t.is.length d2, .slice b3 t.ks.length d3]) (by simp [results, Tryz.results19, go_sem, q0, q1, q2, q3, q4, q5, q6]) rfl ⟨_, _, _, F, by unfold ndV; rw [ux.out], N3.out, fun q f => by have := hF q f; omega, B3⟩
end Go.Proofs.YtinlomcaagdbiaaGreat

/- The curve of chapter 10 as whole numbers: a cell's place, a place's cell, each the other's inverse; cells whose places differ by one are neighbours. No program is named here. -/
namespace Go.Proofs.YtinlomcaagdbiaaGreat

def hOf : Nat → Int → Int → Int
 | 0, _, _ => 0
 | b + 1, x, y =>
  if x < 2 ^ b then (if y < 2 ^ b then hOf b y x else 4 ^ b + hOf b x (y - 2 ^ b))
  else if 2 ^ b ≤ y then 2 * 4 ^ b + hOf b (x - 2 ^ b) (y - 2 ^ b)
  else 3 * 4 ^ b + hOf b (2 ^ b - 1 - y) (2 * 2 ^ b - 1 - x)
theorem cvTwo (b : Nat) : (0 : Int) < 2 ^ b := Int.pow_pos (by decide)
theorem cvFour (b : Nat) : (0 : Int) < 4 ^ b := Int.pow_pos (by decide)
theorem cvTwoS (b : Nat) : (2 : Int) ^ (b + 1) = 2 * 2 ^ b := by rw [Int.pow_succ, Int.mul_comm]
theorem cvFourS (b : Nat) : (4 : Int) ^ (b + 1) = 4 * 4 ^ b := by rw [Int.pow_succ, Int.mul_comm]

theorem hOf_in : ∀ b x y, 0 ≤ x → x < 2 ^ b → 0 ≤ y → y < 2 ^ b → 0 ≤ hOf b x y ∧ hOf b x y < 4 ^ b
 | 0, _, _, _, _, _, _ => by simp [hOf]
 | b + 1, x, y, x0, x1, y0, y1 => by
  have h := cvTwo b
  have f := cvFour b
  rw [cvTwoS] at x1 y1
  rw [cvFourS, hOf]
  split
  ·split
   ·have := hOf_in b y x y0 (by omega) x0 (by omega)
    omega
   ·have := hOf_in b x (y - 2 ^ b) x0 (by omega) (by omega) (by omega)
    omega
  ·split
   ·have := hOf_in b (x - 2 ^ b) (y - 2 ^ b) (by omega) (by omega) (by omega) (by omega)
    omega
   ·have := hOf_in b (2 ^ b - 1 - y) (2 * 2 ^ b - 1 - x) (by omega) (by omega) (by omega) (by omega)
    omega
def cvAt (k : Nat) (u v m N : Int) : Prop := 0 ≤ u ∧ u < 2 ^ k ∧ 0 ≤ v ∧ v < 2 ^ k ∧ 0 ≤ m ∧ m * 4 ^ k + hOf k u v = N
theorem cvEnd {u v m N : Int} (h : cvAt 0 u v m N) : m = N := by
 have := h.2.2.2.2.2
 simp [hOf] at this
 exact this
theorem cvStart {x y : Int} (hx : 0 ≤ x ∧ x < 33554432) (hy : 0 ≤ y ∧ y < 33554432) : cvAt 25 x y 0 (hOf 25 x y) := ⟨hx.1, hx.2, hy.1, hy.2, Int.le_refl _, by rw [Int.zero_mul, Int.zero_add]⟩
theorem cvLe {k : Nat} {u v m N : Int} (h : cvAt k u v m N) : m ≤ N := by
 obtain ⟨u0, u1, v0, v1, m0, e⟩ := h
 have i := (hOf_in k u v u0 u1 v0 v1).1
 have := Int.mul_le_mul_of_nonneg_left (show (1 : Int) ≤ 4 ^ k from cvFour k) m0
 omega
theorem cvStep {k : Nat} {u v m N : Int} (h : cvAt (k + 1) u v m N) : (u < 2 ^ k → v < 2 ^ k → cvAt k v u (m * 4) N) ∧ (u < 2 ^ k → ¬ v < 2 ^ k → cvAt k u (v - 2 ^ k) (m * 4 + 1) N) ∧ (¬ u < 2 ^ k → 2 ^ k ≤ v → cvAt k (u - 2 ^ k) (v - 2 ^ k) (m * 4 + 2) N) ∧ (¬ u < 2 ^ k → ¬ 2 ^ k ≤ v → cvAt k (2 ^ k - 1 - v) (2 * 2 ^ k - 1 - u) (m * 4 + 3) N) := by
 obtain ⟨u0, u1, v0, v1, m0, e⟩ := h
 rw [cvTwoS] at u1 v1
 rw [cvFourS, hOf, ← Int.mul_assoc] at e
 unfold cvAt
 refine ⟨fun a b => ?_, fun a b => ?_, fun a b => ?_, fun a b => ?_⟩
 ·rw [if_pos a, if_pos b] at e
  exact ⟨v0, b, u0, a, by omega, e⟩
 ·rw [if_pos a, if_neg b] at e
  exact ⟨u0, a, by omega, by omega, by omega, by rw [Int.add_mul, Int.one_mul]; omega⟩
 ·rw [if_neg a, if_pos b] at e
  exact ⟨by omega, by omega, by omega, by omega, by omega, by rw [Int.add_mul]; omega⟩
 ·rw [if_neg a, if_neg b] at e
  exact ⟨by omega, by omega, by omega, by omega, by omega, by rw [Int.add_mul]; omega⟩
theorem pow25 {k : Nat} (h : k < 25) : (1 : Int) ≤ 2 ^ k ∧ (2 : Int) ^ k ≤ 16777216 := by
 refine ⟨cvTwo k, ?_⟩
 have t : (2 : Nat) ^ k ≤ 16777216 := Nat.le_trans (Nat.pow_le_pow_right (by decide) (show k ≤ 24 by omega)) (by decide)
 have e : ((2 ^ k : Nat) : Int) = 2 ^ k := by simp
 rw [← e]
 exact Int.ofNat_le.2 t
theorem hOf_room {x y : Int} (hx : 0 ≤ x ∧ x < 33554432) (hy : 0 ≤ y ∧ y < 33554432) : 0 ≤ hOf 25 x y ∧ hOf 25 x y < 1125899906842624 := hOf_in 25 x y hx.1 hx.2 hy.1 hy.2
end Go.Proofs.YtinlomcaagdbiaaGreat

/- The place of a cell on the curve: the specification's. -/
namespace Go.Proofs.YtinlomcaagdbiaaGreat
open Go.RowKit

set_option maxRecDepth 20000 in
set_option maxHeartbeats 2000000 in
theorem l10Of_any (x y : Int) (w : World) (hx : 0 ≤ x ∧ x < 33554432) (hy : 0 ≤ y ∧ y < 33554432) :
  Calls Tryz.prog 116 #[.int .i64 x, .int .i64 y, .int .i64 25] w fun e w' => e = .returned (.int .i64 (hOf 25 x y)) ∧ Below w.heap.size w w' := by
 have H0 : Hid (cvAt 25 x y 0 (hOf 25 x y)) := cvStart hx hy
 have R0 := hOf_room hx hy
 generalize hOf 25 x y = N at *
 clear hx hy
 go_enter Tryz.func116, Tryz.ntmps116
 go_wp2
 go_loopw [0, 1, 7, 8] (fun sx sy sn sb wr => ∃ (j : Nat) (u v m : Int), sx = .int .i64 u ∧ sy = .int .i64 v ∧ sn = .int .i64 m ∧ sb = .int .i64 j ∧ j ≤ 25 ∧ Hid (cvAt j u v m N) ∧ Hid (Below w.heap.size w wr)) (fun _ _ _ sb _ => (intOf sb).toNat)
 case atStart => exact ⟨25, x, y, 0, rfl, rfl, rfl, rfl, by omega, H0, Below.refl _ _⟩
 case round =>
  obtain ⟨j, u, v, m, rfl, rfl, rfl, rfl, hj, H, B⟩ := hrel
  rename World => wr
  clear H0
  by_cases h0 : 0 < j
  ·obtain ⟨k, hk⟩ : ∃ k : Nat, Hid (j = k + 1) := ⟨j - 1, by show _ = _; omega⟩
   have hjk : ((j : Int) - 1) = (k : Int) := by have := hk.out; omega
   have hk2 : k < 25 := by have := hk.out; omega
   have wk : IntKind.i64.wrap (k : Int) = (k : Int) := by rw [IntKind.wrap_i64]; omega
   obtain ⟨P0, P1⟩ := pow25 hk2
   have wP : wrap64 ((2 : Int) ^ k) = 2 ^ k := by unfold wrap64; omega
   have HS := cvStep (by have := H.out; rw [hk.out] at this; exact this)
   have m4 := cvLe H.out
   obtain ⟨u0, u1, v0, v1, m0, _⟩ := H.out
   have u2 : u < 2 * 2 ^ k := by rw [hk.out, cvTwoS] at u1; exact u1
   have v2 : v < 2 * 2 ^ k := by rw [hk.out, cvTwoS] at v1; exact v1
   clear u1 v1 H
   by_cases c1 : u < 2 ^ k
   ·by_cases c2 : v < 2 ^ k
    ·have H2 : Hid (cvAt k v u (m * 4) N) := HS.1 c1 c2
     clear HS
     have m5 := cvLe H2.out
     go_wp2
     go_roundw
     case rel => exact ⟨k, _, _, _, by congr 1; first | done | (unfold wrap64; omega), by congr 1; first | done | (unfold wrap64; omega), by congr 1; first | done | (unfold wrap64; omega), by go_num, by omega, H2, B⟩
     case measure => simp [intOf]; omega
    ·have H2 : Hid (cvAt k u (v - 2 ^ k) (m * 4 + 1) N) := HS.2.1 c1 c2
     clear HS
     have m5 := cvLe H2.out
     go_wp2
     go_roundw
     case rel => exact ⟨k, _, _, _, by congr 1; first | done | (unfold wrap64; omega), by congr 1; first | done | (unfold wrap64; omega), by congr 1; first | done | (unfold wrap64; omega), by go_num, by omega, H2, B⟩
     case measure => simp [intOf]; omega
   ·by_cases c2 : (2 : Int) ^ k ≤ v
    ·have H2 : Hid (cvAt k (u - 2 ^ k) (v - 2 ^ k) (m * 4 + 2) N) := HS.2.2.1 c1 c2
     clear HS
     have m5 := cvLe H2.out
     go_wp2
     go_roundw
     case rel => exact ⟨k, _, _, _, by congr 1; first | done | (unfold wrap64; omega), by congr 1; first | done | (unfold wrap64; omega), by congr 1; first | done | (unfold wrap64; omega), by go_num, by omega, H2, B⟩
     case measure => simp [intOf]; omega
    ·have H2 : Hid (cvAt k (2 ^ k - 1 - v) (2 * 2 ^ k - 1 - u) (m * 4 + 3) N) := HS.2.2.2 c1 c2
     clear HS
     have m5 := cvLe H2.out
     go_wp2
     go_roundw
     case rel => exact ⟨k, _, _, _, by congr 1; first | done | (unfold wrap64; omega), by congr 1; first | done | (unfold wrap64; omega), by congr 1; first | done | (unfold wrap64; omega), by go_num, by omega, H2, B⟩
     case measure => simp [intOf]; omega
  ·obtain rfl : j = 0 := by omega
   obtain rfl := cvEnd H.out
   go_wp2
   go_ret
   exact ⟨rfl, B.out⟩
end Go.Proofs.YtinlomcaagdbiaaGreat
