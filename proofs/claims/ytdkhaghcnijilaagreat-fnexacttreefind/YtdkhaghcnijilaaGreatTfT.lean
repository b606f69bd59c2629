/- What is found in a tree, of the specification: l15Find. -/
import Derived.Test.YtdkhaghcnijilaaGreatTrM
import Derived.Test.YtdkhaghcnijilaaGreatTfS
import Derived.Test.YtdkhaghcnijilaaGreatTsF
namespace Go.Proofs.YtdkhaghcnijilaaGreat
open Go.RowKit

set_option maxRecDepth 100000 in
/-- As wpList_append_seesI, of one operation. -/
theorem wp_append_seesI {w : World} {o : Oper} {a : Act} {K : Act → World → Prop} {Q : Exit → Act → World → Prop} (s x : Operand)
    (ho : o.op = .call { callee := .builtin .append, args := #[s, x], argTypes := #[27, 27] }) (base : Nat) (v : Value) (ds : List Int) (hs : a.eval s = v) (R : RowI base w v ds) (aa : Option Addr) (cc : Nat) (is : List Int) (hx : a.eval x = .slice aa is.length cc) (S : SeesI w aa cc is) (hl : ds.length + is.length ≤ 4000000) (hb : base ≤ w.heap.size)
    (h : ∀ v' w', RowI base w' v' (ds ++ is) → w.grownBy w' v.ownBlock → K (a.put o.dst v') w') : o.wp Tryz.prog a w K Q := by
  obtain ⟨iX, hiX, hx0, hx1, hx2⟩ := info_parts infoI
  cases aa with
  | none =>
    have e : is = [] := by
      rcases is with _ | ⟨y, l⟩
      · rfl
      · obtain ⟨b, off, e, _⟩ := S.cells (by simp)
        cases e
    subst e
    have hrun := run_append_owned_zero (P := Tryz.prog) (w := w) base 27 o.type 3 iX 1 Tryz.underlying27 hiX v ds.length cc (ds.map (Value.int .i64)) R
    unfold Oper.wp
    simp only [List.length_nil] at hx
    simp [execOp, ho, resolve, invoke, builtin, hs, hx, hrun, Result.andThen]
    exact h v w (by rw [List.append_nil]; exact R) (grownBy_refl _ _)
  | some ad =>
    refine wp_append_at s x 27 ho base 3 iX (.int .i64 0) 1 8 Tryz.underlying27 hiX hx0 hx1 hx2 rfl (by decide) v ds.length (ds.map (Value.int .i64)) hs R ad is.length cc (is.map (Value.int .i64)) hx (by simp) (fun j u hu => ?_) (onesI _) (by unfold maxLen; omega) (by omega) hb (fun v' w' R' G' _ => h v' w' ?_ G')
    · have hj : j < is.length := by have := (List.getElem?_eq_some_iff.mp hu).1; simpa using this
      obtain ⟨b, off, e, hc⟩ := S.cells (by intro e; rw [e] at hj; simp at hj)
      injection e with e
      subst e
      rw [Addr.add_lit, hc j hj, ← hu, List.getElem?_map, List.getElem?_eq_getElem hj]
      rfl
    · unfold RowI
      rw [List.map_append, List.length_append]
      exact R'
theorem fdL_at (wn : Bx) {ks : List Nd} {j : Nat} (h : j < ks.length) : fdV.fdL wn (ks.take (j + 1)) = fdV.fdL wn (ks.take j) ++ fdV wn (ndA ks j) := by
  rw [take_ndA h, fdL_app]
  simp [fdV.fdL]
theorem fdV_le (wn : Bx) : ∀ t, (fdV wn t).length ≤ ndSz t := by
  refine Nd.ind (P := fun t => (fdV wn t).length ≤ ndSz t) ?_
  intro b bs is ks ih
  have key : ∀ l : List Nd, (∀ k ∈ l, (fdV wn k).length ≤ ndSz k) → (fdV.fdL wn l).length ≤ ndSz.ndsSz l := by
    intro l
    induction l with
    | nil => intro _; simp [fdV.fdL]
    | cons a l ihl =>
      intro h
      have h1 := h a (List.mem_cons_self ..)
      have h2 := ihl (fun k hk => h k (List.mem_cons_of_mem _ hk))
      simp only [fdV.fdL, ndSz.ndsSz, List.length_append]
      omega
  have := key ks ih
  have := fdI_le wn bs is is.length
  simp only [fdV, ndSz, List.length_append]
  omega
theorem fdL_le (wn : Bx) (ks : List Nd) : (fdV.fdL wn ks).length ≤ ndSz.ndsSz ks := by
  induction ks with
  | nil => simp [fdV.fdL]
  | cons a l ih =>
    have := fdV_le wn a
    simp only [fdV.fdL, ndSz.ndsSz, List.length_append]
    omega
theorem Sev.grownF {w w' : World} {p o : Nat} {x : Bx} {v1 v2 v3 : Value} {row : Option Nat} (h : Sev w p o x v1 v2 v3) (g : w.grownBy w' row) (ne : some p ≠ row) : Sev w' p o x v1 v2 v3 := by
  obtain ⟨⟨f0, f1, f2, f3⟩, f4, f5, f6⟩ := h
  have q : ∀ k, w'.cell? ⟨p, k, none⟩ = w.cell? ⟨p, k, none⟩ := fun k => World.cell?_of_block (a := ⟨p, k, none⟩) (g.block p (World.block_lt_of_cell? w _ f6) ne)
  exact ⟨⟨(q _).trans f0, (q _).trans f1, (q _).trans f2, (q _).trans f3⟩, (q _).trans f4, (q _).trans f5, (q _).trans f6⟩
def FiC (t : Nd) : Prop := ∀ (top : Bool) (d : Nat) (v1 v2 v3 : Value) (y1 y2 y3 y4 : Int) (w : World), Hd top t d → NdIn 0 w t v1 v2 v3 → ndSz t ≤ 1048576 →
  Calls Tryz.prog 33 #[ndV t v1 v2 v3, .agg #[.int .i64 y1, .int .i64 y2, .int .i64 y3, .int .i64 y4]] w fun e w' => ∃ v, e = .returned v ∧ RowI w.heap.size w' v (fdV (y1, y2, y3, y4) t) ∧ Below w.heap.size w w'
/-- The two boxes of a call: the node's and the window's. -/
structure FB (w : World) (p : Nat) (x1 x2 x3 x4 : Int) (v1 v2 v3 : Value) (y1 y2 y3 y4 : Int) : Prop where
  s : Sev w p 0 (x1, x2, x3, x4) v1 v2 v3
  y : Four w (p + 1) 0 (y1, y2, y3, y4)
theorem FB.below {w w' : World} {p : Nat} {x1 x2 x3 x4 : Int} {v1 v2 v3 : Value} {y1 y2 y3 y4 : Int} (h : FB w p x1 x2 x3 x4 v1 v2 v3 y1 y2 y3 y4) (hb : Below w.heap.size w w') : FB w' p x1 x2 x3 x4 v1 v2 v3 y1 y2 y3 y4 := ⟨h.s.below hb, h.y.below hb⟩
theorem FB.lt {w : World} {p : Nat} {x1 x2 x3 x4 : Int} {v1 v2 v3 : Value} {y1 y2 y3 y4 : Int} (h : FB w p x1 x2 x3 x4 v1 v2 v3 y1 y2 y3 y4) : p + 1 < w.heap.size := World.block_lt_of_cell? w _ h.y.1
theorem FB.grown {w w' : World} {p : Nat} {x1 x2 x3 x4 : Int} {v1 v2 v3 : Value} {y1 y2 y3 y4 : Int} {row : Option Nat} (h : FB w p x1 x2 x3 x4 v1 v2 v3 y1 y2 y3 y4) (g : w.grownBy w' row) (hr : ∀ k, row = some k → p + 2 ≤ k) : FB w' p x1 x2 x3 x4 v1 v2 v3 y1 y2 y3 y4 := by
  have lt := h.lt
  have q0 : ∀ k, w'.cell? ⟨p, k, none⟩ = w.cell? ⟨p, k, none⟩ := fun k => World.cell?_of_block (a := ⟨p, k, none⟩) (g.block p (by omega) (fun e => by have := hr p e.symm; omega))
  have q1 : ∀ k, w'.cell? ⟨p + 1, k, none⟩ = w.cell? ⟨p + 1, k, none⟩ := fun k => World.cell?_of_block (a := ⟨p + 1, k, none⟩) (g.block (p + 1) lt (fun e => by have := hr _ e.symm; omega))
  obtain ⟨⟨⟨f0, f1, f2, f3⟩, f4, f5, f6⟩, ⟨e0, e1, e2, e3⟩⟩ := h
  exact ⟨⟨⟨(q0 _).trans f0, (q0 _).trans f1, (q0 _).trans f2, (q0 _).trans f3⟩, (q0 _).trans f4, (q0 _).trans f5, (q0 _).trans f6⟩, ⟨(q1 _).trans e0, (q1 _).trans e1, (q1 _).trans e2, (q1 _).trans e3⟩⟩

set_option maxRecDepth 20000 in
set_option maxHeartbeats 4000000 in
theorem l15Find_step (b : Bx) (bs : List Bx) (is : List Int) (ks : List Nd) (ih : ∀ k ∈ ks, FiC k) : FiC (.mk b bs is ks) := by
  intro top d v1 v2 v3 y1 y2 y3 y4 w hd h hs
  obtain ⟨a1, c1, a2, c2, a3, c3, rfl, rfl, rfl, s1, _, s2, _, s3⟩ := h.open
  obtain ⟨x1, x2, x3, x4⟩ := b
  simp only [Nd.bs, Nd.is, Nd.ks] at s1 s2 s3
  have HRT : Hid (is.length ≤ bs.length ∧ ∀ k ∈ ks, ∃ d', Hd false k d') := by
    cases d with
    | zero =>
      obtain ⟨h1, ⟨h2, _⟩, _⟩ := hd
      have h1' : ks = [] := h1
      subst h1'
      obtain ⟨f1, _, _⟩ := formW_leaf.1 (show formW bs is [] = false from h2)
      exact ⟨by omega, fun k hk => by cases hk⟩
    | succ d =>
      obtain ⟨h1, ⟨h2, _⟩, h4⟩ := hd
      have hp := List.length_pos_iff.2 (show ks ≠ [] from h1)
      obtain ⟨_, _, f3⟩ := (formW_inn hp).1 (show formW bs is ks = false from h2)
      exact ⟨by omega, fun k hk => ⟨d, h4 k hk⟩⟩
  have HZ : Hid (is.length + ndSz.ndsSz ks ≤ 1048576) := by
    have : ndSz (.mk (x1, x2, x3, x4) bs is ks) = bs.length + is.length + ks.length + ndSz.ndsSz ks := rfl
    show is.length + ndSz.ndsSz ks ≤ 1048576
    omega
  have HK : Hid (∀ j, j ≤ ks.length → (fdV.fdL (y1, y2, y3, y4) (ks.take j)).length ≤ ndSz.ndsSz ks) := fun j hj => by
    have h1 := fdL_le (y1, y2, y3, y4) (ks.take j)
    have h2 := sz_app (ks.take j) (ks.drop j)
    rw [List.take_append_drop] at h2
    omega
  have HKS : Hid (∀ j, j < ks.length → ndSz (ndA ks j) ≤ ndSz.ndsSz ks) := fun j hj => by
    have h1 := ndsSz_at hj
    have h2 := sz_app (ks.take (j + 1)) (ks.drop (j + 1))
    rw [List.take_append_drop] at h2
    omega
  have HFI : Hid (∀ j, (fdI (y1, y2, y3, y4) bs is j).length ≤ j) := fun j => fdI_le _ _ _ j
  obtain ⟨iX, hiX, hx0, hx1, hx2⟩ := info_parts infoI
  have hf1 := s1.fits
  have hm1 := s1.max
  have hf2 := s2.fits
  have hm2 := s2.max
  have hf3 := s3.fits
  have hm3 := s3.max
  unfold maxLen at hm1 hm2 hm3
  have lis : is.length ≤ 1048576 := by have := HZ.out; omega
  have lib := HRT.out.1
  have HV : Hid (fdV (y1, y2, y3, y4) (.mk (x1, x2, x3, x4) bs is ks) = fdI (y1, y2, y3, y4) bs is is.length ++ fdV.fdL (y1, y2, y3, y4) ks) := by show _ = _; simp [fdV]
  have IH : Hid (∀ k ∈ ks, FiC k) := ih
  have e : ndV (.mk (x1, x2, x3, x4) bs is ks) (.slice a1 bs.length c1) (.slice a2 is.length c2) (.slice a3 ks.length c3) = .agg #[.int .i64 x1, .int .i64 x2, .int .i64 x3, .int .i64 x4, .slice a1 bs.length c1, .slice a2 is.length c2, .slice a3 ks.length c3] := rfl
  show Calls Tryz.prog 33 #[ndV (.mk (x1, x2, x3, x4) bs is ks) (.slice a1 bs.length c1) (.slice a2 is.length c2) (.slice a3 ks.length c3), .agg #[.int .i64 y1, .int .i64 y2, .int .i64 y3, .int .i64 y4]] w _
  rw [e, HV.out]
  clear e h ih hs HV hd
  have b0 := below1 w (.cells #[.int .i64 x1, .int .i64 x2, .int .i64 x3, .int .i64 x4, .slice a1 bs.length c1, .slice a2 is.length c2, .slice a3 ks.length c3] 39)
  have V := Sev.new w x1 x2 x3 x4 (.slice a1 bs.length c1) (.slice a2 is.length c2) (.slice a3 ks.length c3) 39
  have b1 := below1 (w.alloc (.cells #[.int .i64 x1, .int .i64 x2, .int .i64 x3, .int .i64 x4, .slice a1 bs.length c1, .slice a2 is.length c2, .slice a3 ks.length c3] 39)) (.cells #[.int .i64 y1, .int .i64 y2, .int .i64 y3, .int .i64 y4] 35)
  have Y : Four ((w.alloc (.cells #[.int .i64 x1, .int .i64 x2, .int .i64 x3, .int .i64 x4, .slice a1 bs.length c1, .slice a2 is.length c2, .slice a3 ks.length c3] 39)).alloc (.cells #[.int .i64 y1, .int .i64 y2, .int .i64 y3, .int .i64 y4] 35)) (w.heap.size + 1) 0 (y1, y2, y3, y4) := by
    have q := fun k v (hv : (#[Value.int .i64 y1, .int .i64 y2, .int .i64 y3, .int .i64 y4] : Array Value)[k]? = some v) => cell_new (w.alloc (.cells #[.int .i64 x1, .int .i64 x2, .int .i64 x3, .int .i64 x4, .slice a1 bs.length c1, .slice a2 is.length c2, .slice a3 ks.length c3] 39)) #[.int .i64 y1, .int .i64 y2, .int .i64 y3, .int .i64 y4] 35 k hv
    rw [World.size_alloc] at q
    exact ⟨q 0 _ rfl, q 1 _ rfl, q 2 _ rfl, q 3 _ rfl⟩
  have K : FB _ w.heap.size x1 x2 x3 x4 (.slice a1 bs.length c1) (.slice a2 is.length c2) (.slice a3 ks.length c3) y1 y2 y3 y4 := ⟨V.below b1, Y⟩
  have B0 := b0.trans (b1.mono b0.size)
  go_enter Tryz.func33, Tryz.ntmps33
  go_upto_region 1 with fail
  generalize (w.alloc (.cells #[.int .i64 x1, .int .i64 x2, .int .i64 x3, .int .i64 x4, .slice a1 bs.length c1, .slice a2 is.length c2, .slice a3 ks.length c3] 39)).alloc (.cells #[.int .i64 y1, .int .i64 y2, .int .i64 y3, .int .i64 y4] 35) = W0 at *
  have lt0 := K.lt
  have RE := RowI.empty W0 (base := w.heap.size + 2) lt0
  have bq := below1 W0 (.cells #[] 3)
  replace K := K.below bq
  replace B0 := B0.trans (bq.mono B0.size)
  have R0 : Hid (RowI (w.heap.size + 2) (W0.alloc (.cells #[] 3)) (.slice (some ⟨W0.heap.size, 0, none⟩) 0 0) (fdI (y1, y2, y3, y4) bs is 0)) := RE
  clear b0 b1 bq V Y RE
  go_wp2_with fail
  generalize W0.alloc (.cells #[] 3) = W1 at *
  go_loopw [5, 6] (fun s5 s6 wr => ∃ j : Nat, j ≤ is.length ∧ s6 = .int .i64 j ∧ Hid (RowI (w.heap.size + 2) wr s5 (fdI (y1, y2, y3, y4) bs is j)) ∧ Hid (FB wr w.heap.size x1 x2 x3 x4 (.slice a1 bs.length c1) (.slice a2 is.length c2) (.slice a3 ks.length c3) y1 y2 y3 y4) ∧ Below w.heap.size w wr) (fun _ s6 _ => is.length - (intOf s6).toNat)
  case atStart => exact ⟨0, Nat.zero_le _, rfl, R0, K, B0⟩
  case round =>
    clear R0 K B0 lt0
    obtain ⟨j, hj, rfl, RR, HKB, B⟩ := hrel
    rename World => wr
    obtain ⟨⟨⟨k0, k1, k2, k3⟩, k4, k5, k6⟩, ⟨e0, e1, e2, e3⟩⟩ := HKB.out
    simp only [Nat.zero_add] at k0 k1 k2 k3 k4 k5 k6 e0 e1 e2 e3
    have hsz : w.heap.size + 2 ≤ wr.heap.size := HKB.out.lt
    by_cases hlt : j < is.length
    · obtain ⟨p1, o1, rfl, hc1⟩ := (s1.below B).cells (by intro e; have : bs.length = 0 := by rw [e]; rfl
                                                          omega)
      obtain ⟨p2, o2, rfl, hc2⟩ := (s2.below B).cells (by intro e; simp [e] at hlt)
      obtain ⟨f0, f1, f2, f3⟩ := hc1 j (by omega)
      have f4 := hc2 j hlt
      have hlb : (j : Int) < (bs.length : Int) := by omega
      obtain ⟨⟨q1, q2, q3, q4⟩, uq⟩ : ∃ x, Hid (bxAt bs j = x) := ⟨_, rfl⟩
      rw [uq.out] at f0 f1 f2 f3
      dsimp only at f0 f1 f2 f3
      have HFJ : Hid (fdI (y1, y2, y3, y4) bs is (j + 1) = fdI (y1, y2, y3, y4) bs is j ++ (if ovl q1 q2 q3 q4 y1 y2 y3 y4 then [is[j]?.getD 0] else [])) := by
        show _ = _
        simp only [fdI]
        rw [uq.out]
        rfl
      have hfl := HFI.out j
      generalize is[j]?.getD 0 = n0 at *
      clear hc1 hc2 uq
      go_wp2_with fail
      have N : Below wr.heap.size wr wr.drew := (Below.refl _ _).drew
      refine wp_region_held_drew (S := fun w' => Below wr.heap.size wr w') (by kernel_rfl) N (fun hHeld => ?_)
      clear hHeld
      generalize wr.drew = ww0 at *
      refine takeW (i := 0) (by simp only [List.getElem?_toArray, List.getElem?_cons_zero]; exact rfl) (by kernel_rfl) (by kernel_rfl) (by kernel_rfl) (by exact fun _ _ _ h => h) (by rfl) (by intro wq hSw; go_simp <;> with_reducible rfl) (by assumption) ?_
      try simp only [Act.put, List.setIfInBounds_toArray, List.set_cons_zero, List.set_cons_succ]
      refine takeW (i := 1) (by simp only [List.getElem?_toArray, List.getElem?_cons_succ, List.getElem?_cons_zero]; exact rfl) (by kernel_rfl) (by kernel_rfl) (by kernel_rfl) (by exact fun _ _ _ h => h) (by rfl) (by intro wq hSw; have y4' := bat hSw k4; have y5' := bat hSw k5; have y6' := bat hSw k6; have z0 := bat hSw e0; have z1 := bat hSw e1; have z2 := bat hSw e2; have z3 := bat hSw e3; have b0 := bat hSw f0; have b1 := bat hSw f1; have b2 := bat hSw f2; have b3 := bat hSw f3; go_simp <;> with_reducible rfl) (by assumption) ?_
      try simp only [Act.put, List.setIfInBounds_toArray, List.set_cons_zero, List.set_cons_succ]
      refine takeW (i := 2) (by simp only [List.getElem?_toArray, List.getElem?_cons_succ, List.getElem?_cons_zero]; exact rfl) (by kernel_rfl) (by kernel_rfl) (by kernel_rfl) (by exact fun _ _ _ h => h) (by rfl) (by intro wq hSw; go_simp <;> with_reducible rfl) (by assumption) ?_
      try simp only [Act.put, List.setIfInBounds_toArray, List.set_cons_zero, List.set_cons_succ]
      refine takeW (i := 3) (by simp only [List.getElem?_toArray, List.getElem?_cons_succ, List.getElem?_cons_zero]; exact rfl) (by kernel_rfl) (by kernel_rfl) (by kernel_rfl) (by exact fun _ _ _ h => h) (by rfl) (by intro wq hSw; go_simp <;> with_reducible rfl) (by assumption) ?_
      try simp only [Act.put, List.setIfInBounds_toArray, List.set_cons_zero, List.set_cons_succ]
      refine takeW (i := 4) (by simp only [List.getElem?_toArray, List.getElem?_cons_succ, List.getElem?_cons_zero]; exact rfl) (by kernel_rfl) (by kernel_rfl) (by kernel_rfl) (by exact fun _ _ _ h => h) (by rfl) (by intro wq hSw; have y4' := bat hSw k4; have y5' := bat hSw k5; have y6' := bat hSw k6; have z0 := bat hSw e0; have z1 := bat hSw e1; have z2 := bat hSw e2; have z3 := bat hSw e3; have b0 := bat hSw f0; have b1 := bat hSw f1; have b2 := bat hSw f2; have b3 := bat hSw f3; go_simp <;> with_reducible rfl) (by assumption) ?_
      try simp only [Act.put, List.setIfInBounds_toArray, List.set_cons_zero, List.set_cons_succ]
      refine takeW (i := 5) (by simp only [List.getElem?_toArray, List.getElem?_cons_succ, List.getElem?_cons_zero]; exact rfl) (by kernel_rfl) (by kernel_rfl) (by kernel_rfl) (by exact fun _ _ _ h => h) (by rfl) (by intro wq hSw; have y4' := bat hSw k4; have y5' := bat hSw k5; have y6' := bat hSw k6; have z0 := bat hSw e0; have z1 := bat hSw e1; have z2 := bat hSw e2; have z3 := bat hSw e3; have b0 := bat hSw f0; have b1 := bat hSw f1; have b2 := bat hSw f2; have b3 := bat hSw f3; go_simp <;> with_reducible rfl) (by assumption) ?_
      try simp only [Act.put, List.setIfInBounds_toArray, List.set_cons_zero, List.set_cons_succ]
      refine wpAnyH_ready (rs := [6]) (by kernel_rfl) (by simp) (AllReadyH.cons (by simp only [List.getElem?_toArray, List.getElem?_cons_succ, List.getElem?_cons_zero]; exact rfl) (fun K hK => ?_) AllReadyH.nil)
      go_simp
      refine (specOverlap _ _ _ _ _ _ _ _ _).mono ?_
      rintro e w2 ⟨rfl, hb⟩
      replace N := N.trans (hb.mono N.size)
      refine hK.out _ _ N (fun hHeld => ?_)
      clear hK K hHeld
      try simp only [Act.put, List.setIfInBounds_toArray, List.set_cons_zero, List.set_cons_succ]
      clear hb
      refine wpAnyH_done (by kernel_rfl) ?_ _
      have R2 := RR.out.below N
      have K2 := HKB.out.below N
      replace B := B.trans (N.mono B.size)
      have m5 := bat N k5
      have m4 := bat N f4
      have hz2 : w.heap.size + 2 ≤ w2.heap.size := Nat.le_trans hsz N.size
      clear N RR HKB k0 k1 k2 k3 k4 k5 k6 e0 e1 e2 e3 f0 f1 f2 f3 f4 hsz
      obtain ⟨ov, HOV⟩ : ∃ x, Hid (ovl q1 q2 q3 q4 y1 y2 y3 y4 = x) := ⟨_, rfl⟩
      rw [HOV.out] at HFJ ⊢
      clear HOV
      cases ov
      · have RF : Hid (RowI (w.heap.size + 2) w2 u5 (fdI (y1, y2, y3, y4) bs is (j + 1))) := by
          show RowI _ _ _ _
          rw [HFJ.out]
          simpa using R2
        clear R2 HFJ m4 m5
        go_wp2
        go_roundw
        case rel => exact ⟨j + 1, by omega, by go_num, RF, K2, B⟩
        case measure => simp [intOf]; omega
      · have b1 := below1 w2 (.cells #[.int .i64 n0] 3)
        have R3 := R2.below b1
        have K3 := K2.below b1
        have S1 : SeesI (w2.alloc (.cells #[.int .i64 n0] 3)) (some ⟨w2.heap.size, 0, none⟩) 1 [n0] := ⟨Nat.le_refl _, by simp [maxLen], fun _ => ⟨w2.heap.size, 0, rfl, fun i hi => by
          obtain rfl : i = 0 := by simpa using hi
          exact cell_new w2 #[.int .i64 n0] 3 0 rfl⟩⟩
        have hz3 : w.heap.size + 2 ≤ (w2.alloc (.cells #[.int .i64 n0] 3)).heap.size := Nat.le_trans hz2 b1.size
        replace B := B.trans (b1.mono B.size)
        clear b1 R2 K2
        go_wp2_with (at_builtin; refine wpList_append_seesI rfl (.tmp 23) (.tmp 29) rfl (w.heap.size + 2) u5 (fdI (y1, y2, y3, y4) bs is j) rfl R3 (some ⟨w2.heap.size, 0, none⟩) 1 [n0] rfl S1 (by simp; omega) hz3 ?_; intro v8 w8 R8 G8)
        have RF : Hid (RowI (w.heap.size + 2) w8 v8 (fdI (y1, y2, y3, y4) bs is (j + 1))) := by
          show RowI _ _ _ _
          rw [HFJ.out]
          simpa using R8
        have own : ∀ k, u5.ownBlock = some k → w.heap.size + 2 ≤ k := fun k hk => (World.ownsRow.lt R3 k hk).1
        have K8 := K3.grown G8 own
        have B8 := B.grown G8 (by omega) (fun k hk => by have := own k hk; omega)
        clear R8 R3 K3 G8 HFJ m4 m5
        go_roundw
        case rel => exact ⟨j + 1, by omega, by go_num, RF, K8, B8⟩
        case measure => simp [intOf]; omega
    · obtain rfl : j = is.length := by omega
      clear k0 k1 k2 k3 k4 k5 k6 e0 e1 e2 e3
      have R1 : Hid (RowI (w.heap.size + 2) wr u5 (fdI (y1, y2, y3, y4) bs is is.length ++ fdV.fdL (y1, y2, y3, y4) (ks.take 0))) := by show RowI _ _ _ _; simpa [fdV.fdL] using RR.out
      obtain ⟨⟨_, k4, k5, k6⟩, _⟩ := HKB.out
      simp only [Nat.zero_add] at k4 k5 k6
      go_wp2
      go_loopw [5, 7] (fun s5 s7 wi => ∃ j : Nat, j ≤ ks.length ∧ s7 = .int .i64 j ∧ Hid (RowI (w.heap.size + 2) wi s5 (fdI (y1, y2, y3, y4) bs is is.length ++ fdV.fdL (y1, y2, y3, y4) (ks.take j))) ∧ Hid (FB wi w.heap.size x1 x2 x3 x4 (.slice a1 bs.length c1) (.slice a2 is.length c2) (.slice a3 ks.length c3) y1 y2 y3 y4) ∧ Below w.heap.size w wi) (fun _ s7 _ => ks.length - (intOf s7).toNat)
      case atStart => exact ⟨0, Nat.zero_le _, rfl, R1, HKB, B⟩
      case round =>
        clear R1 HKB B RR k4 k5 k6 hsz
        obtain ⟨j, hj, rfl, RR, HKB, B⟩ := hrel
        rename World => wi
        obtain ⟨⟨⟨k0, k1, k2, k3⟩, k4, k5, k6⟩, ⟨e0, e1, e2, e3⟩⟩ := HKB.out
        simp only [Nat.zero_add] at k0 k1 k2 k3 k4 k5 k6 e0 e1 e2 e3
        have hsz : w.heap.size + 2 ≤ wi.heap.size := HKB.out.lt
        by_cases hlk : j < ks.length
        · obtain ⟨p, o, rfl, hcell⟩ := s3.cells (by intro e; simp [e] at hlk)
          obtain ⟨v1, v2, v3, SK0, N3⟩ := hcell j hlk
          have hpw : p < w.heap.size := World.block_lt_of_cell? w _ SK0.c6
          have SK := SK0.below B
          obtain ⟨d', hd'⟩ := HRT.out.2 _ (ndA_mem hlk)
          have C := fun (W : World) (hb : Below wi.heap.size wi W) => IH.out _ (ndA_mem hlk) false d' v1 v2 v3 y1 y2 y3 y4 W hd' (NdIn.keep (B.trans (hb.mono B.size)) _ N3) (by have := HKS.out j hlk; have := HZ.out; omega)
          have HI : Hid (fdV.fdL (y1, y2, y3, y4) (ks.take (j + 1)) = fdV.fdL (y1, y2, y3, y4) (ks.take j) ++ fdV (y1, y2, y3, y4) (ndA ks j)) := fdL_at _ hlk
          have hil := fdV_le (y1, y2, y3, y4) (ndA ks j)
          have hi2 : (fdV (y1, y2, y3, y4) (ndA ks j)).length ≤ 1048576 := by have := HKS.out j hlk; have := HZ.out; omega
          have hi3 := HK.out j hj
          have hi4 := HFI.out is.length
          have hl8 : (fdI (y1, y2, y3, y4) bs is is.length ++ fdV.fdL (y1, y2, y3, y4) (ks.take j)).length + (fdV (y1, y2, y3, y4) (ndA ks j)).length ≤ 4000000 := by rw [List.length_append]; have := HZ.out; omega
          unfold ndV at C
          clear hcell SK0 N3 hd' hil
          generalize ndA ks j = t at *
          go_wp2_with fail
          have M := (Below.refl wi.heap.size wi).drew
          have N : FB wi.drew w.heap.size x1 x2 x3 x4 (.slice a1 bs.length c1) (.slice a2 is.length c2) (.slice (some ⟨p, o, none⟩) ks.length c3) y1 y2 y3 y4 ∧ Sev wi.drew p (o + j * 7) t.b v1 v2 v3 := ⟨HKB.out.below M, SK.below M⟩
          refine wp_region_held_drew (S := fun w' => FB w' w.heap.size x1 x2 x3 x4 (.slice a1 bs.length c1) (.slice a2 is.length c2) (.slice (some ⟨p, o, none⟩) ks.length c3) y1 y2 y3 y4 ∧ Sev w' p (o + j * 7) t.b v1 v2 v3) (by kernel_rfl) N (fun hHeld => ?_)
          clear hHeld SK HKB k0 k1 k2 k3 k4 k5 k6 e0 e1 e2 e3
          generalize wi.drew = ww0 at *
          refine takeW (i := 0) (by simp only [List.getElem?_toArray, List.getElem?_cons_zero]; exact rfl) (by kernel_rfl) (by kernel_rfl) (by kernel_rfl) (by exact fun _ _ _ h => h) (by rfl) (by intro wq hSw; go_simp <;> with_reducible rfl) (by assumption) ?_
          try simp only [Act.put, List.setIfInBounds_toArray, List.set_cons_zero, List.set_cons_succ]
          refine takeW (i := 1) (by simp only [List.getElem?_toArray, List.getElem?_cons_succ, List.getElem?_cons_zero]; exact rfl) (by kernel_rfl) (by kernel_rfl) (by kernel_rfl) (by exact fun _ _ _ h => h) (by rfl) (by intro wq hSw; go_simp <;> with_reducible rfl) (by assumption) ?_
          try simp only [Act.put, List.setIfInBounds_toArray, List.set_cons_zero, List.set_cons_succ]
          refine takeW (i := 2) (by simp only [List.getElem?_toArray, List.getElem?_cons_succ, List.getElem?_cons_zero]; exact rfl) (by kernel_rfl) (by kernel_rfl) (by kernel_rfl) (by exact fun _ _ _ h => h) (by rfl) (by intro wq hSw; obtain ⟨⟨⟨⟨j0, j1, j2, j3⟩, j4, j5, j6⟩, ⟨z0, z1, z2, z3⟩⟩, ⟨⟨b0, b1, b2, b3⟩, b4, b5, b6⟩⟩ := hSw; simp only [Nat.zero_add] at j0 j1 j2 j3 j4 j5 j6 z0 z1 z2 z3; go_simp <;> with_reducible rfl) (by assumption) ?_
          try simp only [Act.put, List.setIfInBounds_toArray, List.set_cons_zero, List.set_cons_succ]
          refine takeW (i := 3) (by simp only [List.getElem?_toArray, List.getElem?_cons_succ, List.getElem?_cons_zero]; exact rfl) (by kernel_rfl) (by kernel_rfl) (by kernel_rfl) (by exact fun _ _ _ h => h) (by rfl) (by intro wq hSw; go_simp <;> with_reducible rfl) (by assumption) ?_
          try simp only [Act.put, List.setIfInBounds_toArray, List.set_cons_zero, List.set_cons_succ]
          refine takeW (i := 4) (by simp only [List.getElem?_toArray, List.getElem?_cons_succ, List.getElem?_cons_zero]; exact rfl) (by kernel_rfl) (by kernel_rfl) (by kernel_rfl) (by exact fun _ _ _ h => h) (by rfl) (by intro wq hSw; go_simp <;> with_reducible rfl) (by assumption) ?_
          try simp only [Act.put, List.setIfInBounds_toArray, List.set_cons_zero, List.set_cons_succ]
          refine takeW (i := 5) (by simp only [List.getElem?_toArray, List.getElem?_cons_succ, List.getElem?_cons_zero]; exact rfl) (by kernel_rfl) (by kernel_rfl) (by kernel_rfl) (by exact fun _ _ _ h => h) (by rfl) (by intro wq hSw; obtain ⟨⟨⟨⟨j0, j1, j2, j3⟩, j4, j5, j6⟩, ⟨z0, z1, z2, z3⟩⟩, ⟨⟨b0, b1, b2, b3⟩, b4, b5, b6⟩⟩ := hSw; simp only [Nat.zero_add] at j0 j1 j2 j3 j4 j5 j6 z0 z1 z2 z3; go_simp <;> with_reducible rfl) (by assumption) ?_
          try simp only [Act.put, List.setIfInBounds_toArray, List.set_cons_zero, List.set_cons_succ]
          refine takeW (i := 6) (by simp only [List.getElem?_toArray, List.getElem?_cons_succ, List.getElem?_cons_zero]; exact rfl) (by kernel_rfl) (by kernel_rfl) (by kernel_rfl) (by exact fun _ _ _ h => h) (by rfl) (by intro wq hSw; obtain ⟨⟨⟨⟨j0, j1, j2, j3⟩, j4, j5, j6⟩, ⟨z0, z1, z2, z3⟩⟩, ⟨⟨b0, b1, b2, b3⟩, b4, b5, b6⟩⟩ := hSw; simp only [Nat.zero_add] at j0 j1 j2 j3 j4 j5 j6 z0 z1 z2 z3; go_simp <;> with_reducible rfl) (by assumption) ?_
          try simp only [Act.put, List.setIfInBounds_toArray, List.set_cons_zero, List.set_cons_succ]
          refine wpAnyH_ready (rs := [7]) (by kernel_rfl) (by simp) (AllReadyH.cons (by simp only [List.getElem?_toArray, List.getElem?_cons_succ, List.getElem?_cons_zero]; exact rfl) (fun K hK => ?_) AllReadyH.nil)
          go_simp
          refine (C _ M).mono ?_
          rintro e w2 ⟨v, rfl, RI, hb⟩
          obtain ⟨av, cv, rfl, SI⟩ := RI.seesI
          replace M := M.trans (hb.mono M.size)
          replace N := (⟨N.1.below hb, N.2.below hb⟩ : _ ∧ _)
          refine hK.out _ _ N (fun hHeld => ?_)
          clear hK K hHeld
          try simp only [Act.put, List.setIfInBounds_toArray, List.set_cons_zero, List.set_cons_succ]
          have R2 := RR.out.below M
          have hz2 : w.heap.size + 2 ≤ w2.heap.size := Nat.le_trans hsz M.size
          replace B := B.trans (M.mono B.size)
          clear hb RI M
          refine wpAnyH_ready (rs := [8]) (by kernel_rfl) (by simp) (AllReadyH.cons (by simp only [List.getElem?_toArray, List.getElem?_cons_succ, List.getElem?_cons_zero]; exact rfl) (fun K hK => ?_) AllReadyH.nil)
          refine wp_append_seesI (.tmp 38) (.tmp 45) rfl (w.heap.size + 2) u5 (fdI (y1, y2, y3, y4) bs is is.length ++ fdV.fdL (y1, y2, y3, y4) (ks.take j)) rfl R2 av cv (fdV (y1, y2, y3, y4) t) rfl SI hl8 hz2 ?_
          intro v8 w8 R8 G8
          rw [List.append_assoc, ← HI.out] at R8
          have own : ∀ k, u5.ownBlock = some k → w.heap.size + 2 ≤ k := fun k hk => (World.ownsRow.lt R2 k hk).1
          have K8 : Hid (FB w8 w.heap.size x1 x2 x3 x4 (.slice a1 bs.length c1) (.slice a2 is.length c2) (.slice (some ⟨p, o, none⟩) ks.length c3) y1 y2 y3 y4) := N.1.grown G8 own
          have B8 := B.grown G8 (by omega) (fun k hk => by have := own k hk; omega)
          replace N := (⟨K8.out, N.2.grownF G8 (fun e => by have := own _ e.symm; omega)⟩ : _ ∧ _)
          have RF : Hid (RowI (w.heap.size + 2) w8 v8 (fdI (y1, y2, y3, y4) bs is is.length ++ fdV.fdL (y1, y2, y3, y4) (ks.take (j + 1)))) := R8
          refine hK.out _ _ N (fun hHeld => ?_)
          clear hK K hHeld
          try simp only [Act.put, List.setIfInBounds_toArray, List.set_cons_zero, List.set_cons_succ]
          clear R8 G8 R2 SI own
          refine takeW (i := 9) (by simp only [List.getElem?_toArray, List.getElem?_cons_succ, List.getElem?_cons_zero]; exact rfl) (by kernel_rfl) (by kernel_rfl) (by kernel_rfl) (by exact fun _ _ _ h => h) (by rfl) (by intro wq hSw; go_simp <;> with_reducible rfl) (by assumption) ?_
          try simp only [Act.put, List.setIfInBounds_toArray, List.set_cons_zero, List.set_cons_succ]
          refine wpAnyH_done (by kernel_rfl) ?_ _
          clear N
          go_wp2
          go_roundw
          case rel => exact ⟨j + 1, by omega, by go_num, RF, K8, B8⟩
          case measure => simp [intOf]; omega
        · obtain rfl : j = ks.length := by omega
          have F : Hid (RowI (w.heap.size + 2) wi u5 (fdI (y1, y2, y3, y4) bs is is.length ++ fdV.fdL (y1, y2, y3, y4) ks)) := by have := RR.out; rw [List.take_length] at this; exact this
          clear RR
          go_wp2
          go_ret
          exact ⟨_, rfl, row_base F.out (by omega), B⟩
theorem l15Find_any : ∀ t, FiC t := Nd.ind l15Find_step
end Go.Proofs.YtdkhaghcnijilaaGreat
