/- The iterator of overlapping, of the program: the stack of nodes, what each tells. -/
import Derived.Test.YtdkhaghcnijilaaGreatTgB
import Derived.Sort.CutIn
namespace Go.Proofs.YtdkhaghcnijilaaGreat
open Go.RowKit Go.Shelf
attribute [local go_sem] Oper.semAt_some

theorem rows_wide {n : Nat} {P : Program} {row : String} {args : Array Value} {w : World} {R : Value → World → Prop} (h : Rows P row args w R) : RowsIn Fence.wide n P row args w R := fun c cs _ => by
  obtain ⟨v, w', q, r⟩ := h c cs
  exact ⟨v, w', q, stepsIn_wide.2 r⟩
theorem oper_wide {n : Nat} {P : Program} {o : Oper} {a : Act} {w : World} {K : Act → World → Prop} {Q : Exit → Act → World → Prop} (h : o.wp P a w K Q) : o.wpIn Fence.wide n P a w K Q := by
  unfold Oper.wp at h
  unfold Oper.wpIn
  refine ⟨fun _ _ => trivial, ?_⟩
  rw [show o.semAt Fence.wide.round a.eval = execOp a.eval o from by simp [Oper.semAt, Fence.wide]]
  generalize (execOp a.eval o).run P w = r at *
  cases r with
  | ok x w' =>
    cases x <;> simp only [Oper.upon] at h <;> simp only [Oper.uponIn]
    all_goals first
      | exact h
      | exact ⟨fun e => (by cases e), callsIn_wide.2 h⟩
      | exact ⟨fun e => (by cases e), rows_wide h⟩
  | halt x w' => cases x <;> simp only [Oper.upon] at h <;> simp only [Oper.uponIn] <;> exact h
theorem any_wide {n : Nat} {P : Program} {md : Region.Mode} {ops : Array Oper} {Q : Exit → Act → World → Prop} (nL : ∀ a w, ¬ Q .outgrown a w) :
    ∀ (fuel : Nat) (listed : Array Bool) (a : Act) (w : World), wpAny P md ops Q fuel listed a w → wpAnyIn Fence.wide n P md ops Q fuel listed a w
  | 0, _, _, _, h => h
  | fuel + 1, listed, a, w, h => by
    refine ⟨h.1, fun i hi => ?_⟩
    have h2 := wpOp_mono (K' := fun a w => wpAnyIn Fence.wide n P md ops Q fuel (listed.setIfInBounds i true) a w) (fun a w => any_wide nL fuel _ a w) (h.2 i hi)
    unfold wpOp at h2
    unfold wpOpIn
    split
    · rename_i e; rw [e] at h2; exact h2
    · rename_i o e
      rw [e] at h2
      dsimp only at h2
      split
      · rename_i hw
        rw [if_pos hw] at h2
        rcases h2 with h2 | ⟨_, a', w', h2⟩
        · exact oper_wide h2
        · exact absurd h2 (nL _ _)
      · rename_i hw
        rw [if_neg hw] at h2
        exact ⟨fun _ _ => trivial, h2⟩
theorem wpIn_region_wide {n : Nat} {P : Program} {ops : Array Oper} {Q : Exit → Act → World → Prop} {S : World → Prop} {id : Nat} {a : Act} {w : World} (hm : P.follows .mixedOrders = true) (nL : ∀ a w, ¬ Q .outgrown a w) (hS : S w.drew)
    (h : S w.drew → wpAnyH P .any ops Q S ops.size (Array.replicate ops.size false) a w.drew) : (Code.region id ops true).wpIn Fence.wide n P Q a w :=
  wpIn_region_any hm (any_wide nL _ _ _ _ (wpAny_of_held _ _ _ _ (h hS)))
theorem wpListIn_append_own_none {F : Fence} {n : Nat} {P : Program} (w : World) {ops : Array Oper} {rest : List Oper} {o : Oper} {a : Act} {Q : Exit → Act → World → Prop} (hgd : o.guard = none) (s x : Operand) (t : TypeId)
    (ho : o.op = .call { callee := .builtin .append, args := #[s, x], argTypes := #[t, t] })
    (base : Nat) (e : TypeId) (i : TypeInfo) (size : Nat) (ht : P.underlying t = some (.slice e)) (hi : P.info? e = some i)
    (v : Value) (k : Nat) (xs : List Value) (hs : a.eval s = v) (hown : w.ownsRow base e size v k xs) (hx : a.eval x = .slice none 0 0)
    (h : wpListIn F n P ops Q rest (a.put o.dst v) w) : wpListIn F n P ops Q (o :: rest) a w := by
  refine wpListIn_plain hgd fun K hK => ?_
  have hrun := run_append_owned_none (P := P) (w := w) base t o.type e i size ht hi v k xs hown
  unfold Oper.wpIn
  refine ⟨?_, ?_⟩
  · simp [Oper.about, ho, resolve, Target.leads, Sem.run_pure]
  · rw [Oper.semAt_plain F _ _ (by rw [ho]; intro c hc'; cases hc')]
    simp [execOp, ho, resolve, invoke, builtin, hs, hx, hrun, Result.andThen]
    exact hK _ _ h
theorem OvIt.cells {B : Nat} {p : Value} {y1 y2 y3 y4 : Int} {w W : World} (h : OvIt B p y1 y2 y3 y4 w) (hb : Below w.heap.size w W) : W.cell? ⟨B, 0, none⟩ = some p ∧ Four W (B + 1) 0 (y1, y2, y3, y4) := by
  have h1 := (hb.block B (Array.getElem?_eq_some_iff.1 h.nd).1).trans h.nd
  have h2 := (hb.block (B + 1) (Array.getElem?_eq_some_iff.1 h.bx).1).trans h.bx
  have q : ∀ k v, #[Value.int .i64 y1, .int .i64 y2, .int .i64 y3, .int .i64 y4][k]? = some v → W.cell? ⟨B + 1, k, none⟩ = some v := fun k v hk => by
    unfold World.cell?
    rw [show W.heap[B + 1]? = _ from h2]
    exact hk
  refine ⟨?_, q 0 _ rfl, q 1 _ rfl, q 2 _ rfl, q 3 _ rfl⟩
  unfold World.cell?
  rw [show W.heap[B]? = _ from h1]
  rfl
theorem leastN_lt {q : Nat → Prop} {k k' : Nat} (h : q k') (hk : k' < k) : leastN q < k := Nat.lt_of_le_of_lt ((least_at ⟨k', h⟩).2 k' h) hk
theorem OvS.below {w : World} {b : Nat} {J : List Int → World → Prop} {wn : Bx} {tot : List Int} {k : Nat} {pre : List Int} {v : Value} {sq : List Ptr} {st : List Nd} {W W' : World} (h : OvS w b J wn tot k pre v sq st W) (h0 : b ≤ w.heap.size) (hb : Below W.heap.size W W') (hj : J pre W') : OvS w b J wn tot k pre v sq st W' :=
  ⟨h.row.below hb, h.wk, h.hd, hj, h.pm, h.sz, h.le, h.bel.trans (hb.mono (Nat.le_trans h0 h.bel.size))⟩

set_option maxRecDepth 100000 in
set_option maxHeartbeats 4000000 in
theorem overlapped_seq (B p : Nat) (y1 y2 y3 y4 : Int) (t : Nd) (w : World) (hO : OvIt B (.pointer (some ⟨p, 0, none⟩)) y1 y2 y3 y4 w) (hW : WkAt w p t) (hd : ∃ top d, Hd top t d) (hs : ndSz t ≤ 1048576) (n : Nat) (hn : 1 ≤ n) :
    SeqM Fence.wide n Tryz.prog 72 #[.pointer (some ⟨B, 0, none⟩), .pointer (some ⟨B + 1, 0, none⟩)] encI (fun xs => xs.Perm (fdV (y1, y2, y3, y4) t)) (fdV (y1, y2, y3, y4) t).length 63 w := fun l J W hB hJ hY hJ0 => by
  obtain ⟨c0, e0, e1, e2, e3⟩ := hO.cells hB
  have HO : Hid (∀ W, Below w.heap.size w W → W.cell? ⟨B, 0, none⟩ = some (.pointer (some ⟨p, 0, none⟩)) ∧ Four W (B + 1) 0 (y1, y2, y3, y4)) := fun W hb => hO.cells hb
  have HY : Hid (∀ pre x W1, J pre W1 → pre.length < (fdV (y1, y2, y3, y4) t).length → YieldAt Fence.wide (n - 1) Tryz.prog l #[encI x] W1 fun e W' => e = .returned (.bool true) ∧ J (pre ++ [x]) W' ∧ RndT w.heap.size 63 W1 W') := hY
  have HJ : Hid (∀ pre A A', J pre A → Below A.heap.size A A' → w.heap.size ≤ A.heap.size → J pre A') := fun pre A A' hj hb hz => hJ pre A A' hj (OwnT.ofBelow hb hz)
  have HG : Hid (∀ pre A A', J pre A → OwnT w.heap.size 63 A A' → J pre A') := hJ
  have R1 := RowWp.one W (base := w.heap.size) hB.size p
  have B1 := below1 W (.cells #[.pointer (some ⟨p, 0, none⟩)] 63)
  have J1 := HJ.out _ _ _ hJ0 B1 hB.size
  have L1 : WkL w [(p, 0)] [t] := ⟨rfl, fun i hi => by (have e : i = 0 := by simpa using hi); subst e; exact ⟨rfl, hW⟩⟩
  have BW : Below w.heap.size w (W.alloc (.cells #[.pointer (some ⟨p, 0, none⟩)] 63)) := hB.trans (B1.mono hB.size)
  have O1 : OvS w w.heap.size J (y1, y2, y3, y4) (fdV (y1, y2, y3, y4) t) (1 + ndSz t) [] (.slice (some ⟨W.heap.size, 0, none⟩) 1 1) [(p, 0)] [t] (W.alloc (.cells #[.pointer (some ⟨p, 0, none⟩)] 63)) :=
    ⟨R1, L1, fun x hx => by (have e : x = t := by simpa using hx); subst e; exact hd, J1, by simp [fdV.fdL], by simp [ndSz.ndsSz], by omega, BW⟩
  obtain ⟨iX, hiX, hx0, hx1, hx2⟩ := info_parts infoWp
  clear hO hY hJ hJ0 R1 B1 J1 L1 BW hW hd hB
  refine callsIn_of_wp Tryz.func72 rfl trivial ?_ rfl
  simp only [Tryz.ntmps72, List.size_toArray, List.length_cons, List.length_nil, Nat.reduceAdd, Nat.reduceSub, Array.replicate_succ, Array.replicate_zero, List.push_toArray, List.append_toArray, List.nil_append, List.cons_append]
  gi_wp2
  generalize W.alloc (.cells #[.pointer (some ⟨p, 0, none⟩)] 63) = W0 at *
  obtain ⟨tot, HT⟩ : ∃ x, Hid (fdV (y1, y2, y3, y4) t = x) := ⟨_, rfl⟩
  rw [HT.out] at HY O1
  clear e0 e1 e2 e3 c0 hs
  gi_loopw [4] (fun s4 wr => ∃ k, OvR w w.heap.size J (y1, y2, y3, y4) tot s4 wr k) (fun s4 wr => leastN (OvR w w.heap.size J (y1, y2, y3, y4) tot s4 wr))
  case atStart => exact ⟨_, [], _, _, O1⟩
  case round =>
    clear O1
    rename World => wr
    obtain ⟨hk, _⟩ := least_at hrel
    obtain ⟨kk, hkk⟩ : ∃ k, Hid (leastN (OvR w w.heap.size J (y1, y2, y3, y4) tot u4 wr) = k) := ⟨_, rfl⟩
    rw [hkk.out] at hk
    clear hrel
    obtain ⟨pre, sq, st, O⟩ := hk
    rcases O.two with ⟨rfl, rfl⟩ | ⟨sq, ⟨qp, qo⟩, st, tt, rfl, rfl⟩
    · obtain ⟨a, c, rfl, _, _⟩ := O.row.sees
      have F : Hid (pre.Perm tot ∧ J pre wr) := ⟨fd_all O.pm, O.j⟩
      clear O
      gi_wp2
      go_end0
      exact ⟨⟨_, rfl⟩, pre, by rw [HT.out]; exact F.out.1, F.out.2⟩
    · obtain ⟨a, c, rfl, _, _⟩ := O.row.sees
      obtain ⟨g, rfl, _, hc, hm, gl⟩ := O.row.at
      have HOS : Hid (OvS w w.heap.size J (y1, y2, y3, y4) tot kk pre (.slice (some ⟨g, 0, none⟩) (sq ++ [(qp, qo)]).length c) (sq ++ [(qp, qo)]) (st ++ [tt]) wr) := O
      rw [List.length_append, List.length_singleton] at hc hkk ⊢
      unfold maxLen at hm
      obtain ⟨_, q2, WK⟩ := O.wk.pop
      dsimp only at q2 WK
      subst q2
      obtain ⟨a1, c1, a2, c2, qk, K6, SI, SQ, KA, _, NIL⟩ := WK.open
      have HB : Hid (Below w.heap.size w wr) := O.bel
      have Kr := K6.below O.bel
      obtain ⟨⟨k0, k1, k2, k3⟩, _, _, _, _⟩ := id Kr
      obtain ⟨c0, e0, e1, e2, e3⟩ := HO.out wr O.bel
      obtain ⟨⟨x1, x2, x3, x4⟩, ux⟩ : ∃ x, Hid (tt.b = x) := ⟨_, rfl⟩
      rw [ux.out] at k0 k1 k2 k3
      dsimp only at k0 k1 k2 k3 e0 e1 e2 e3
      unfold ptV at gl
      have hz1 : wrap64 (sq.length : Int) = (sq.length : Int) := by unfold wrap64; omega
      have HK5 : Hid (Wk6 w qp tt.b (.slice a1 tt.bs.length c1) (.slice a2 tt.ks.length c2)) := K6
      have hc1 : sq.length ≤ c := by omega
      have hc2 : (sq.length : Int) ≤ (c : Int) := by omega
      clear O WK K6 hc
      gi_wp2_with fail
      have N : Below wr.heap.size wr wr.drew := (Below.refl _ _).drew
      refine wpIn_region_wide (S := fun w' => Below wr.heap.size wr w') (by kernel_rfl) (by intro a w' h; obtain ⟨⟨v, e⟩, _⟩ : (∃ v, Ending.outgrown = Ending.returned v) ∧ ∃ xs : List Int, xs.Perm (fdV (y1, y2, y3, y4) t) ∧ J xs w' := h; cases e) N (fun hHeld => ?_)
      clear hHeld
      generalize wr.drew = ww0 at *
      refine takeW (i := 0) (by simp only [List.getElem?_toArray, List.getElem?_cons_zero]; exact rfl) (by kernel_rfl) (by kernel_rfl) (by kernel_rfl) (by exact fun _ _ _ h => h) (by rfl) (by intro wq hSw; go_simp <;> with_reducible rfl) (by assumption) ?_
      try simp only [Act.put, List.setIfInBounds_toArray, List.set_cons_zero, List.set_cons_succ]
      refine takeW (i := 1) (by simp only [List.getElem?_toArray, List.getElem?_cons_succ, List.getElem?_cons_zero]; exact rfl) (by kernel_rfl) (by kernel_rfl) (by kernel_rfl) (by exact fun _ _ _ h => h) (by rfl) (by intro wq hSw; have m0 := bat hSw k0; have m1 := bat hSw k1; have m2 := bat hSw k2; have m3 := bat hSw k3; have z0 := bat hSw e0; have z1 := bat hSw e1; have z2 := bat hSw e2; have z3 := bat hSw e3; go_simp <;> with_reducible rfl) (by assumption) ?_
      try simp only [Act.put, List.setIfInBounds_toArray, List.set_cons_zero, List.set_cons_succ]
      refine takeW (i := 2) (by simp only [List.getElem?_toArray, List.getElem?_cons_succ, List.getElem?_cons_zero]; exact rfl) (by kernel_rfl) (by kernel_rfl) (by kernel_rfl) (by exact fun _ _ _ h => h) (by rfl) (by intro wq hSw; go_simp <;> with_reducible rfl) (by assumption) ?_
      try simp only [Act.put, List.setIfInBounds_toArray, List.set_cons_zero, List.set_cons_succ]
      refine takeW (i := 3) (by simp only [List.getElem?_toArray, List.getElem?_cons_succ, List.getElem?_cons_zero]; exact rfl) (by kernel_rfl) (by kernel_rfl) (by kernel_rfl) (by exact fun _ _ _ h => h) (by rfl) (by intro wq hSw; have m0 := bat hSw k0; have m1 := bat hSw k1; have m2 := bat hSw k2; have m3 := bat hSw k3; have z0 := bat hSw e0; have z1 := bat hSw e1; have z2 := bat hSw e2; have z3 := bat hSw e3; go_simp <;> with_reducible rfl) (by assumption) ?_
      try simp only [Act.put, List.setIfInBounds_toArray, List.set_cons_zero, List.set_cons_succ]
      refine takeW (i := 4) (by simp only [List.getElem?_toArray, List.getElem?_cons_succ, List.getElem?_cons_zero]; exact rfl) (by kernel_rfl) (by kernel_rfl) (by kernel_rfl) (by exact fun _ _ _ h => h) (by rfl) (by intro wq hSw; have m0 := bat hSw k0; have m1 := bat hSw k1; have m2 := bat hSw k2; have m3 := bat hSw k3; have z0 := bat hSw e0; have z1 := bat hSw e1; have z2 := bat hSw e2; have z3 := bat hSw e3; go_simp <;> with_reducible rfl) (by assumption) ?_
      try simp only [Act.put, List.setIfInBounds_toArray, List.set_cons_zero, List.set_cons_succ]
      refine wpAnyH_ready (rs := [5]) (by kernel_rfl) (by simp) (AllReadyH.cons (by simp only [List.getElem?_toArray, List.getElem?_cons_succ, List.getElem?_cons_zero]; exact rfl) (fun K hK => ?_) AllReadyH.nil)
      go_simp
      refine (implOverlap _ _ _ _ _ _ _ _ _).mono ?_
      rintro e w2 ⟨rfl, hb⟩
      replace N := N.trans (hb.mono N.size)
      refine hK.out _ _ N (fun hHeld => ?_)
      clear hK K hHeld
      try simp only [Act.put, List.setIfInBounds_toArray, List.set_cons_zero, List.set_cons_succ]
      clear hb
      refine takeW (i := 6) (by simp only [List.getElem?_toArray, List.getElem?_cons_succ, List.getElem?_cons_zero]; exact rfl) (by kernel_rfl) (by kernel_rfl) (by kernel_rfl) (by exact fun _ _ _ h => h) (by rfl) (by intro wq hSw; go_simp <;> with_reducible rfl) (by assumption) ?_
      try simp only [Act.put, List.setIfInBounds_toArray, List.set_cons_zero, List.set_cons_succ]
      refine wpAnyH_done (by kernel_rfl) ?_ _
      have HO2 : Hid (OvS w w.heap.size J (y1, y2, y3, y4) tot kk pre (.slice (some ⟨g, 0, none⟩) (sq ++ [(qp, 0)]).length c) (sq ++ [(qp, 0)]) (st ++ [tt]) w2) := HOS.out.below (Nat.le_refl _) N (HJ.out _ _ _ HOS.out.j N HOS.out.bel.size)
      have HB2 : Hid (Below w.heap.size w w2) := HO2.out.bel
      have c4 := (Kr.below N).c4
      clear N k0 k1 k2 k3 e0 e1 e2 e3 c0 gl HOS HB Kr
      obtain ⟨ov, HOV⟩ : ∃ x, Hid (ovl x1 x2 x3 x4 y1 y2 y3 y4 = x) := ⟨_, rfl⟩
      rw [HOV.out]
      cases ov
      · obtain ⟨k', hk', O3⟩ := HO2.out.bar (by rw [ux.out]; exact HOV.out)
        have HO3 : Hid (OvS w w.heap.size J (y1, y2, y3, y4) tot k' pre (.slice (some ⟨g, 0, none⟩) sq.length c) sq st w2) := O3
        clear HO2 c4 O3 HB2 SI SQ
        gi_wp2
        go_roundw
        case rel => exact ⟨k', pre, sq, st, HO3.out⟩
        case measure => rw [hkk.out]; exact leastN_lt ⟨pre, sq, st, HO3.out⟩ hk'
      · clear HOV
        have HSI : Hid (SeesIt w a1 c1 tt.bs tt.is) := SI
        have HSQ : Hid (SeesTp w a2 c2 qk) := SQ
        have HKA : Hid (WkL w qk tt.ks) := KA
        have HK6 : Hid (∀ W, Below w.heap.size w W → W.cell? ⟨qp, 5, none⟩ = some (.slice a2 tt.ks.length c2)) := fun W hb => (HK5.out.below hb).c5
        have HLI : Hid (tt.bs.length = tt.is.length) := SI.len
        have hf1 := SI.fits
        have hm1 := SI.max
        unfold maxLen at hm1
        have HRM : Hid (∀ j, j + 1 ≤ tt.is.length → pre.length + (fdI (y1, y2, y3, y4) tt.bs tt.is (j + 1)).length ≤ tot.length) := fun j hj => by
          have h1 := fdI_mono (y1, y2, y3, y4) tt.bs tt.is hj
          have h2 := HO2.out.pm
          rw [Nd.eta tt] at h2
          have h3 := fd_room h2
          exact Nat.le_trans (Nat.add_le_add_left h1 _) h3
        have RR0 := HO2.out.row.pop
        have JJ0 := HO2.out.j
        have BB0 := HB2.out
        clear SI SQ KA HB2
        gi_wp2
        gi_loopw [36] (fun s36 wi => ∃ j : Nat, j ≤ tt.bs.length ∧ s36 = .int .i64 j ∧ Hid (J (pre ++ fdI (y1, y2, y3, y4) tt.bs tt.is j) wi) ∧ Hid (RowWp w.heap.size wi (.slice (some ⟨g, 0, none⟩) sq.length c) sq) ∧ Below w.heap.size w wi) (fun s36 _ => tt.bs.length - (intOf s36).toNat)
        case atStart => exact ⟨0, Nat.zero_le _, rfl, by show J _ _; rw [show fdI (y1, y2, y3, y4) tt.bs tt.is 0 = [] from rfl, List.append_nil]; exact JJ0, RR0, BB0⟩
        case round =>
          clear RR0 JJ0 BB0 c4
          obtain ⟨j, hj, rfl, Hj, RR, B⟩ := hrel
          rename World => wi
          by_cases hlt : j < tt.bs.length
          · obtain ⟨b1, o1, ea, hcs⟩ := (HSI.out.below B).cells (by intro e; simp [e] at hlt)
            subst ea
            obtain ⟨⟨g1, g2, g3, g4⟩, g5⟩ := hcs j hlt
            have HF : Hid (fdI (y1, y2, y3, y4) tt.bs tt.is (j + 1) = fdI (y1, y2, y3, y4) tt.bs tt.is j ++ (if ovX (bxAt tt.bs j) (y1, y2, y3, y4) then [tt.is[j]?.getD 0] else [])) := (rfl : fdI (y1, y2, y3, y4) tt.bs tt.is (j + 1) = _)
            have hrm := HRM.out j (by have := HLI.out; omega)
            obtain ⟨⟨z1, z2, z3, z4⟩, uz⟩ : ∃ x, Hid (bxAt tt.bs j = x) := ⟨_, rfl⟩
            rw [uz.out] at g1 g2 g3 g4 HF
            dsimp only at g1 g2 g3 g4
            replace HF : Hid (fdI (y1, y2, y3, y4) tt.bs tt.is (j + 1) = fdI (y1, y2, y3, y4) tt.bs tt.is j ++ (if ovl z1 z2 z3 z4 y1 y2 y3 y4 then [tt.is[j]?.getD 0] else [])) := HF
            obtain ⟨_, e0, e1, e2, e3⟩ := HO.out wi B
            dsimp only at e0 e1 e2 e3
            simp only [Nat.zero_add] at e0 e1 e2 e3
            generalize tt.is[j]?.getD 0 = n0 at *
            have B6 := below1 wi (.cells #[.int .i64 z1, .int .i64 z2, .int .i64 z3, .int .i64 z4, .int .i64 n0] 85)
            have q0 := cell_new wi #[.int .i64 z1, .int .i64 z2, .int .i64 z3, .int .i64 z4, .int .i64 n0] 85 0 rfl
            have q1 := cell_new wi #[.int .i64 z1, .int .i64 z2, .int .i64 z3, .int .i64 z4, .int .i64 n0] 85 1 rfl
            have q2 := cell_new wi #[.int .i64 z1, .int .i64 z2, .int .i64 z3, .int .i64 z4, .int .i64 n0] 85 2 rfl
            have q3 := cell_new wi #[.int .i64 z1, .int .i64 z2, .int .i64 z3, .int .i64 z4, .int .i64 n0] 85 3 rfl
            have q4 := cell_new wi #[.int .i64 z1, .int .i64 z2, .int .i64 z3, .int .i64 z4, .int .i64 n0] 85 4 rfl
            have R7 : Hid (RowWp w.heap.size _ (.slice (some ⟨g, 0, none⟩) sq.length c) sq) := RR.out.below B6
            have J7 : Hid (J (pre ++ fdI (y1, y2, y3, y4) tt.bs tt.is j) _) := HJ.out _ _ _ Hj.out B6 B.size
            have B7 := B.trans (B6.mono B.size)
            clear hcs uz RR Hj
            gi_upto_region 8 with fail
            replace e0 := bat B6 e0
            replace e1 := bat B6 e1
            replace e2 := bat B6 e2
            replace e3 := bat B6 e3
            clear B6 g1 g2 g3 g4 g5
            generalize wi.alloc (.cells #[.int .i64 z1, .int .i64 z2, .int .i64 z3, .int .i64 z4, .int .i64 n0] 85) = W7 at *
            generalize wi.heap.size = p7 at *
            gi_wp2_with fail
            refine ⟨trivial, ?_⟩
            refine (callsIn_wide.2 (implOverlap _ _ _ _ _ _ _ _ _)).mono ?_
            rintro e w8 ⟨rfl, hb⟩
            replace q4 := bat hb q4
            have R8 : Hid (RowWp w.heap.size w8 (.slice (some ⟨g, 0, none⟩) sq.length c) sq) := R7.out.below hb
            have J8 : Hid (J (pre ++ fdI (y1, y2, y3, y4) tt.bs tt.is j) w8) := HJ.out _ _ _ J7.out hb B7.size
            have B8 := B7.trans (hb.mono B7.size)
            clear hb R7 J7 B7 q0 q1 q2 q3 e0 e1 e2 e3
            obtain ⟨ov, HOV⟩ : ∃ x, Hid (ovl z1 z2 z3 z4 y1 y2 y3 y4 = x) := ⟨_, rfl⟩
            rw [HOV.out] at HF ⊢
            cases ov
            · have J9 : Hid (J (pre ++ fdI (y1, y2, y3, y4) tt.bs tt.is (j + 1)) w8) := by show J _ _; rw [HF.out]; simpa using J8.out
              clear J8 HF hrm q4 HOV
              gi_wp2_with fail
              refine ⟨fun f e => (by cases e), ?_⟩
              gi_wp2
              go_roundw
              case rel =>
                repeat apply Exists.intro
                exact ⟨⟨j + 1, by omega, by go_num, J9, R8, B8⟩, rfl⟩
              case measure => simp [intOf]; omega
            · have hlen : (pre ++ fdI (y1, y2, y3, y4) tt.bs tt.is j).length < tot.length := by
                rw [HF.out] at hrm
                simp at hrm
                simp
                omega
              obtain ⟨fn, tmps, assign, body, hy1, hR⟩ := HY.out _ n0 w8 J8.out hlen
              unfold encI at hy1
              clear hrm hlen HOV J8
              gi_wp2_with fail
              refine hR.mono ?_
              rintro e w9 ⟨rfl, hj9, hr⟩
              have J9 : Hid (J (pre ++ fdI (y1, y2, y3, y4) tt.bs tt.is (j + 1)) w9) := by show J _ _; rw [HF.out, ← List.append_assoc]; exact hj9
              have R9 : Hid (RowWp w.heap.size w9 (.slice (some ⟨g, 0, none⟩) sq.length c) sq) := R8.out.heap fun q cs e => hr.row q cs e
              have B9 := B8.trans hr.bel
              clear hR hy1 hj9 hr R8 B8 HF q4
              gi_wp2
              go_roundw
              case rel =>
                repeat apply Exists.intro
                exact ⟨⟨j + 1, by omega, by go_num, J9, R9, B9⟩, rfl⟩
              case measure => simp [intOf]; omega
          · obtain rfl : j = tt.bs.length := by omega
            have c5 := HK6.out wi B
            have JN : Hid (J (pre ++ fdI (y1, y2, y3, y4) tt.bs tt.is tt.is.length) wi) := by rw [← HLI.out]; exact Hj
            have RRo := RR.out
            clear Hj
            have hsl : sq.length ≤ 1048577 := by have := HO2.out.len; simp at this; omega
            have HKL : Hid (qk.length = tt.ks.length) := HKA.out.1
            have hkz : qk.length ≤ 1048577 := by
              have hkl := HKL.out
              have h1 := HO2.out.sz
              have h2 := HO2.out.le
              have h3 := sz_ks tt
              rw [sz_app] at h1
              simp [ndSz.ndsSz] at h1
              omega
            by_cases hk0 : tt.ks.length = 0
            · obtain ⟨rfl, rfl⟩ := NIL hk0
              rw [hk0] at c5
              have RE : Hid (RowWp w.heap.size wi (.slice (some ⟨g, 0, none⟩) sq.length c) (sq ++ qk)) := by
                rw [List.eq_nil_of_length_eq_zero (HKL.out.trans hk0), List.append_nil]
                exact RR
              obtain ⟨k', hk', O3⟩ := HO2.out.next HKA.out RE.out JN.out B
              have HO3 : Hid (OvS w w.heap.size J (y1, y2, y3, y4) tot k' (pre ++ fdI (y1, y2, y3, y4) tt.bs tt.is tt.is.length) (.slice (some ⟨g, 0, none⟩) sq.length c) (sq ++ qk) (st ++ tt.ks) wi) := O3
              clear HO2 O3 RE JN RR
              gi_wp2_with (gi_at_builtin; refine wpListIn_append_own_none _ rfl (.tmp 52) (.tmp 56) 96 rfl w.heap.size 63 iX 1 Tryz.underlying96 hiX (.slice (some ⟨g, 0, none⟩) sq.length c) sq.length (sq.map ptV) rfl RRo rfl ?_)
              go_roundw
              case rel => exact ⟨k', _, _, _, HO3.out⟩
              case measure => rw [hkk.out]; exact leastN_lt ⟨_, _, _, HO3.out⟩ hk'
            · obtain ⟨gk, ok', ea, _⟩ := (HSQ.out.below B).cells (by intro e; have hkl := HKL.out; rw [e] at hkl; simp at hkl; omega)
              subst ea
              have NW := (HSQ.out.below B).news
              rw [← HKL.out] at c5
              have hz2 := B.size
              have JNo := JN.out
              gi_wp2_with (gi_at_builtin; refine wpListIn_append_own _ rfl (.tmp 52) (.tmp 56) 96 rfl w.heap.size 63 iX (.pointer none) 1 8 Tryz.underlying96 hiX hx0 hx1 hx2 rfl (by decide) (.slice (some ⟨g, 0, none⟩) sq.length c) sq.length (sq.map ptV) rfl RRo ⟨gk, ok', none⟩ qk.length c2 (qk.map ptV) rfl (by simp) NW (onesTp _) (by unfold maxLen; omega) (by omega) hz2 ?_; intro v7 w7 R8 G7 nil7; replace R8 := RowWp.snocs R8; clear nil7)
              have OW : OwnT w.heap.size 63 wi w7 := by
                refine ⟨(Below.refl _ wi).grown G7 hz2 (fun k e => (World.ownsRow.lt RRo _ e).1), fun k hk hno => G7.block k hk (fun e => ?_)⟩
                obtain ⟨cs, hcs⟩ := RowWp.ty RRo k e.symm
                exact hno cs hcs
              obtain ⟨k', hk', O3⟩ := HO2.out.next HKA.out R8 (HG.out _ _ _ JNo OW) (B.trans OW.bel)
              go_roundw
              case rel => exact ⟨k', _, _, _, O3⟩
              case measure => rw [hkk.out]; exact leastN_lt ⟨_, _, _, O3⟩ hk'
end Go.Proofs.YtdkhaghcnijilaaGreat
