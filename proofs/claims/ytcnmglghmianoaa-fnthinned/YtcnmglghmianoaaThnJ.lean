/- The program's Thin. -/
import Derived.Test.YtcnmglghmianoaaThnI
import Derived.Laws.EntriesVeiled
namespace Go.Proofs.Ytcnmglghmianoaa
open Go.RowKit

set_option maxHeartbeats 1000000 in
theorem cloneP (ad : Addr) (c : Nat) (ps : List (Int × Int)) (w : World) (h : SeesP w (some ad) c ps) (hl : ps.length ≤ 1048576) :
    Calls Try.prog 19 #[.slice (some ad) ps.length c] w fun e w' => ∃ v, e = .returned v ∧ RowPt w.heap.size w' v ps ∧ Below w.heap.size w w' := by
  obtain ⟨iP, hiP, hP0, hP1, hP2⟩ := info_parts infoPt
  have he := fun w n => Lib.run_eql_slice_nil (P := Try.prog) w 24 31 (some ad) n c 0 0 Try.underlying24
  have hm := h.max
  have hf := h.fits
  unfold maxLen at hm
  have RE := RowPt.empty w (base := w.heap.size) (Nat.le_refl _)
  have bn := below1 w (.cells #[] 31)
  have S := h.below bn
  have NW := S.newsA
  have HB : w.heap.size ≤ (w.alloc (.cells #[] 31)).heap.size := bn.size
  clear h
  go_enter Try.func19, Try.ntmps19
  go_wp2_with (at_builtin; refine wpList_append_own_at _ rfl (.tmp 5) (.tmp 6) 24 rfl w.heap.size 31 iP (.agg #[.int .i64 0, .int .i64 0]) 2 16 Try.underlying24 hiP hP0 hP1 hP2 rfl (by decide) (.slice (some ⟨w.heap.size, 0, none⟩) 0 0) 0 [] rfl RE ad ps.length _ (ptC ps) rfl (ptC_len _) NW (ptC_ones _) (by unfold maxLen; omega) (by omega) HB ?_; intro v7 w7 R7 G7 _ _; rw [Nat.zero_add, List.nil_append] at R7)
  go_ret
  exact ⟨_, rfl, R7, (Below.refl w.heap.size w).trans (bn.trans ((Below.refl w.heap.size _).grown G7 HB (fun k hk => by injection hk with hk; exact Nat.le_of_eq hk)))⟩

theorem sq_bound {sq : Int} (h : sq ≤ 9223372036854775807) : sq < 4294967296 ^ 4 ∧ (1 : Int) < 4294967296 ^ 4 := by
  have e : (4294967296 : Int) ^ 4 = 340282366920938463463374607431768211456 := by decide
  rw [e]
  omega
theorem RowPt.one (w : World) (X Y : Int) : RowPt w.heap.size (w.alloc (.cells #[.int .i64 X, .int .i64 Y] 31)) (.slice (some ⟨w.heap.size, 0, none⟩) 1 1) [(X, Y)] :=
  ⟨rfl, .inr ⟨w.heap.size, 1, #[.int .i64 X, .int .i64 Y], rfl, Nat.le_refl _, heap_alloc_new _ _, Nat.le_refl _, by simp [maxLen], rfl, rfl⟩⟩
theorem ThS.make (W : World) (z pr pl bb off c : Nat) (ps : List (Int × Int)) (sq X Y : Int) (a1 : Option Addr) (c1 : Nat) (qs : List Int) (a2 : Option Addr) (c2 : Nat) (rs : List Int) (k0 : W.cell? ⟨pr, 0, none⟩ = some (.slice (some ⟨bb, off, none⟩) ps.length c)) (S : SeesP W (some ⟨bb, off, none⟩) c ps)
    (V : Box4 0 W pl (.bool false) (.slice a1 qs.length c1) (.bool false) (.slice a2 rs.length c2)) (F : ∀ p, W.heap.size ≤ p → Fr W p a1 c1 qs a2 c2 rs sq 1) (o1 : z ≤ pr) (hbb : bb < W.heap.size) :
    ThS z pr pl (W.heap.size + 1 + 1) (W.heap.size + 1) W.heap.size (some ⟨bb, off, none⟩) c ps sq (((W.alloc (.cells #[.int .i64 X, .int .i64 Y] 31)).alloc (.cells #[.slice (some ⟨W.heap.size, 0, none⟩) 1 1] 24)).alloc (.cells #[.func (.func 21) #[] #[.pointer (some ⟨pr, 0, none⟩), .pointer (some ⟨pl, 0, none⟩), .pointer (some ⟨W.heap.size + 1 + 1, 0, none⟩), .pointer (some ⟨W.heap.size + 1, 0, none⟩)]] 48))
      (.slice (some ⟨W.heap.size, 0, none⟩) 1 1) [(X, Y)] := by
  have hpr : pr < W.heap.size := World.block_lt_of_cell? W ⟨pr, 0, none⟩ k0
  have hpl := V.lt
  have R := RowPt.one W X Y
  generalize hA : W.alloc (.cells #[.int .i64 X, .int .i64 Y] 31) = WA at *
  have bA : Below W.heap.size W WA := by rw [← hA]; exact below1 _ _
  have zA : WA.heap.size = W.heap.size + 1 := by rw [← hA]; exact World.size_alloc ..
  have kB : (WA.alloc (.cells #[.slice (some ⟨W.heap.size, 0, none⟩) 1 1] 24)).cell? ⟨WA.heap.size, 0, none⟩ = some (.slice (some ⟨W.heap.size, 0, none⟩) 1 1) := cell_new WA _ _ 0 rfl
  have fB : ∀ o, (WA.alloc (.cells #[.slice (some ⟨W.heap.size, 0, none⟩) 1 1] 24)).frozen? ⟨WA.heap.size, o, none⟩ = false := fun o => frozen_new _ _ _ o
  generalize hB : WA.alloc (.cells #[.slice (some ⟨W.heap.size, 0, none⟩) 1 1] 24) = WB at *
  have bB : Below WA.heap.size WA WB := by rw [← hB]; exact below1 _ _
  have zB : WB.heap.size = W.heap.size + 1 + 1 := by rw [← hB, World.size_alloc, zA]
  rw [zA] at kB fB
  have kC := cell_new WB #[.func (.func 21) #[] #[.pointer (some ⟨pr, 0, none⟩), .pointer (some ⟨pl, 0, none⟩), .pointer (some ⟨W.heap.size + 1 + 1, 0, none⟩), .pointer (some ⟨W.heap.size + 1, 0, none⟩)]] 48 0 (v := .func (.func 21) #[] #[.pointer (some ⟨pr, 0, none⟩), .pointer (some ⟨pl, 0, none⟩), .pointer (some ⟨W.heap.size + 1 + 1, 0, none⟩), .pointer (some ⟨W.heap.size + 1, 0, none⟩)]) rfl
  have bC := below1 WB (.cells #[.func (.func 21) #[] #[.pointer (some ⟨pr, 0, none⟩), .pointer (some ⟨pl, 0, none⟩), .pointer (some ⟨W.heap.size + 1 + 1, 0, none⟩), .pointer (some ⟨W.heap.size + 1, 0, none⟩)]] 48)
  rw [zB] at kC
  have bT := (bA.trans (bB.mono (by omega))).trans (bC.mono (by omega))
  have sC := bC.size
  refine ⟨bat bT k0, S.below bT, ⟨a1, c1, qs, a2, c2, rs, V.below bT, (F _ (by omega)).below bT, fun b hb => ⟨(F b hb).r1, (F b hb).r2⟩⟩, kC, bat bC kB, fun o => (bC.frozen (p := ⟨W.heap.size + 1, o, none⟩) (by show W.heap.size + 1 < _; omega)).trans (fB o), (R.below bB).below bC, ⟨fun e => ?_, fun e => ?_⟩, ⟨o1, hpr, hpl, by omega, by omega, by omega⟩, fun b off' e _ => ?_⟩
  · simp only [Value.ownBlock, Option.some.injEq] at e; omega
  · simp only [Value.ownBlock, Option.some.injEq] at e; omega
  · injection e with e
    injection e with e
    omega
/-- Whether a row is to be thinned; what is left of it. -/
def thOk (ps : List (Int × Int)) (sq : Int) : Bool := decide (2 ≤ ps.length) && decide (ps.length ≤ 500) && decide (0 ≤ sq) && okL ps
def thV (ps : List (Int × Int)) (sq : Int) : List (Int × Int) := if thOk ps sq then thn sq 500 ps else ps
theorem CrdL.of {ps : List (Int × Int)} (h : okL ps = true) : CrdL ps := fun i => by
  by_cases hi : i < ps.length
  · exact okL_at h hi
  · unfold ptA
    rw [List.getElem?_eq_none (by omega)]
    exact ⟨⟨by decide, by decide⟩, ⟨by decide, by decide⟩⟩
theorem thV_mid {ps : List (Int × Int)} {sq : Int} (h : thOk ps sq = true) : thV ps sq = (ptA ps 0 :: mid ps sq 500 0 (ps.length - 1)) ++ [ptA ps (ps.length - 1)] := by
  have h' := h
  unfold thOk at h'
  simp only [Bool.and_eq_true, decide_eq_true_eq] at h'
  obtain ⟨⟨⟨h1, h2⟩, h3⟩, _⟩ := h'
  unfold thV
  rw [h, if_pos rfl]
  have := thn_mid ps h3 500 0 (ps.length - 1) (by omega) (by omega) (by omega)
  have e : sub ps 0 (ps.length - 1) = ps := by
    unfold sub
    rw [List.drop_zero, List.take_of_length_le (by omega)]
  rw [e] at this
  rw [this]
  rfl

set_option maxRecDepth 20000 in
set_option maxHeartbeats 2000000 in
theorem implThin (ad : Addr) (c : Nat) (ps : List (Int × Int)) (sq : Int) (w : World) (h : SeesP w (some ad) c ps) (hl : ps.length ≤ 1048576) (hq : sq ≤ 9223372036854775807) :
    Calls Try.prog 6 #[.slice (some ad) ps.length c, .int .i64 sq] w fun e w' => ∃ v, e = .returned v ∧ RowPt w.heap.size w' v (thV ps sq) ∧ Below w.heap.size w w' := by
  have hm := h.max
  have hf := h.fits
  unfold maxLen at hm
  have B := below1 w (.cells #[.slice (some ad) ps.length c] 24)
  have k0 : (w.alloc (.cells #[.slice (some ad) ps.length c] 24)).cell? ⟨w.heap.size, 0, none⟩ = some (.slice (some ad) ps.length c) := cell_new w _ _ 0 rfl
  have zz : (w.alloc (.cells #[.slice (some ad) ps.length c] 24)).heap.size = w.heap.size + 1 := World.size_alloc ..
  have S := h.below B
  have HH : Hid (SeesP w (some ad) c ps) := h
  obtain ⟨g, hg⟩ : ∃ g, Hid (okL ps = g) := ⟨_, rfl⟩
  obtain ⟨ts, ht⟩ : ∃ t, Hid (thV ps sq = t) := ⟨_, rfl⟩
  have HN : Hid (thOk ps sq = false → ps = ts) := fun e => by rw [← ht.out]; unfold thV; rw [e]; rfl
  rw [ht.out]
  clear h
  by_cases h1 : ps.length < 2
  · have OV : Hid (ps = ts) := HN.out (by unfold thOk; rw [decide_eq_false (by omega)]; rfl)
    go_enter Try.func6, Try.ntmps6
    go_wp2_with fail
    generalize w.alloc (.cells #[.slice (some ad) ps.length c] 24) = W0 at *
    refine (cloneP ad c ps _ S hl).mono ?_
    rintro e w2 ⟨v, rfl, R2, hb⟩
    have BF := B.trans (hb.mono B.size)
    have RF : Hid (RowPt w.heap.size w2 v ts) := by rw [← OV.out]; exact row_base R2 (by omega)
    clear hb R2
    go_wp2
    go_ret
    exact ⟨_, rfl, RF.out, BF⟩
  · by_cases h2 : 500 < ps.length
    · have OV : Hid (ps = ts) := HN.out (by unfold thOk; rw [decide_eq_false (show ¬ ps.length ≤ 500 by omega)]; simp)
      go_enter Try.func6, Try.ntmps6
      go_wp2_with fail
      generalize w.alloc (.cells #[.slice (some ad) ps.length c] 24) = W0 at *
      refine (cloneP ad c ps _ S hl).mono ?_
      rintro e w2 ⟨v, rfl, R2, hb⟩
      have BF := B.trans (hb.mono B.size)
      have RF : Hid (RowPt w.heap.size w2 v ts) := by rw [← OV.out]; exact row_base R2 (by omega)
      clear hb R2
      go_wp2
      go_ret
      exact ⟨_, rfl, RF.out, BF⟩
    · by_cases h3 : sq < 0
      · have OV : Hid (ps = ts) := HN.out (by unfold thOk; rw [decide_eq_false (show ¬ 0 ≤ sq by omega)]; simp)
        go_enter Try.func6, Try.ntmps6
        go_wp2_with fail
        generalize w.alloc (.cells #[.slice (some ad) ps.length c] 24) = W0 at *
        refine (cloneP ad c ps _ S hl).mono ?_
        rintro e w2 ⟨v, rfl, R2, hb⟩
        have BF := B.trans (hb.mono B.size)
        have RF : Hid (RowPt w.heap.size w2 v ts) := by rw [← OV.out]; exact row_base R2 (by omega)
        clear hb R2
        go_wp2
        go_ret
        exact ⟨_, rfl, RF.out, BF⟩
      · go_enter Try.func6, Try.ntmps6
        go_wp2_with fail
        generalize w.alloc (.cells #[.slice (some ad) ps.length c] 24) = W0 at *
        refine (containsWrong (some ad) c ps _ S).mono ?_
        rintro e w1 ⟨rfl, hb⟩
        rw [hg.out]
        replace B := B.trans (hb.mono B.size)
        replace S := S.below hb
        replace k0 := bat hb k0
        have zz1 := hb.size
        clear hb
        cases g
        · have OV : Hid (ps = ts) := HN.out (by unfold thOk; rw [hg.out, Bool.and_false])
          go_wp2_with fail
          refine (cloneP ad c ps _ S hl).mono ?_
          rintro e w2 ⟨v, rfl, R2, hb⟩
          have BF := B.trans (hb.mono B.size)
          have RF : Hid (RowPt w.heap.size w2 v ts) := by rw [← OV.out]; exact row_base R2 (by omega)
          clear hb R2
          go_wp2
          go_ret
          exact ⟨_, rfl, RF.out, BF⟩
        · have TK : Hid (thOk ps sq = true) := by show _ = _; unfold thOk; rw [hg.out, decide_eq_true (show 2 ≤ ps.length by omega), decide_eq_true (show ps.length ≤ 500 by omega), decide_eq_true (show 0 ≤ sq by omega)]; rfl
          have OV : Hid ((ptA ps 0 :: mid ps sq 500 0 (ps.length - 1)) ++ [ptA ps (ps.length - 1)] = ts) := by show _ = _; rw [← thV_mid TK.out]; exact ht.out
          have CL : Hid (CrdL ps) := CrdL.of hg.out
          obtain ⟨n1, hn0⟩ : ∃ n : Nat, Hid (ps.length = n + 1) := ⟨ps.length - 1, by show _ = _; omega⟩
          have hn1 : ((ps.length : Int) - 1) = (n1 : Int) := by have := hn0.out; omega
          clear HN
          go_wp2_with fail
          go_region
          replace B := B.drew
          replace S := S.below (Below.refl _ _).drew
          replace k0 := bat (Below.refl _ _).drew k0
          have zz2 : w.heap.size + 1 ≤ w1.drew.heap.size := by show _ ≤ w1.heap.size; omega
          go_wp2_with fail
          generalize w1.drew = W1 at *
          refine (implWhole sq _ (by omega) hq).mono ?_
          rintro e w2 ⟨v, rfl, hI, hb⟩
          obtain ⟨a1, c1, qs, a2, c2, rs, e1, F1⟩ := hI.fr' ⟨by omega, by decide⟩ (sq_bound hq)
          subst e1
          have bn := below1 w2 (.cells #[.bool false, .slice a1 qs.length c1, .bool false, .slice a2 rs.length c2] 37)
          have V7 := Box4.new w2 (lo := 0) (Nat.zero_le _) (.bool false) (.slice a1 qs.length c1) (.bool false) (.slice a2 rs.length c2) 37
          have F2 : Hid (∀ p, w2.heap.size ≤ p → Fr (w2.alloc (.cells #[.bool false, .slice a1 qs.length c1, .bool false, .slice a2 rs.length c2] 37)) p a1 c1 qs a2 c2 rs sq 1) := fun p hp => (F1 p (.inr hp)).below bn
          have z3 : (w2.alloc (.cells #[.bool false, .slice a1 qs.length c1, .bool false, .slice a2 rs.length c2] 37)).heap.size = w2.heap.size + 1 := World.size_alloc ..
          have z2 : w.heap.size + 1 ≤ w2.heap.size := by have := hb.size; omega
          replace hb := hb.trans (bn.mono hb.size)
          replace B := B.trans (hb.mono B.size)
          replace S := S.below hb
          replace k0 := bat hb k0
          obtain ⟨bb, off, ea, hcs⟩ := S.cells (by intro e; simp [e] at h1)
          injection ea with ea
          subst ea
          obtain ⟨x0, y0⟩ := hcs 0 (by omega)
          have lbb : bb < w.heap.size := by
            obtain ⟨b', off', e', hc'⟩ := HH.out.cells (by intro e; simp [e] at h1)
            injection e' with e'
            injection e' with e1 e2
            have := World.block_lt_of_cell? w ⟨b', off' + 0 * 2, none⟩ (hc' 0 (by omega)).1
            subst e1
            exact this
          obtain ⟨X0, hX0⟩ : ∃ X : Int, Hid ((ptA ps 0).1 = X) := ⟨_, rfl⟩
          obtain ⟨Y0, hY0⟩ : ∃ X : Int, Hid ((ptA ps 0).2 = X) := ⟨_, rfl⟩
          have P0 : Hid (ptA ps 0 = (X0, Y0)) := Prod.ext hX0.out hY0.out
          have e0 : ps[0]?.getD (0, 0) = ptA ps 0 := rfl
          rw [e0, hX0.out] at x0
          rw [e0, hY0.out] at y0
          simp only [Nat.zero_mul, Nat.add_zero] at x0 y0
          clear e0
          have lp0 : 0 < ps.length := by omega
          have hmf : ∀ (fn : Fn) (first cap : Array Value) (w : World), (Instr.makeFunc fn first cap).run Try.prog w = .ok (.func fn first cap) w := fun _ _ _ _ => rfl
          clear hb bn F1 hI hcs
          go_wp2_with fail
          have HS := ThS.make (w2.alloc (.cells #[.bool false, .slice a1 qs.length c1, .bool false, .slice a2 rs.length c2] 37)) w.heap.size w.heap.size w2.heap.size bb off c ps sq X0 Y0 a1 c1 qs a2 c2 rs k0 S V7 (fun p hp => F2.out p (by omega)) (Nat.le_refl _) (by omega)
          have B4 := B.trans ((below3 (w2.alloc (.cells #[.bool false, .slice a1 qs.length c1, .bool false, .slice a2 rs.length c2] 37)) (.cells #[.int .i64 X0, .int .i64 Y0] 31) (.cells #[.slice (some ⟨w2.heap.size + 1, 0, none⟩) 1 1] 24) (.cells #[.func (.func 21) #[] #[.pointer (some ⟨w.heap.size, 0, none⟩), .pointer (some ⟨w2.heap.size, 0, none⟩), .pointer (some ⟨w2.heap.size + 1 + 1 + 1, 0, none⟩), .pointer (some ⟨w2.heap.size + 1 + 1, 0, none⟩)]] 48)).mono B.size)
          rw [z3] at HS
          have hn2 : 0 < n1 := by have := hn0.out; omega
          have hn3 : n1 < ps.length := by have := hn0.out; omega
          have hn4 : n1 ≤ 500 := by omega
          have ML := mid_len ps h3 500 0 n1 hn2
          clear B S k0 V7 F2 x0 y0 hmf
          refine (thin1_any CL.out (by omega) (by omega) 500 0 n1 _ _ [(X0, Y0)] HS hn2 hn3 (by omega) (by simp; omega)).mono ?_
          rintro e w5 ⟨rfl, v5, S5, B5⟩
          replace B4 := B4.trans B5
          have kl : ([(X0, Y0)] ++ mid ps sq 500 0 n1).length ≤ 501 := by rw [List.length_append, List.length_singleton]; omega
          have OW : Hid ([(X0, Y0)] ++ mid ps sq 500 0 n1 ++ [ptA ps n1] = ts) := by
            show _ = _
            rw [← OV.out, P0.out, show ps.length - 1 = n1 by have := hn0.out; omega]
            rfl
          generalize [(X0, Y0)] ++ mid ps sq 500 0 n1 = kk at *
          have HS5 : Hid (ThS w.heap.size w.heap.size w2.heap.size (w2.heap.size + 1 + 1 + 1) (w2.heap.size + 1 + 1) (w2.heap.size + 1) (some ⟨bb, off, none⟩) c ps sq w5 v5 kk) := S5
          clear S5 B5 HS ML
          have R5 : RowPt (w2.heap.size + 1) w5 v5 kk := HS5.out.own
          obtain ⟨va, vc, e5, vf, vm⟩ := R5.shape
          subst e5
          obtain ⟨_, _, ea, hcs⟩ := HS5.out.sees.cells (by intro e; simp [e] at h1)
          simp only [Option.some.injEq, Addr.mk.injEq] at ea
          obtain ⟨rfl, rfl, _⟩ := ea
          obtain ⟨x1, y1⟩ := hcs n1 hn3
          obtain ⟨X, hX⟩ : ∃ X : Int, Hid ((ptA ps n1).1 = X) := ⟨_, rfl⟩
          obtain ⟨Y, hY⟩ : ∃ X : Int, Hid ((ptA ps n1).2 = X) := ⟨_, rfl⟩
          have PX : Hid (ptA ps n1 = (X, Y)) := Prod.ext hX.out hY.out
          have e0 : ps[n1]?.getD (0, 0) = ptA ps n1 := rfl
          rw [e0, hX.out] at x1
          rw [e0, hY.out] at y1
          rw [PX.out] at OW
          have k1 := HS5.out.kc
          have k2 := HS5.out.row
          obtain ⟨iP, hiP, hP0, hP1, hP2⟩ := info_parts infoPt
          clear hcs e0 R5
          go_wp2_with fail
          have bd := ((Below.refl w5.heap.size w5).drew : Below w5.heap.size w5 _)
          have N : w5.drew.cell? ⟨w2.heap.size + 1 + 1, 0, none⟩ = some (.slice va kk.length vc) ∧ w5.drew.cell? ⟨w.heap.size, 0, none⟩ = some (.slice (some ⟨bb, off, none⟩) ps.length c) ∧ w5.drew.cell? ⟨bb, off + n1 * 2, none⟩ = some (.int .i64 X) ∧ w5.drew.cell? ⟨bb, off + n1 * 2 + 1, none⟩ = some (.int .i64 Y) := ⟨k1, k2, x1, y1⟩
          have HT : Hid (ThS w.heap.size w.heap.size w2.heap.size (w2.heap.size + 1 + 1 + 1) (w2.heap.size + 1 + 1) (w2.heap.size + 1) (some ⟨bb, off, none⟩) c ps sq w5.drew (.slice va kk.length vc) kk) := HS5.out.below bd
          have BT : Hid (Below w.heap.size w w5.drew) := B4.drew
          clear bd k1 k2 x1 y1 HS5 B4
          refine wp_region_held_drew (S := fun W => W.cell? ⟨w2.heap.size + 1 + 1, 0, none⟩ = some (.slice va kk.length vc) ∧ W.cell? ⟨w.heap.size, 0, none⟩ = some (.slice (some ⟨bb, off, none⟩) ps.length c) ∧ W.cell? ⟨bb, off + n1 * 2, none⟩ = some (.int .i64 X) ∧ W.cell? ⟨bb, off + n1 * 2 + 1, none⟩ = some (.int .i64 Y)) (by kernel_rfl) N (fun hHeld => ?_)
          clear hHeld
          revert N HT BT
          generalize w5.drew = ww0
          intro N HT BT
          refine takeW (i := 0) (by simp only [List.getElem?_toArray, List.getElem?_cons_zero]; exact rfl) (by kernel_rfl) (by kernel_rfl) (by kernel_rfl) (by exact fun _ _ _ h => h) (by rfl) (by intro wq hSw; obtain ⟨p1, p2, p3, p4⟩ := hSw; go_simp <;> with_reducible rfl) (by assumption) ?_
          try simp only [Act.put, List.setIfInBounds_toArray, List.set_cons_zero, List.set_cons_succ]
          refine takeW (i := 1) (by simp only [List.getElem?_toArray, List.getElem?_cons_succ, List.getElem?_cons_zero]; exact rfl) (by kernel_rfl) (by kernel_rfl) (by kernel_rfl) (by exact fun _ _ _ h => h) (by rfl) (by intro wq hSw; obtain ⟨p1, p2, p3, p4⟩ := hSw; go_simp <;> with_reducible rfl) (by assumption) ?_
          try simp only [Act.put, List.setIfInBounds_toArray, List.set_cons_zero, List.set_cons_succ]
          refine takeW (i := 2) (by simp only [List.getElem?_toArray, List.getElem?_cons_succ, List.getElem?_cons_zero]; exact rfl) (by kernel_rfl) (by kernel_rfl) (by kernel_rfl) (by exact fun _ _ _ h => h) (by rfl) (by intro wq hSw; go_simp <;> with_reducible rfl) (by assumption) ?_
          try simp only [Act.put, List.setIfInBounds_toArray, List.set_cons_zero, List.set_cons_succ]
          refine takeW (i := 3) (by simp only [List.getElem?_toArray, List.getElem?_cons_succ, List.getElem?_cons_zero]; exact rfl) (by kernel_rfl) (by kernel_rfl) (by kernel_rfl) (by exact fun _ _ _ h => h) (by rfl) (by intro wq hSw; go_simp <;> with_reducible rfl) (by assumption) ?_
          try simp only [Act.put, List.setIfInBounds_toArray, List.set_cons_zero, List.set_cons_succ]
          refine takeW (i := 4) (by simp only [List.getElem?_toArray, List.getElem?_cons_succ, List.getElem?_cons_zero]; exact rfl) (by kernel_rfl) (by kernel_rfl) (by kernel_rfl) (by exact fun _ _ _ h => h) (by rfl) (by intro wq hSw; obtain ⟨p1, p2, p3, p4⟩ := hSw; go_simp <;> with_reducible rfl) (by assumption) ?_
          try simp only [Act.put, List.setIfInBounds_toArray, List.set_cons_zero, List.set_cons_succ]
          refine wpAnyH_ready (rs := [5]) (by kernel_rfl) (by simp) (AllReadyH.cons (by simp only [List.getElem?_toArray, List.getElem?_cons_succ, List.getElem?_cons_zero]; exact rfl) (fun K hK => ?_) AllReadyH.nil)
          go_simp
          have bn := below1 ww0 (.cells #[.int .i64 X, .int .i64 Y] 31)
          have NW := pt_new ww0 31 X Y
          have N1 : _ ∧ _ ∧ _ ∧ _ := ⟨bat bn N.1, bat bn N.2.1, bat bn N.2.2.1, bat bn N.2.2.2⟩
          have HT1 : Hid (ThS w.heap.size w.heap.size w2.heap.size (w2.heap.size + 1 + 1 + 1) (w2.heap.size + 1 + 1) (w2.heap.size + 1) (some ⟨bb, off, none⟩) c ps sq (ww0.alloc (.cells #[.int .i64 X, .int .i64 Y] 31)) (.slice va kk.length vc) kk) := HT.out.below bn
          have BT1 : Hid (Below w.heap.size w (ww0.alloc (.cells #[.int .i64 X, .int .i64 Y] 31))) := BT.out.trans (bn.mono BT.out.size)
          clear N HT BT bn
          refine hK.out _ _ N1 (fun hHeld => ?_)
          clear hK K hHeld
          try simp only [Act.put, List.setIfInBounds_toArray, List.set_cons_zero, List.set_cons_succ]
          generalize ww0.alloc (.cells #[.int .i64 X, .int .i64 Y] 31) = ww1 at *
          generalize ww0.heap.size = z9 at *
          refine wpAnyH_ready (rs := [6]) (by kernel_rfl) (by simp) (AllReadyH.cons (by simp only [List.getElem?_toArray, List.getElem?_cons_succ, List.getElem?_cons_zero]; exact rfl) (fun K hK => ?_) AllReadyH.nil)
          have hlo : w2.heap.size + 1 ≤ ww1.heap.size := by have : w2.heap.size + 1 + 1 < ww1.heap.size := World.block_lt_of_cell? ww1 ⟨w2.heap.size + 1 + 1, 0, none⟩ HT1.out.kc; omega
          refine wp_append_at (.tmp 43) (.tmp 48) 24 rfl (w2.heap.size + 1) 31 iP (.agg #[.int .i64 0, .int .i64 0]) 2 16 Try.underlying24 hiP hP0 hP1 hP2 rfl (by decide) (.slice va kk.length vc) kk.length (ptC kk) rfl HT1.out.own ⟨z9, 0, none⟩ 1 _ (ptC [(X, Y)]) rfl rfl NW (ptC_ones _) (by unfold maxLen; omega) (by omega) hlo ?_
          intro v7 w7 R7 G7 A7
          replace R7 := RowPt.snoc R7
          rw [OW.out] at R7
          obtain ⟨pk1, pk2, pk3⟩ := HT1.out.pkAt G7
          have N7 : _ ∧ _ ∧ _ ∧ _ := ⟨pk1, pk3 w.heap.size 0 _ (by omega) N1.2.1, pk3 bb _ _ (by omega) N1.2.2.1, pk3 bb _ _ (by omega) N1.2.2.2⟩
          have RF : Hid (RowPt w.heap.size w7 v7 ts) := row_base R7 (by omega)
          have BF : Hid (Below w.heap.size w w7) := BT1.out.grown G7 BT1.out.size (fun k hk => by have := (World.ownsRow.lt HT1.out.own k hk).1; omega)
          clear R7 G7 A7 pk1 pk2 pk3 N1 HT1 BT1 NW
          refine hK.out _ _ N7 (fun hHeld => ?_)
          clear hK K hHeld
          try simp only [Act.put, List.setIfInBounds_toArray, List.set_cons_zero, List.set_cons_succ]
          refine takeW (i := 7) (by simp only [List.getElem?_toArray, List.getElem?_cons_succ, List.getElem?_cons_zero]; exact rfl) (by kernel_rfl) (by kernel_rfl) (by kernel_rfl) (by exact fun _ _ _ h => h) (by rfl) (by intro wq hSw; go_simp <;> with_reducible rfl) (by assumption) ?_
          try simp only [Act.put, List.setIfInBounds_toArray, List.set_cons_zero, List.set_cons_succ]
          refine wpAnyH_done (by kernel_rfl) ?_ _
          go_wp2
          go_ret
          exact ⟨_, rfl, RF.out, BF.out⟩
end Go.Proofs.Ytcnmglghmianoaa
