/- treeOf, of the program. -/
import Derived.Test.YtdkhaghcnijilaaGreatTsA
import Derived.RangeFuncBound
import Derived.Shelf.Abstract
import Derived.Shelf.RegionOpen
import Derived.WalkKit
import Derived.OwnWalkIn
import Derived.TacticsInMore
import Derived.LoopNIn
import Derived.LoopIn
namespace Go.Proofs.YtdkhaghcnijilaaGreat
open Go.RowKit Go.Shelf
attribute [local go_sem] Oper.semAt_some

/-- The levels of a tree, or none. -/
theorem lv_cases {w0 : World} {base : Nat} {W : World} {T : Nat} {t : Nd} {v v1 v2 v3 : Value} (h : LvOut w0 base W T t v) (S : Sev W T 0 t.b v1 v2 v3) (N : NdUp w0 0 t v1 v2 v3) (B0 : Below w0.heap.size w0 W) :
    ∃ vs qss, LvR base W v vs qss ∧ (qss.length = 0 → lvBad t) ∧ (∀ m, qss.length = m + 1 → lvGood t m) ∧ ∀ x, x < qss.length → ∃ los, LvAt w0 W (rowTp qss x) (lvl t x) los := by
  rcases h with ⟨rfl, hb⟩ | ⟨m, vs, qss, LR, QL, G, R0, PT⟩
  · exact ⟨[], [], LvR.nil _ _, fun _ => hb, fun m e => by simp at e, fun x hx => absurd hx (by simp)⟩
  · refine ⟨vs, qss, LR, fun e => by omega, fun m' e => ?_, fun x hx => ?_⟩
    · have e2 : m' = m := by omega
      rw [e2]
      exact G
    rcases Nat.eq_zero_or_pos x with e | e
    · subst e
      refine ⟨fun _ => 0, by rw [R0]; rfl, fun i hi => ?_⟩
      obtain rfl : i = 0 := by simpa [lvl] using hi
      rw [R0]
      exact ⟨v1, v2, v3, S, N⟩
    · exact ⟨_, (PT x e (by omega)).lv B0⟩
theorem lvB_kids {L : Nat} {t : Nd} (hg : ∀ m, L = m + 1 → lvGood t m) {x : Nat} (hx : x < L) : lvB L t (x + 1) = kdN (lvl t x) (lvl t x).length := by
  unfold lvB
  split
  · rfl
  · obtain ⟨m, rfl⟩ : ∃ m, L = m + 1 := ⟨L - 1, by omega⟩
    obtain rfl : x = m := by omega
    exact (lfN_all _ _ (hg x rfl).2).symm

theorem results_ptr_bool {fn : Func} (h : fn.results = #[.cell 2 63, .cell 3 4]) (tmps : Array Value) (w : World) (p2 p3 : Nat) (a : Option Addr) (b : Bool) (h2 : tmps.getD 2 undef = .pointer (some ⟨p2, 0, none⟩)) (h3 : tmps.getD 3 undef = .pointer (some ⟨p3, 0, none⟩)) (c2 : w.cell? ⟨p2, 0, none⟩ = some (.pointer a)) (c3 : w.cell? ⟨p3, 0, none⟩ = some (.bool b)) :
    (results fn tmps).run Tryz.prog w = .ok (.tuple #[.pointer a, .bool b]) w := by
  have h2' : tmps[2]?.getD undef = .pointer (some ⟨p2, 0, none⟩) := by simpa using h2
  have h3' : tmps[3]?.getD undef = .pointer (some ⟨p3, 0, none⟩) := by simpa using h3
  simp [results, h, h2', h3', asAddr, loadVar, go_sem, c2, c3]
theorem sliceTo (a : Option Addr) (n c k : Nat) (hk : k ≤ c) (w : World) : (Instr.sliceAt 96 (.slice a n c) none (some (.int .i64 (k : Int))) none).run Tryz.prog w = .ok (.slice a k c) w := by
  obtain ⟨i, hi, h0, h1, h2⟩ := info_parts infoWp
  have f1 : (0 : Int) ≤ (k : Int) := by omega
  have f2 : (k : Int) ≤ (c : Int) := by omega
  by_cases e : c = 0
  · subst e
    obtain rfl : k = 0 := by omega
    go_simp
  · cases a with
    | none => go_simp
    | some a => go_simp

theorem sliceFrom (a : Option Addr) (n c k : Nat) (hk : k ≤ n) (w : World) : (Instr.sliceAt 96 (.slice a n c) (some (.int .i64 (k : Int))) none none).run Tryz.prog w = .ok (.slice (if c = k then a else a.map (fun x => x.add k)) (n - k) (c - k)) w := by
  obtain ⟨i, hi, h0, h1, h2⟩ := info_parts infoWp
  have f1 : (0 : Int) ≤ (k : Int) := by omega
  have f2 : (k : Int) ≤ (n : Int) := by omega
  go_simp

set_option maxRecDepth 100000 in
set_option maxHeartbeats 8000000 in
theorem treeOf_any (t : Nd) (v1 v2 v3 : Value) (w : World) (N : NdUp w 0 t v1 v2 v3) (hs : ndSz t ≤ 1048576) :
    Calls Tryz.prog 36 #[ndV t v1 v2 v3] w fun e w' => ∃ a : Option Addr, e = .returned (.tuple #[.pointer a, .bool (okT t)]) ∧ (okT t = true → ∃ q, a = some ⟨q, 0, none⟩ ∧ WkAt w' q t) ∧ Below w.heap.size w w' := by
  obtain ⟨a1, c1, a2, c2, a3, c3, rfl, rfl, rfl, _⟩ := N.open
  unfold ndV
  obtain ⟨⟨x1, x2, x3, x4⟩, ux⟩ : ∃ x, Hid (t.b = x) := ⟨_, rfl⟩
  have HN : Hid (NdUp w 0 t (.slice a1 t.bs.length c1) (.slice a2 t.is.length c2) (.slice a3 t.ks.length c3)) := N
  have HS : Hid (ndSz t ≤ 1048576) := hs
  have L1 := fun (W : World) (S : Sev W w.heap.size 0 t.b (.slice a1 t.bs.length c1) (.slice a2 t.is.length c2) (.slice a3 t.ks.length c3)) (hP : Plain W w.heap.size) (B0 : Below w.heap.size w W) => levelsOf_any w.heap.size t _ _ _ W S N (Nat.le_refl _) hP B0 hs
  have L2 := fun (W : World) (v : Value) (base : Nat) (h : LvOut w base W w.heap.size t v) (S : Sev W w.heap.size 0 t.b (.slice a1 t.bs.length c1) (.slice a2 t.is.length c2) (.slice a3 t.ks.length c3)) (B0 : Below w.heap.size w W) => lv_cases h S N B0
  clear N hs
  rw [ux.out] at L1 L2 ⊢
  dsimp only
  generalize t.bs.length = m1 at *
  generalize t.is.length = m2 at *
  generalize t.ks.length = m3 at *
  have V := Sev.new w x1 x2 x3 x4 (.slice a1 m1 c1) (.slice a2 m2 c2) (.slice a3 m3 c3) 39
  have VP := Plain.new w #[.int .i64 x1, .int .i64 x2, .int .i64 x3, .int .i64 x4, .slice a1 m1 c1, .slice a2 m2 c2, .slice a3 m3 c3] 39
  have B := below1 w (.cells #[.int .i64 x1, .int .i64 x2, .int .i64 x3, .int .i64 x4, .slice a1 m1 c1, .slice a2 m2 c2, .slice a3 m3 c3] 39)
  refine (callsIn_wide (n := 6)).1 ?_
  refine callsIn_of_wp_marks Tryz.func36 rfl trivial ?_ rfl
  simp only [Tryz.ntmps36, List.size_toArray, List.length_cons, List.length_nil, Nat.reduceAdd, Nat.reduceSub, Array.replicate_succ, Array.replicate_zero, List.push_toArray, List.append_toArray, List.nil_append, List.cons_append]
  gi_wp2_with fail
  refine ⟨trivial, ?_⟩
  obtain ⟨WA, hWA⟩ : ∃ WA, w.alloc (.cells #[.int .i64 x1, .int .i64 x2, .int .i64 x3, .int .i64 x4, .slice a1 m1 c1, .slice a2 m2 c2, .slice a3 m3 c3] 39) = WA := ⟨_, rfl⟩
  rw [hWA] at V VP B ⊢
  have b2 := below1 WA (.cells #[.pointer none] 63)
  have b3 := below1 (WA.alloc (.cells #[.pointer none] 63)) (.cells #[.bool false] 4)
  have r2 := cell_new WA #[.pointer none] 63 0 rfl
  have rf2 := frozen_new WA #[.pointer none] 63 0
  have r3 := cell_new (WA.alloc (.cells #[.pointer none] 63)) #[.bool false] 4 0 rfl
  have rf3 := frozen_new (WA.alloc (.cells #[.pointer none] 63)) #[.bool false] 4 0
  have zA : WA.heap.size = w.heap.size + 1 := by rw [← hWA, World.size_alloc]
  have r2lt : WA.heap.size < (WA.alloc (.cells #[.pointer none] 63)).heap.size := by rw [World.size_alloc]; omega
  replace r2 := bat b3 r2
  replace rf2 := (World.frozen?_of_block (a := ⟨WA.heap.size, 0, none⟩) (b3.block _ r2lt)).trans rf2
  replace V := (V.below b2).below b3
  replace VP := (VP.below b2).below b3
  replace B := B.trans ((b2.trans (b3.mono b2.size)).mono B.size)
  rw [World.size_alloc] at r3 rf3
  rw [zA] at r2 r3 rf2 rf3
  have z0 : ((WA.alloc (.cells #[.pointer none] 63)).alloc (.cells #[.bool false] 4)).heap.size = w.heap.size + 3 := by simp [zA]
  clear b2 b3 r2lt zA hWA
  generalize (WA.alloc (.cells #[.pointer none] 63)).alloc (.cells #[.bool false] 4) = W0 at *
  refine (callsIn_wide.2 (L1 W0 V VP B)).mono ?_
  rintro e w1 ⟨v, rfl, O, hb⟩
  replace V := V.below hb
  replace r2 : w1.cell? ⟨w.heap.size + 1, 0, none⟩ = some (.pointer none) := bat hb r2
  replace r3 : w1.cell? ⟨w.heap.size + 1 + 1, 0, none⟩ = some (.bool false) := bat hb r3
  replace rf2 := (World.frozen?_of_block (a := ⟨w.heap.size + 1, 0, none⟩) (hb.block _ (by show w.heap.size + 1 < W0.heap.size; omega))).trans rf2
  replace rf3 := (World.frozen?_of_block (a := ⟨w.heap.size + 1 + 1, 0, none⟩) (hb.block _ (by show w.heap.size + 1 + 1 < W0.heap.size; omega))).trans rf3
  replace B := B.trans (hb.mono B.size)
  have z1 : w.heap.size + 3 ≤ w1.heap.size := by have := hb.size; omega
  obtain ⟨vs, qss, LR, LB, LG, LA⟩ := L2 w1 v _ O V B
  obtain ⟨a4, c4, rfl, hf4, hm4⟩ := LR.shape
  unfold maxLen at hm4
  have HLR : Hid (LvR W0.heap.size w1 (.slice a4 qss.length c4) vs qss) := LR
  have HLB : Hid (qss.length = 0 → lvBad t) := LB
  have HLG : Hid (∀ m, qss.length = m + 1 → lvGood t m) := LG
  have HLA : Hid (∀ x, x < qss.length → ∃ los, LvAt w w1 (rowTp qss x) (lvl t x) los) := LA
  have HLL : Hid (qss.length ≤ 1048577) := by
    rcases Nat.eq_zero_or_pos qss.length with e | e
    · show _ ≤ _; omega
    · obtain ⟨m, hm⟩ : ∃ m, qss.length = m + 1 := ⟨qss.length - 1, by omega⟩
      obtain ⟨s1, s2⟩ := sz_lvl t m (LG m hm).1
      have := HS.out
      show qss.length ≤ 1048577
      omega
  clear L1 L2 LR LB LG LA V VP O hb HN
  have k1 := cell_new w1 #[.slice a4 qss.length c4] 91 0 rfl
  have q1 := below1 w1 (.cells #[.slice a4 qss.length c4] 91)
  have k2 := cell_new (w1.alloc (.cells #[.slice a4 qss.length c4] 91)) #[.slice none 0 0] 96 0 rfl
  have q2 := below1 (w1.alloc (.cells #[.slice a4 qss.length c4] 91)) (.cells #[.slice none 0 0] 96)
  have h2 := heap_alloc_new (w1.alloc (.cells #[.slice a4 qss.length c4] 91)) (.cells #[.slice none 0 0] 96)
  replace k1 := bat q2 k1
  have Q2 := q1.trans (q2.mono q1.size)
  gi_wp2_with fail
  refine ⟨trivial, ?_⟩
  refine (callsIn_wide.2 (backwardL_any a4 qss.length c4 _)).mono ?_
  rintro e w2 ⟨rfl, rfl⟩
  rw [World.size_alloc] at h2 k2
  have q3 := below1 ((w1.alloc (.cells #[.slice a4 qss.length c4] 91)).alloc (.cells #[.slice none 0 0] 96)) (.cells #[.slice a4 qss.length c4] 91)
  have k3 := cell_new ((w1.alloc (.cells #[.slice a4 qss.length c4] 91)).alloc (.cells #[.slice none 0 0] 96)) #[.slice a4 qss.length c4] 91 0 rfl
  have zB : ((w1.alloc (.cells #[.slice a4 qss.length c4] 91)).alloc (.cells #[.slice none 0 0] 96)).heap.size = w1.heap.size + 2 := by simp
  replace k1 := bat q3 k1
  replace h2 := (q3.block (w1.heap.size + 1) (by rw [zB]; omega)).trans h2
  have Q3 := Q2.trans (q3.mono Q2.size)
  have zL : (((w1.alloc (.cells #[.slice a4 qss.length c4] 91)).alloc (.cells #[.slice none 0 0] 96)).alloc (.cells #[.slice a4 qss.length c4] 91)).heap.size = w1.heap.size + 3 := by simp
  rw [zB] at k3 ⊢
  clear k2 q1 q2 q3 Q2 zB
  generalize ((w1.alloc (.cells #[.slice a4 qss.length c4] 91)).alloc (.cells #[.slice none 0 0] 96)).alloc (.cells #[.slice a4 qss.length c4] 91) = WL at *
  have T0 : Hid (∀ W1, Below WL.heap.size WL W1 → TJ w1.heap.size (.slice a4 qss.length c4) qss.length t w1 qss.length W1) := fun W1 hb => by
    have ti : TI w1.heap.size (.slice a4 qss.length c4) w1 WL := ⟨Q3, k1, k3, by omega⟩
    have h5 : Bel5 w1.heap.size WL none 0 0 := h2
    refine ⟨ti.under (by rw [zL] at hb; exact hb), Nat.le_refl _, ⟨none, 0, [], h5.of (hb.block _ (by omega)), ⟨by simp, by simp [maxLen], fun h => absurd rfl h⟩, ?_⟩, fun k h1 h2 => absurd h2 (by omega)⟩
    rw [show lvB qss.length t qss.length = [] from if_neg (Nat.lt_irrefl _)]
    exact ⟨rfl, fun i hi => absurd hi (by simp)⟩
  clear k1 h2 k3 Q3
  gi_wp2
  refine wpIn_rangeFunc_found rfl (by omega) (gf := 109) (lb := #[.pointer (some ⟨w1.heap.size + 2, 0, none⟩)]) rfl trivial (enters_of Tryz.func109 (by kernel_rfl) rfl) (backwardL_seq (w1.heap.size + 2) W0.heap.size a4 c4 vs qss _ _ (by omega) (by have := HLL.out; omega)) (fun _ => rfl)
    (fun s W => Hid (TJ w1.heap.size (.slice a4 qss.length c4) qss.length t w1 s W)) (fun W => Hid (TD w.heap.size w W ∧ okT t = false)) (fun s A hs => ⟨hs.out.ti.c6, HLR.out.below hs.out.ti.bel⟩) (fun s A l o hl hs => by
      rw [zL] at hl ⊢
      exact hs.out.loop hl o) (fun A B' hd hb => ⟨hd.out.1.under hb (by omega), hd.out.2⟩) (fun W1 hb => T0.out W1 hb) ?round ?done ?ret
  case round =>
    rintro s x s' W K HJ ⟨rfl, rfl, hlt⟩ ⟨l, hl⟩ hK
    rw [zL] at hl hK ⊢
    obtain ⟨g7, c7, hv7, S7, _⟩ := (HLR.out.below HJ.out.ti.bel).q s' hlt
    obtain ⟨los, LVA⟩ := HLA.out s' hlt
    unfold encL
    rw [hv7]
    simp only [Option.getD_some]
    have hn7 : (rowTp qss s').length = (lvl t s').length := LVA.1
    have HKD : Hid (lvB qss.length t (s' + 1) = kdN (lvl t s') (lvl t s').length) := lvB_kids HLG.out hlt
    have HCH : Hid (∀ W9, TI w1.heap.size (.slice a4 qss.length c4) w1 W9 → (∃ a c ns, Bel5 w1.heap.size W9 a ns.length c ∧ SeesTp W9 a c ns ∧ WkL W9 ns (lvl t s')) → (∀ i, i < (lvl t s').length → chkN (qss.length - 1) (ndA (lvl t s') i)) → TJ w1.heap.size (.slice a4 qss.length c4) qss.length t w1 s' W9) := fun W9 ti hl9 hc9 => by
      refine ⟨ti, by omega, ?_, fun k h1 h2 x hx => ?_⟩
      · rw [show lvB qss.length t s' = lvl t s' from if_pos hlt]
        exact hl9
      · rcases Nat.eq_or_lt_of_le h1 with e | e
        · subst e
          exact all_at.1 hc9 x hx
        · exact HJ.out.ck k e h2 x hx
    have HBD : Hid (∀ i, i < (lvl t s').length → ¬ chkN (qss.length - 1) (ndA (lvl t s') i) → okT t = false) := fun i hi hn => by
      obtain ⟨m, hm⟩ : ∃ m, qss.length = m + 1 := ⟨qss.length - 1, by omega⟩
      cases e : okT t with
      | false => rfl
      | true =>
        have := ((okT_good (HLG.out m hm)).1 e).1 s' (by omega) _ (ndA_mem hi)
        rw [hm, Nat.add_sub_cancel] at hn
        exact absurd this hn
    have HLV : Hid (LvAt w w1 (rowTp qss s') (lvl t s') los) := LVA
    have HTS : Hid ((lvl t s').length ≤ 1048577) := by
      obtain ⟨m, hm⟩ : ∃ m, qss.length = m + 1 := ⟨qss.length - 1, by omega⟩
      have h2 := (sz_lvl t s' (fun i hi => (HLG.out m hm).1 i (by omega))).1
      have := HS.out
      show (lvl t s').length ≤ 1048577
      omega
    have HSZ : Hid (∀ i, i < (lvl t s').length → (ndA (lvl t s') i).ks.length ≤ 1048576) := fun i hi => by
      obtain ⟨m, hm⟩ : ∃ m, qss.length = m + 1 := ⟨qss.length - 1, by omega⟩
      have h1 := ndA_sz hi
      have h2 := (sz_lvl t s' (fun i hi => (HLG.out m hm).1 i (by omega))).1
      have := HS.out
      omega
    rw [hn7] at hv7 ⊢
    have HS7 : Hid (SeesTp W (some ⟨g7, 0, none⟩) c7 (rowTp qss s')) := S7
    have HN7 : Hid ((rowTp qss s').length = (lvl t s').length) := hn7
    have hf7 := S7.fits
    have hm7 := S7.max
    rw [hn7] at hf7
    unfold maxLen at hm7
    clear S7 hn7 LVA hv7
    generalize rowTp qss s' = rs at *
    generalize lvl t s' = ts at *
    gi_wp2
    refine hK _ _ (Above.refl _ _) ?_
    intro o
    have J3 : Hid (TJ w1.heap.size (.slice a4 qss.length c4) qss.length t w1 (s' + 1) (W.putObj (w1.heap.size + 4) o)) := HJ.out.loop hl o
    have S3 : Hid (SeesTp (W.putObj (w1.heap.size + 4) o) (some ⟨g7, 0, none⟩) c7 rs) := HS7.out.kp (Kp.loop hl o)
    clear hK HJ HS7 hl
    rw [show w1.heap.size + 3 + 1 = w1.heap.size + 4 from rfl]
    generalize W.putObj (w1.heap.size + 4) o = W3 at *
    have K0 : Hid (TK w1.heap.size (.slice a4 qss.length c4) qss.length t ts w1 W3 0 (.slice none 0 0) W3) := by
      obtain ⟨ti, _, lw, _⟩ := J3.out
      rw [HKD.out] at lw
      exact ⟨ti, grownBy_refl _ _, lw, ⟨[], rfl, RowWp.nil _ _, fun i hi => absurd hi (by omega)⟩, fun i hi => absurd hi (by omega)⟩
    gi_wp2
    gi_loopw [8, 10, 11, 19] (fun s8 _ _ s19 wr => ∃ j : Nat, j ≤ ts.length ∧ s19 = .int .i64 j ∧ Hid (TK w1.heap.size (.slice a4 qss.length c4) qss.length t ts w1 W3 j s8 wr)) (fun _ _ _ s19 _ => ts.length - (intOf s19).toNat)
    case atStart => exact ⟨0, Nat.zero_le _, rfl, K0⟩
    case round =>
      clear K0
      obtain ⟨j, hj, rfl, HK⟩ := hrel
      rename World => wr
      by_cases hlt : j < ts.length
      · skip
        obtain ⟨y1, y2, y3, SVj, NUj⟩ := HLV.out.2 j hlt
        have K3 : Hid (Kp W3 wr) := HK.out.kp (by obtain ⟨_, _, lw, _⟩ := J3.out; obtain ⟨a, c, qs, h5, _⟩ := lw; exact ⟨a, _, c, h5⟩)
        obtain ⟨gr, or, er, hcr⟩ := S3.out.cells (by intro e; have := HN7.out; rw [e] at this; simp at this; omega)
        injection er with er
        injection er with er1 er2
        subst er1 er2
        have g1 := K3.out.c _ _ _ (hcr j (by have := HN7.out; omega)) (fun _ => trivial)
        rw [Nat.zero_add] at g1
        have SVr := SVj.below HK.out.ti.bel
        have HF : Hid (formW (ndA ts j).bs (ndA ts j).is (ndA ts j).ks = false → chkN (qss.length - 1) (ndA ts j) → chkN (qss.length - 1) (ndA ts j)) := fun _ h => h
        have C9 := formWrong_any (ptAt rs j).1 (ptAt rs j).2 (los j) (ndA ts j) y1 y2 y3 wr SVr NUj (B.trans (HK.out.ti.bel.mono (by omega)))
        have HNJ : Hid (NdUp w (los j) (ndA ts j) y1 y2 y3) := NUj
        have HSJ : Hid (Sev w1 (ptAt rs j).1 (ptAt rs j).2 (ndA ts j).b y1 y2 y3) := SVj
        have HNO : Hid (¬ chkN (qss.length - 1) (ndA ts j) → okT t = false) := HBD.out j hlt
        unfold ptV at g1
        have HD : Hid ((kdN ts ts.length).drop (kdN ts j).length = (ndA ts j).ks ++ (kdN ts ts.length).drop (kdN ts (j + 1)).length) := kdN_drop hlt
        have HFW : Hid (chkN (qss.length - 1) (ndA ts j) ↔ (formW (ndA ts j).bs (ndA ts j).is (ndA ts j).ks = false ∧ (ndA ts j).b = bxT (ndA ts j)) ∧ (qss.length - 1 = 0 ∨ ¬ ((ndA ts j).bs.length = 0 ∧ (ndA ts j).ks.length = 0))) := Iff.rfl
        have HZJ := HSZ.out j hlt
        clear hcr SVr SVj NUj HF
        generalize ht : ndA ts j = tj at *
        have HTJ : Hid (ndA ts j = tj) := ht
        obtain ⟨⟨qb, qo⟩, uq⟩ : ∃ x, Hid (ptAt rs j = x) := ⟨_, rfl⟩
        rw [uq.out] at C9 HSJ g1
        dsimp only at C9 HSJ g1
        clear ht uq
        gi_wp2_with fail
        refine ⟨trivial, ?_⟩
        refine (CallsIn.inRound _ (callsIn_wide.2 C9)).mono ?_
        rintro e w4 ⟨rfl, hb4⟩
        have HK4 : Hid (TK w1.heap.size (.slice a4 qss.length c4) qss.length t ts w1 W3 j u8 w4) := HK.out.below hb4
        have K34 : Hid (Kp W3 w4) := K3.out.trans (Kp.below hb4)
        clear C9 g1 HK K3 hb4
        obtain ⟨fw, hfw⟩ : ∃ x, Hid (formW tj.bs tj.is tj.ks = x) := ⟨_, rfl⟩
        rw [hfw.out]
        cases fw
        · obtain ⟨ta1, tc1, ta2, tc2, ta3, tc3, rfl, rfl, rfl, _⟩ := HNJ.out.open
          have S4 := HSJ.out.below HK4.out.ti.bel
          obtain ⟨a5, c5, q5, h5, SQ5, WQ5⟩ := HK4.out.lw
          have g5 := h5.cell
          have hkq : tj.ks.length ≤ q5.length := by
            have := WQ5.1
            rw [HD.out, List.length_append] at this
            omega
          have hq5 := SQ5.fits
          have hc5 := SQ5.max
          unfold maxLen at hc5
          rw [HD.out] at WQ5
          have hown4 : Hid (∀ k, u8.ownBlock = some k → k < w4.heap.size) := by
            obtain ⟨_, _, _, ⟨ns, _, hr, _⟩, _⟩ := HK4.out
            exact fun k hk => (World.ownsRow.lt hr k hk).2
          have C11 := fun (W : World) (hb : Below w4.heap.size w4 W) => atWork_any qb qo (los j) tj _ _ _ a5 c5 q5 _ W (S4.below hb) HNJ.out ((B.trans (HK4.out.ti.bel.mono (by omega))).trans (hb.mono (by have := HK4.out.ti.sz; have := B.size; have := HK4.out.ti.bel.size; omega))) hfw.out SQ5 WQ5 (K34.out.trans (Kp.below hb))
          have e11 : ∀ W, (Instr.sliceAt 96 (.slice a5 q5.length c5) none (some (.int .i64 (tj.ks.length : Int))) none).run Tryz.prog W = .ok (.slice a5 tj.ks.length c5) W := sliceTo a5 _ _ _ (by omega)
          have HQ5 : Hid (SeesTp W3 a5 c5 q5) := SQ5
          have HW5 : Hid (WkL W3 q5 (tj.ks ++ (kdN ts ts.length).drop (kdN ts (j + 1)).length)) := WQ5
          have H5 : Hid (Bel5 w1.heap.size w4 a5 q5.length c5) := h5
          obtain ⟨k0, k4, k5, k6⟩ := id S4
          clear SQ5 WQ5 h5
          gi_wp2_with fail
          have N : Below w4.heap.size w4 w4.drew := (Below.refl _ _).drew
          refine wpIn_region_round (S := fun w' => Below w4.heap.size w4 w') (by kernel_rfl) (by kernel_rfl) (fun a w h => h) N (fun hHeld => ?_)
          clear hHeld
          generalize w4.drew = ww0 at *
          refine takeW (i := 0) (by simp only [List.getElem?_toArray, List.getElem?_cons_zero]; exact rfl) (by kernel_rfl) (by kernel_rfl) (by kernel_rfl) (by exact fun _ _ _ h => h) (by rfl) (by intro wq hSw; go_simp <;> with_reducible rfl) (by assumption) ?_
          try simp only [Act.put, List.setIfInBounds_toArray, List.set_cons_zero, List.set_cons_succ]
          refine takeW (i := 1) (by simp only [List.getElem?_toArray, List.getElem?_cons_succ, List.getElem?_cons_zero]; exact rfl) (by kernel_rfl) (by kernel_rfl) (by kernel_rfl) (by exact fun _ _ _ h => h) (by rfl) (by intro wq hSw; have y5 := bat hSw g5; have y6 := bat hSw k6; go_simp <;> with_reducible rfl) (by assumption) ?_
          try simp only [Act.put, List.setIfInBounds_toArray, List.set_cons_zero, List.set_cons_succ]
          refine takeW (i := 2) (by simp only [List.getElem?_toArray, List.getElem?_cons_succ, List.getElem?_cons_zero]; exact rfl) (by kernel_rfl) (by kernel_rfl) (by kernel_rfl) (by exact fun _ _ _ h => h) (by rfl) (by intro wq hSw; go_simp <;> with_reducible rfl) (by assumption) ?_
          try simp only [Act.put, List.setIfInBounds_toArray, List.set_cons_zero, List.set_cons_succ]
          refine takeW (i := 3) (by simp only [List.getElem?_toArray, List.getElem?_cons_succ, List.getElem?_cons_zero]; exact rfl) (by kernel_rfl) (by kernel_rfl) (by kernel_rfl) (by exact fun _ _ _ h => h) (by rfl) (by intro wq hSw; go_simp <;> with_reducible rfl) (by assumption) ?_
          try simp only [Act.put, List.setIfInBounds_toArray, List.set_cons_zero, List.set_cons_succ]
          refine takeW (i := 4) (by simp only [List.getElem?_toArray, List.getElem?_cons_succ, List.getElem?_cons_zero]; exact rfl) (by kernel_rfl) (by kernel_rfl) (by kernel_rfl) (by exact fun _ _ _ h => h) (by rfl) (by intro wq hSw; go_simp <;> with_reducible rfl) (by assumption) ?_
          try simp only [Act.put, List.setIfInBounds_toArray, List.set_cons_zero, List.set_cons_succ]
          refine takeW (i := 5) (by simp only [List.getElem?_toArray, List.getElem?_cons_succ, List.getElem?_cons_zero]; exact rfl) (by kernel_rfl) (by kernel_rfl) (by kernel_rfl) (by exact fun _ _ _ h => h) (by rfl) (by intro wq hSw; have y5 := bat hSw g5; have y6 := bat hSw k6; go_simp <;> with_reducible rfl) (by assumption) ?_
          try simp only [Act.put, List.setIfInBounds_toArray, List.set_cons_zero, List.set_cons_succ]
          refine takeW (i := 6) (by simp only [List.getElem?_toArray, List.getElem?_cons_succ, List.getElem?_cons_zero]; exact rfl) (by kernel_rfl) (by kernel_rfl) (by kernel_rfl) (by exact fun _ _ _ h => h) (by rfl) (by intro wq hSw; go_simp <;> with_reducible rfl) (by assumption) ?_
          try simp only [Act.put, List.setIfInBounds_toArray, List.set_cons_zero, List.set_cons_succ]
          refine takeW (i := 7) (v := .slice a5 tj.ks.length c5) (by simp only [List.getElem?_toArray, List.getElem?_cons_succ, List.getElem?_cons_zero]; exact rfl) (by kernel_rfl) (by kernel_rfl) (by kernel_rfl) (by exact fun _ _ _ h => h) (by rfl) (by intro wq hSw; simp [execOp, Act.eval, e11]) (by assumption) ?_
          try simp only [Act.put, List.setIfInBounds_toArray, List.set_cons_zero, List.set_cons_succ]
          refine wpAnyH_ready (rs := [8]) (by kernel_rfl) (by simp) (AllReadyH.cons (by simp only [List.getElem?_toArray, List.getElem?_cons_succ, List.getElem?_cons_zero]; exact rfl) (fun K hK => ?_) AllReadyH.nil)
          go_simp
          refine (C11 _ N).mono ?_
          rintro e w5 ⟨n5, rfl, NW, hb5⟩
          have zz : w4.heap.size ≤ ww0.heap.size := N.size
          replace N := N.trans (hb5.mono N.size)
          refine hK.out _ _ N (fun hHeld => ?_)
          clear hK K hHeld
          try simp only [Act.put, List.setIfInBounds_toArray, List.set_cons_zero, List.set_cons_succ]
          refine takeW (i := 9) (by simp only [List.getElem?_toArray, List.getElem?_cons_succ, List.getElem?_cons_zero]; exact rfl) (by kernel_rfl) (by kernel_rfl) (by kernel_rfl) (by exact fun _ _ _ h => h) (by rfl) (by intro wq hSw; go_simp <;> with_reducible rfl) (by assumption) ?_
          try simp only [Act.put, List.setIfInBounds_toArray, List.set_cons_zero, List.set_cons_succ]
          refine wpAnyH_done (by kernel_rfl) ?_ _
          have HK5 : Hid (TK w1.heap.size (.slice a4 qss.length c4) qss.length t ts w1 W3 j u8 w5) := HK4.out.below N
          have K35 : Hid (Kp W3 w5) := K34.out.trans (Kp.below N)
          have S5 := S4.below N
          have H55 : Hid (Bel5 w1.heap.size w5 a5 q5.length c5) := H5.out.of (N.block _ (by have := HK4.out.ti.sz; omega))
          have hqb : qb < w1.heap.size := World.block_lt_of_cell? w1 _ HSJ.out.c6
          have HNW : Hid (NewN W3 w5 ww0.heap.size n5 tj) := NW
          obtain ⟨na1, nc1, na2, nc2, nqs, NK, _⟩ := NW.ex
          have EM := fun (W : World) (hb : Below w5.heap.size w5 W) => empty_any n5 _ _ _ _ _ _ _ W (NK.below hb)
          obtain ⟨⟨n0, n1, n2, n3⟩, n4, n6, _, _⟩ := id NK
          obtain ⟨⟨z0', z1', z2', z3'⟩, z4, z5, z6⟩ := id S5
          have c40 := HK5.out.ti.c4
          obtain ⟨⟨bb1, bb2, bb3, bb4⟩, ubb⟩ : ∃ x, Hid (bxT tj = x) := ⟨_, rfl⟩
          obtain ⟨⟨tt1, tt2, tt3, tt4⟩, utt⟩ : ∃ x, Hid (tj.b = x) := ⟨_, rfl⟩
          obtain ⟨nb, NB⟩ : ∃ x, Hid ((!decide ((bb1, bb2, bb3, bb4) = (tt1, tt2, tt3, tt4))) = x) := ⟨_, rfl⟩
          have NEQ : ∀ W, (binOp .neq 35 (.agg #[.int .i64 bb1, .int .i64 bb2, .int .i64 bb3, .int .i64 bb4]) (.agg #[.int .i64 tt1, .int .i64 tt2, .int .i64 tt3, .int .i64 tt4])).run Tryz.prog W = .ok (.bool nb) W := fun W => by rw [neqBx, NB.out]
          rw [ubb.out] at n0 n1 n2 n3
          rw [utt.out] at z0' z1' z2' z3'
          simp only [Nat.zero_add] at n0 n1 n2 n3
          dsimp only at n0 n1 n2 n3 z0' z1' z2' z3'
          have HBE : Hid (nb = false → tj.b = bxT tj) := fun h => by
            rw [utt.out, ubb.out]
            have := NB.out
            rw [h] at this
            simp at this
            obtain ⟨e1, e2, e3, e4⟩ := this
            rw [e1, e2, e3, e4]
          have HBN : Hid (nb = true → tj.b ≠ bxT tj) := fun h e => by
            rw [utt.out, ubb.out] at e
            have := NB.out
            rw [h, ← e] at this
            simp at this
          have hz5 : w4.heap.size ≤ ww0.heap.size := zz
          clear N S4 k0 k4 k5 k6 C11 e11 g5 H5 zz NK NW K34 HK4 S5
          gi_wp2_with fail
          cases nb
          · have hbe := HBE.out rfl
            obtain ⟨em, hem⟩ : ∃ x, Hid ((decide (tj.bs.length = 0) && decide (tj.ks.length = 0)) = x) := ⟨_, rfl⟩
            rw [hem.out] at EM
            cases em
            · have CK : Hid (chkN (qss.length - 1) tj) := HFW.out.2 ⟨⟨hfw.out, hbe⟩, .inr (fun h => by have := hem.out; simp [h.1, h.2] at this)⟩
              have N : Below w5.heap.size w5 w5.drew := (Below.refl _ _).drew
              refine wpIn_region_round (S := fun w' => Below w5.heap.size w5 w') (by kernel_rfl) (by kernel_rfl) (fun a w h => h) N (fun hHeld => ?_)
              clear hHeld
              generalize w5.drew = ww0 at *
              refine takeW (i := 0) (by simp only [List.getElem?_toArray, List.getElem?_cons_zero]; exact rfl) (by kernel_rfl) (by kernel_rfl) (by kernel_rfl) (by exact fun _ _ _ h => h) (by rfl) (by intro wq hSw; go_simp <;> with_reducible rfl) (by assumption) ?_
              try simp only [Act.put, List.setIfInBounds_toArray, List.set_cons_zero, List.set_cons_succ]
              refine takeW (i := 1) (by simp only [List.getElem?_toArray, List.getElem?_cons_succ, List.getElem?_cons_zero]; exact rfl) (by kernel_rfl) (by kernel_rfl) (by kernel_rfl) (by exact fun _ _ _ h => h) (by rfl) (by intro wq hSw; go_simp <;> with_reducible rfl) (by assumption) ?_
              try simp only [Act.put, List.setIfInBounds_toArray, List.set_cons_zero, List.set_cons_succ]
              refine takeW (i := 2) (by simp only [List.getElem?_toArray, List.getElem?_cons_succ, List.getElem?_cons_zero]; exact rfl) (by kernel_rfl) (by kernel_rfl) (by kernel_rfl) (by exact fun _ _ _ h => h) (by rfl) (by intro wq hSw; go_simp <;> with_reducible rfl) (by assumption) ?_
              try simp only [Act.put, List.setIfInBounds_toArray, List.set_cons_zero, List.set_cons_succ]
              refine takeW (i := 3) (by simp only [List.getElem?_toArray, List.getElem?_cons_succ, List.getElem?_cons_zero]; exact rfl) (by kernel_rfl) (by kernel_rfl) (by kernel_rfl) (by exact fun _ _ _ h => h) (by rfl) (by intro wq hSw; have y0 := bat hSw n0; have y1 := bat hSw n1; have y2 := bat hSw n2; have y3 := bat hSw n3; go_simp <;> with_reducible rfl) (by assumption) ?_
              try simp only [Act.put, List.setIfInBounds_toArray, List.set_cons_zero, List.set_cons_succ]
              refine takeW (i := 4) (by simp only [List.getElem?_toArray, List.getElem?_cons_succ, List.getElem?_cons_zero]; exact rfl) (by kernel_rfl) (by kernel_rfl) (by kernel_rfl) (by exact fun _ _ _ h => h) (by rfl) (by intro wq hSw; go_simp <;> with_reducible rfl) (by assumption) ?_
              try simp only [Act.put, List.setIfInBounds_toArray, List.set_cons_zero, List.set_cons_succ]
              refine takeW (i := 5) (by simp only [List.getElem?_toArray, List.getElem?_cons_succ, List.getElem?_cons_zero]; exact rfl) (by kernel_rfl) (by kernel_rfl) (by kernel_rfl) (by exact fun _ _ _ h => h) (by rfl) (by intro wq hSw; go_simp <;> with_reducible rfl) (by assumption) ?_
              try simp only [Act.put, List.setIfInBounds_toArray, List.set_cons_zero, List.set_cons_succ]
              refine takeW (i := 6) (by simp only [List.getElem?_toArray, List.getElem?_cons_succ, List.getElem?_cons_zero]; exact rfl) (by kernel_rfl) (by kernel_rfl) (by kernel_rfl) (by exact fun _ _ _ h => h) (by rfl) (by intro wq hSw; go_simp <;> with_reducible rfl) (by assumption) ?_
              try simp only [Act.put, List.setIfInBounds_toArray, List.set_cons_zero, List.set_cons_succ]
              refine takeW (i := 7) (by simp only [List.getElem?_toArray, List.getElem?_cons_succ, List.getElem?_cons_zero]; exact rfl) (by kernel_rfl) (by kernel_rfl) (by kernel_rfl) (by exact fun _ _ _ h => h) (by rfl) (by intro wq hSw; have y0 := bat hSw z0'; have y1 := bat hSw z1'; have y2 := bat hSw z2'; have y3 := bat hSw z3'; go_simp <;> with_reducible rfl) (by assumption) ?_
              try simp only [Act.put, List.setIfInBounds_toArray, List.set_cons_zero, List.set_cons_succ]
              refine takeW (i := 8) (by simp only [List.getElem?_toArray, List.getElem?_cons_succ, List.getElem?_cons_zero]; exact rfl) (by kernel_rfl) (by kernel_rfl) (by kernel_rfl) (by exact fun _ _ _ h => h) (by rfl) (by intro wq hSw; go_simp <;> with_reducible rfl) (by assumption) ?_
              try simp only [Act.put, List.setIfInBounds_toArray, List.set_cons_zero, List.set_cons_succ]
              refine takeW (i := 9) (by simp only [List.getElem?_toArray, List.getElem?_cons_succ, List.getElem?_cons_zero]; exact rfl) (by kernel_rfl) (by kernel_rfl) (by kernel_rfl) (by exact fun _ _ _ h => h) (by rfl) (by intro wq hSw; go_simp <;> with_reducible rfl) (by assumption) ?_
              try simp only [Act.put, List.setIfInBounds_toArray, List.set_cons_zero, List.set_cons_succ]
              refine takeW (i := 10) (by simp only [List.getElem?_toArray, List.getElem?_cons_succ, List.getElem?_cons_zero]; exact rfl) (by kernel_rfl) (by kernel_rfl) (by kernel_rfl) (by exact fun _ _ _ h => h) (by rfl) (by intro wq hSw; go_simp <;> with_reducible rfl) (by assumption) ?_
              try simp only [Act.put, List.setIfInBounds_toArray, List.set_cons_zero, List.set_cons_succ]
              refine wpAnyH_ready (rs := [11]) (by kernel_rfl) (by simp) (AllReadyH.cons (by simp only [List.getElem?_toArray, List.getElem?_cons_succ, List.getElem?_cons_zero]; exact rfl) (fun K hK => ?_) AllReadyH.nil)
              go_simp
              refine (EM _ N).mono ?_
              rintro e w6 ⟨rfl, rfl⟩
              refine hK.out _ _ N (fun hHeld => ?_)
              clear hK K hHeld
              try simp only [Act.put, List.setIfInBounds_toArray, List.set_cons_zero, List.set_cons_succ]
              refine takeW (i := 12) (by simp only [List.getElem?_toArray, List.getElem?_cons_succ, List.getElem?_cons_zero]; exact rfl) (by kernel_rfl) (by kernel_rfl) (by kernel_rfl) (by exact fun _ _ _ h => h) (by rfl) (by intro wq hSw; go_simp <;> with_reducible rfl) (by assumption) ?_
              try simp only [Act.put, List.setIfInBounds_toArray, List.set_cons_zero, List.set_cons_succ]
              refine takeN (i := 13) (by simp only [List.getElem?_toArray, List.getElem?_cons_succ, List.getElem?_cons_zero]; exact rfl) (by kernel_rfl) (by kernel_rfl) (by kernel_rfl) (by exact fun _ _ _ h => h) (by rfl) (by assumption) ?_
              try simp only [Act.put, List.setIfInBounds_toArray, List.set_cons_zero, List.set_cons_succ]
              refine takeN (i := 14) (by simp only [List.getElem?_toArray, List.getElem?_cons_succ, List.getElem?_cons_zero]; exact rfl) (by kernel_rfl) (by kernel_rfl) (by kernel_rfl) (by exact fun _ _ _ h => h) (by rfl) (by assumption) ?_
              try simp only [Act.put, List.setIfInBounds_toArray, List.set_cons_zero, List.set_cons_succ]
              refine takeN (i := 15) (by simp only [List.getElem?_toArray, List.getElem?_cons_succ, List.getElem?_cons_zero]; exact rfl) (by kernel_rfl) (by kernel_rfl) (by kernel_rfl) (by exact fun _ _ _ h => h) (by rfl) (by assumption) ?_
              try simp only [Act.put, List.setIfInBounds_toArray, List.set_cons_zero, List.set_cons_succ]
              refine takeW (i := 16) (by simp only [List.getElem?_toArray, List.getElem?_cons_succ, List.getElem?_cons_zero]; exact rfl) (by kernel_rfl) (by kernel_rfl) (by kernel_rfl) (by exact fun _ _ _ h => h) (by rfl) (by intro wq hSw; go_simp <;> with_reducible rfl) (by assumption) ?_
              try simp only [Act.put, List.setIfInBounds_toArray, List.set_cons_zero, List.set_cons_succ]
              refine takeW (i := 17) (by simp only [List.getElem?_toArray, List.getElem?_cons_succ, List.getElem?_cons_zero]; exact rfl) (by kernel_rfl) (by kernel_rfl) (by kernel_rfl) (by exact fun _ _ _ h => h) (by rfl) (by intro wq hSw; go_simp <;> with_reducible rfl) (by assumption) ?_
              try simp only [Act.put, List.setIfInBounds_toArray, List.set_cons_zero, List.set_cons_succ]
              refine wpAnyH_done (by kernel_rfl) ?_ _
              have HKX : Hid (TK w1.heap.size (.slice a4 qss.length c4) qss.length t ts w1 W3 j u8 w6) := HK5.out.below N
              have H5X : Hid (Bel5 w1.heap.size w6 a5 q5.length c5) := H55.out.of (N.block _ (by have := HK5.out.ti.sz; omega))
              have NX := N
              clear N
              gi_wp2_with fail
              obtain ⟨iP, hiP, hP0, hP1, hP2⟩ := info_parts infoWp
              have hav : ∀ k, u8.ownBlock = some k → k < w4.heap.size := hown4.out
              have RN5' : RtN W3 w5 u8.ownBlock (n5, 0) (ndA ts j) := by rw [HTJ.out]; exact HNW.out.rt hbe (fun k hk => by have := hav k hk; omega)
              obtain ⟨ti5, gg5, _, ⟨ns, hns, hr5, hd5⟩, ck5⟩ := HKX.out
              have M5' : TM w1.heap.size (.slice a4 qss.length c4) ts w1 W3 j u8 ns a5 q5.length c5 w6 := ⟨ti5, gg5, H5X.out, hns, hr5, hd5⟩
              have hts := HTS.out
              have hW3 : w1.heap.size + 3 ≤ W3.heap.size := by have := J3.out.ti.sz; omega
              obtain ⟨a6, n6', c6, HA6⟩ : ∃ a6 n6' c6, Hid (Value.slice (if c5 = tj.ks.length then a5 else a5.map (fun x => x.add tj.ks.length)) (q5.length - tj.ks.length) (c5 - tj.ks.length) = .slice a6 n6' c6 ∧ n6' = (q5.drop tj.ks.length).length) := ⟨_, _, _, rfl, by rw [List.length_drop]⟩
              have SQ6 : Hid (SeesTp W3 a6 c6 (q5.drop tj.ks.length)) := by
                have h := HA6.out.1
                injection h with e1 _ e3
                rw [← e1, ← e3]
                exact HQ5.out.drop hkq
              have WQ6 : Hid (WkL W3 (q5.drop tj.ks.length) ((kdN ts ts.length).drop (kdN ts (j + 1)).length)) := HW5.out.two.2
              have e14 : ∀ W, (Instr.sliceAt 96 (.slice a5 q5.length c5) (some (.int .i64 (tj.ks.length : Int))) none none).run Tryz.prog W = .ok (.slice a6 n6' c6) W := fun W => by rw [← HA6.out.1]; exact sliceFrom a5 _ _ _ hkq W
              have CK8 : Hid (∀ i, i < j + 1 → chkN (qss.length - 1) (ndA ts i)) := fun i hi => by
                rcases Nat.lt_or_ge i j with e | e
                · exact ck5 i e
                · rw [show i = j by omega, HTJ.out]; exact CK.out
              have hnl : ns.length ≤ 1048577 := by omega
              have M5 : Hid (TM w1.heap.size (.slice a4 qss.length c4) ts w1 W3 j u8 ns a5 q5.length c5 w6.drew) := M5'.below (Below.refl _ _).drew
              have RN5 : Hid (RtN W3 w6.drew u8.ownBlock (n5, 0) (ndA ts j)) := RN5'.kp ((Kp.below NX).trans (Kp.below (Below.refl _ _).drew))
              have N : w6.drew.cell? ⟨qb, qo + 6, none⟩ = some (.slice ta3 tj.ks.length tc3) := bat NX z6
              have hqb5 : qb < w1.heap.size := hqb
              clear M5' RN5' ti5 gg5 hr5 hd5 ck5 n0 n1 n2 n3 z0' z1' z2' z3' EM NEQ
              refine wpIn_region_round (S := fun W => W.cell? ⟨qb, qo + 6, none⟩ = some (.slice ta3 tj.ks.length tc3)) (by kernel_rfl) (by kernel_rfl) (fun a w h => h) N (fun hHeld => ?_)
              clear hHeld NX
              generalize w6.drew = ww0 at *
              refine takeW (i := 0) (by simp only [List.getElem?_toArray, List.getElem?_cons_zero]; exact rfl) (by kernel_rfl) (by kernel_rfl) (by kernel_rfl) (by exact fun _ _ _ h => h) (by rfl) (by intro wq hSw; go_simp <;> with_reducible rfl) (by assumption) ?_
              try simp only [Act.put, List.setIfInBounds_toArray, List.set_cons_zero, List.set_cons_succ]
              refine takeW (i := 1) (by simp only [List.getElem?_toArray, List.getElem?_cons_succ, List.getElem?_cons_zero]; exact rfl) (by kernel_rfl) (by kernel_rfl) (by kernel_rfl) (by exact fun _ _ _ h => h) (by rfl) (by intro wq hSw; go_simp <;> with_reducible rfl) (by assumption) ?_
              try simp only [Act.put, List.setIfInBounds_toArray, List.set_cons_zero, List.set_cons_succ]
              refine takeW (i := 5) (by simp only [List.getElem?_toArray, List.getElem?_cons_succ, List.getElem?_cons_zero]; exact rfl) (by kernel_rfl) (by kernel_rfl) (by kernel_rfl) (by exact fun _ _ _ h => h) (by rfl) (by intro wq hSw; go_simp <;> with_reducible rfl) (by assumption) ?_
              try simp only [Act.put, List.setIfInBounds_toArray, List.set_cons_zero, List.set_cons_succ]
              refine takeW (i := 6) (by simp only [List.getElem?_toArray, List.getElem?_cons_succ, List.getElem?_cons_zero]; exact rfl) (by kernel_rfl) (by kernel_rfl) (by kernel_rfl) (by exact fun _ _ _ h => h) (by rfl) (by intro wq hSw; go_simp <;> with_reducible rfl) (by assumption) ?_
              try simp only [Act.put, List.setIfInBounds_toArray, List.set_cons_zero, List.set_cons_succ]
              refine takeW (i := 7) (by simp only [List.getElem?_toArray, List.getElem?_cons_succ, List.getElem?_cons_zero]; exact rfl) (by kernel_rfl) (by kernel_rfl) (by kernel_rfl) (by exact fun _ _ _ h => h) (by rfl) (by intro wq hSw; go_simp <;> with_reducible rfl) (by assumption) ?_
              try simp only [Act.put, List.setIfInBounds_toArray, List.set_cons_zero, List.set_cons_succ]
              refine takeW (i := 8) (by simp only [List.getElem?_toArray, List.getElem?_cons_succ, List.getElem?_cons_zero]; exact rfl) (by kernel_rfl) (by kernel_rfl) (by kernel_rfl) (by exact fun _ _ _ h => h) (by rfl) (by intro wq hSw; have y6 := hSw; go_simp <;> with_reducible rfl) (by assumption) ?_
              try simp only [Act.put, List.setIfInBounds_toArray, List.set_cons_zero, List.set_cons_succ]
              refine takeW (i := 9) (by simp only [List.getElem?_toArray, List.getElem?_cons_succ, List.getElem?_cons_zero]; exact rfl) (by kernel_rfl) (by kernel_rfl) (by kernel_rfl) (by exact fun _ _ _ h => h) (by rfl) (by intro wq hSw; go_simp <;> with_reducible rfl) (by assumption) ?_
              try simp only [Act.put, List.setIfInBounds_toArray, List.set_cons_zero, List.set_cons_succ]
              refine wpAnyH_ready (rs := [2, 4]) (by kernel_rfl) (by simp) (AllReadyH.cons (by simp only [List.getElem?_toArray, List.getElem?_cons_succ, List.getElem?_cons_zero]; exact rfl) (fun K hK => ?_) (AllReadyH.cons (by simp only [List.getElem?_toArray, List.getElem?_cons_succ, List.getElem?_cons_zero]; exact rfl) (fun K hK => ?_) AllReadyH.nil))
              · go_simp
                have bq := below1 ww0 (.cells #[.pointer (some ⟨n5, 0, none⟩)] 63)
                have NW6 := one_newTp ww0 63 n5 0
                have M6 := M5.out.below bq
                have R6 := (RN5.out).kp (Kp.below bq)
                replace N := bat bq N
                refine hK.out _ _ N (fun hHeld => ?_)
                clear hK K hHeld
                try simp only [Act.put, List.setIfInBounds_toArray, List.set_cons_zero, List.set_cons_succ]
                generalize hzA : ww0.heap.size = zA at *
                generalize ww0.alloc (.cells #[.pointer (some ⟨n5, 0, none⟩)] 63) = w6 at *
                clear bq
                refine wpAnyH_ready (rs := [3, 4]) (by kernel_rfl) (by simp) (AllReadyH.cons (by simp only [List.getElem?_toArray, List.getElem?_cons_succ, List.getElem?_cons_zero]; exact rfl) (fun K hK => ?_) (AllReadyH.cons (by simp only [List.getElem?_toArray, List.getElem?_cons_succ, List.getElem?_cons_zero]; exact rfl) (fun K hK => ?_) AllReadyH.nil))
                · refine wp_append_at (.tmp 52) (.tmp 54) 96 rfl W3.heap.size 63 iP (.pointer none) 1 8 Tryz.underlying96 hiP hP0 hP1 hP2 rfl (by decide) u8 ns.length (ns.map ptV) rfl M6.row ⟨zA, 0, none⟩ 1 _ ([((n5, 0) : Ptr)].map ptV) rfl rfl NW6 (onesTp _) (by unfold maxLen; omega) (by omega) (by have := M6.g.size; omega) ?_
                  intro v7 w7 R7 G7 A7
                  have M7 := M6.snoc R6 (RowWp.snoc R7) G7 A7 (by omega)
                  have nown : ∀ k, u8.ownBlock = some k → W3.heap.size ≤ k := fun k hk => (World.ownsRow.lt M6.row k hk).1
                  replace N : w7.cell? ⟨qb, qo + 6, none⟩ = some (.slice ta3 tj.ks.length tc3) := (World.cell?_of_block (a := ⟨qb, qo + 6, none⟩) (G7.block qb (by have := World.block_lt_of_cell? w6 _ N; exact this) (fun e => by have := nown _ e.symm; omega))).trans N
                  refine hK.out _ _ N (fun hHeld => ?_)
                  clear hK K hHeld
                  try simp only [Act.put, List.setIfInBounds_toArray, List.set_cons_zero, List.set_cons_succ]
                  clear R7 G7 A7 M6 R6 NW6
                  refine takeW (i := 11) (by simp only [List.getElem?_toArray, List.getElem?_cons_succ, List.getElem?_cons_zero]; exact rfl) (by kernel_rfl) (by kernel_rfl) (by kernel_rfl) (by exact fun _ _ _ h => h) (by rfl) (by intro wq hSw; go_simp <;> with_reducible rfl) (by assumption) ?_
                  try simp only [Act.put, List.setIfInBounds_toArray, List.set_cons_zero, List.set_cons_succ]
                  refine wpAnyH_ready (rs := [4]) (by kernel_rfl) (by simp) (AllReadyH.cons (by simp only [List.getElem?_toArray, List.getElem?_cons_succ, List.getElem?_cons_zero]; exact rfl) (fun K hK => ?_) AllReadyH.nil)
                  have y5 := M7.h5.cell
                  go_simp
                  refine hK.out _ _ N (fun hHeld => ?_)
                  clear hK K hHeld
                  try simp only [Act.put, List.setIfInBounds_toArray, List.set_cons_zero, List.set_cons_succ]
                  clear y5
                  refine takeW (i := 10) (v := .slice a6 n6' c6) (by simp only [List.getElem?_toArray, List.getElem?_cons_succ, List.getElem?_cons_zero]; exact rfl) (by kernel_rfl) (by kernel_rfl) (by kernel_rfl) (by exact fun _ _ _ h => h) (by rfl) (by intro wq hSw; simp [execOp, Act.eval, e14]) (by assumption) ?_
                  try simp only [Act.put, List.setIfInBounds_toArray, List.set_cons_zero, List.set_cons_succ]
                  refine wpAnyH_ready (rs := [12]) (by kernel_rfl) (by simp) (AllReadyH.cons (by simp only [List.getElem?_toArray, List.getElem?_cons_succ, List.getElem?_cons_zero]; exact rfl) (fun K hK => ?_) AllReadyH.nil)
                  have y5 := M7.h5.cell
                  have yf := M7.h5.pl.fr 0
                  go_simp
                  have HK8 : Hid (TK w1.heap.size (.slice a4 qss.length c4) qss.length t ts w1 W3 (j + 1) v7 (w7.setCell ⟨w1.heap.size + 1, 0, none⟩ (.slice a6 n6' c6))) := M7.store (by omega) HA6.out.2 SQ6.out WQ6.out CK8.out
                  replace N : (w7.setCell ⟨w1.heap.size + 1, 0, none⟩ (.slice a6 n6' c6)).cell? ⟨qb, qo + 6, none⟩ = some (.slice ta3 tj.ks.length tc3) := (cell_other (.inl (by omega)) _).trans N
                  refine hK.out _ _ N (fun hHeld => ?_)
                  clear hK K hHeld
                  try simp only [Act.put, List.setIfInBounds_toArray, List.set_cons_zero, List.set_cons_succ]
                  clear y5 yf N M7
                  generalize w7.setCell ⟨w1.heap.size + 1, 0, none⟩ (.slice a6 n6' c6) = w8 at *
                  refine wpAnyH_done (by kernel_rfl) ?_ _
                  rename ∀ (a : Act) (w : World), Code.wpIn _ _ _ (Code.region 15 _ _) _ a w → _ => hKx
                  refine hKx _ _ ?_
                  clear hKx CK8 SQ6 WQ6 HA6 e14 HBE HBN HNW H5X HKX H55 HK5 HQ5 HW5 HSJ HNJ HFW HNO HTJ HD
                  gi_wp2
                  go_roundw
                  case rel => exact ⟨j + 1, by omega, by go_num, HK8⟩
                  case measure => simp [intOf]; omega
                · have y5 := M6.h5.cell
                  go_simp
                  refine hK.out _ _ N (fun hHeld => ?_)
                  clear hK K hHeld
                  try simp only [Act.put, List.setIfInBounds_toArray, List.set_cons_zero, List.set_cons_succ]
                  clear y5
                  refine takeW (i := 10) (v := .slice a6 n6' c6) (by simp only [List.getElem?_toArray, List.getElem?_cons_succ, List.getElem?_cons_zero]; exact rfl) (by kernel_rfl) (by kernel_rfl) (by kernel_rfl) (by exact fun _ _ _ h => h) (by rfl) (by intro wq hSw; simp [execOp, Act.eval, e14]) (by assumption) ?_
                  try simp only [Act.put, List.setIfInBounds_toArray, List.set_cons_zero, List.set_cons_succ]
                  refine wpAnyH_ready (rs := [3]) (by kernel_rfl) (by simp) (AllReadyH.cons (by simp only [List.getElem?_toArray, List.getElem?_cons_succ, List.getElem?_cons_zero]; exact rfl) (fun K hK => ?_) AllReadyH.nil)
                  refine wp_append_at (.tmp 52) (.tmp 54) 96 rfl W3.heap.size 63 iP (.pointer none) 1 8 Tryz.underlying96 hiP hP0 hP1 hP2 rfl (by decide) u8 ns.length (ns.map ptV) rfl M6.row ⟨zA, 0, none⟩ 1 _ ([((n5, 0) : Ptr)].map ptV) rfl rfl NW6 (onesTp _) (by unfold maxLen; omega) (by omega) (by have := M6.g.size; omega) ?_
                  intro v7 w7 R7 G7 A7
                  have M7 := M6.snoc R6 (RowWp.snoc R7) G7 A7 (by omega)
                  have nown : ∀ k, u8.ownBlock = some k → W3.heap.size ≤ k := fun k hk => (World.ownsRow.lt M6.row k hk).1
                  replace N : w7.cell? ⟨qb, qo + 6, none⟩ = some (.slice ta3 tj.ks.length tc3) := (World.cell?_of_block (a := ⟨qb, qo + 6, none⟩) (G7.block qb (by have := World.block_lt_of_cell? w6 _ N; exact this) (fun e => by have := nown _ e.symm; omega))).trans N
                  refine hK.out _ _ N (fun hHeld => ?_)
                  clear hK K hHeld
                  try simp only [Act.put, List.setIfInBounds_toArray, List.set_cons_zero, List.set_cons_succ]
                  clear R7 G7 A7 M6 R6 NW6
                  refine takeW (i := 11) (by simp only [List.getElem?_toArray, List.getElem?_cons_succ, List.getElem?_cons_zero]; exact rfl) (by kernel_rfl) (by kernel_rfl) (by kernel_rfl) (by exact fun _ _ _ h => h) (by rfl) (by intro wq hSw; go_simp <;> with_reducible rfl) (by assumption) ?_
                  try simp only [Act.put, List.setIfInBounds_toArray, List.set_cons_zero, List.set_cons_succ]
                  refine wpAnyH_ready (rs := [12]) (by kernel_rfl) (by simp) (AllReadyH.cons (by simp only [List.getElem?_toArray, List.getElem?_cons_succ, List.getElem?_cons_zero]; exact rfl) (fun K hK => ?_) AllReadyH.nil)
                  have y5 := M7.h5.cell
                  have yf := M7.h5.pl.fr 0
                  go_simp
                  have HK8 : Hid (TK w1.heap.size (.slice a4 qss.length c4) qss.length t ts w1 W3 (j + 1) v7 (w7.setCell ⟨w1.heap.size + 1, 0, none⟩ (.slice a6 n6' c6))) := M7.store (by omega) HA6.out.2 SQ6.out WQ6.out CK8.out
                  replace N : (w7.setCell ⟨w1.heap.size + 1, 0, none⟩ (.slice a6 n6' c6)).cell? ⟨qb, qo + 6, none⟩ = some (.slice ta3 tj.ks.length tc3) := (cell_other (.inl (by omega)) _).trans N
                  refine hK.out _ _ N (fun hHeld => ?_)
                  clear hK K hHeld
                  try simp only [Act.put, List.setIfInBounds_toArray, List.set_cons_zero, List.set_cons_succ]
                  clear y5 yf N M7
                  generalize w7.setCell ⟨w1.heap.size + 1, 0, none⟩ (.slice a6 n6' c6) = w8 at *
                  refine wpAnyH_done (by kernel_rfl) ?_ _
                  rename ∀ (a : Act) (w : World), Code.wpIn _ _ _ (Code.region 15 _ _) _ a w → _ => hKx
                  refine hKx _ _ ?_
                  clear hKx CK8 SQ6 WQ6 HA6 e14 HBE HBN HNW H5X HKX H55 HK5 HQ5 HW5 HSJ HNJ HFW HNO HTJ HD
                  gi_wp2
                  go_roundw
                  case rel => exact ⟨j + 1, by omega, by go_num, HK8⟩
                  case measure => simp [intOf]; omega
              · have y5 := M5.out.h5.cell
                go_simp
                refine hK.out _ _ N (fun hHeld => ?_)
                clear hK K hHeld
                try simp only [Act.put, List.setIfInBounds_toArray, List.set_cons_zero, List.set_cons_succ]
                clear y5
                refine takeW (i := 10) (v := .slice a6 n6' c6) (by simp only [List.getElem?_toArray, List.getElem?_cons_succ, List.getElem?_cons_zero]; exact rfl) (by kernel_rfl) (by kernel_rfl) (by kernel_rfl) (by exact fun _ _ _ h => h) (by rfl) (by intro wq hSw; simp [execOp, Act.eval, e14]) (by assumption) ?_
                try simp only [Act.put, List.setIfInBounds_toArray, List.set_cons_zero, List.set_cons_succ]
                refine wpAnyH_ready (rs := [2]) (by kernel_rfl) (by simp) (AllReadyH.cons (by simp only [List.getElem?_toArray, List.getElem?_cons_succ, List.getElem?_cons_zero]; exact rfl) (fun K hK => ?_) AllReadyH.nil)
                go_simp
                have bq := below1 ww0 (.cells #[.pointer (some ⟨n5, 0, none⟩)] 63)
                have NW6 := one_newTp ww0 63 n5 0
                have M6 := M5.out.below bq
                have R6 := (RN5.out).kp (Kp.below bq)
                replace N := bat bq N
                refine hK.out _ _ N (fun hHeld => ?_)
                clear hK K hHeld
                try simp only [Act.put, List.setIfInBounds_toArray, List.set_cons_zero, List.set_cons_succ]
                generalize hzA : ww0.heap.size = zA at *
                generalize ww0.alloc (.cells #[.pointer (some ⟨n5, 0, none⟩)] 63) = w6 at *
                clear bq
                refine wpAnyH_ready (rs := [3]) (by kernel_rfl) (by simp) (AllReadyH.cons (by simp only [List.getElem?_toArray, List.getElem?_cons_succ, List.getElem?_cons_zero]; exact rfl) (fun K hK => ?_) AllReadyH.nil)
                refine wp_append_at (.tmp 52) (.tmp 54) 96 rfl W3.heap.size 63 iP (.pointer none) 1 8 Tryz.underlying96 hiP hP0 hP1 hP2 rfl (by decide) u8 ns.length (ns.map ptV) rfl M6.row ⟨zA, 0, none⟩ 1 _ ([((n5, 0) : Ptr)].map ptV) rfl rfl NW6 (onesTp _) (by unfold maxLen; omega) (by omega) (by have := M6.g.size; omega) ?_
                intro v7 w7 R7 G7 A7
                have M7 := M6.snoc R6 (RowWp.snoc R7) G7 A7 (by omega)
                have nown : ∀ k, u8.ownBlock = some k → W3.heap.size ≤ k := fun k hk => (World.ownsRow.lt M6.row k hk).1
                replace N : w7.cell? ⟨qb, qo + 6, none⟩ = some (.slice ta3 tj.ks.length tc3) := (World.cell?_of_block (a := ⟨qb, qo + 6, none⟩) (G7.block qb (by have := World.block_lt_of_cell? w6 _ N; exact this) (fun e => by have := nown _ e.symm; omega))).trans N
                refine hK.out _ _ N (fun hHeld => ?_)
                clear hK K hHeld
                try simp only [Act.put, List.setIfInBounds_toArray, List.set_cons_zero, List.set_cons_succ]
                clear R7 G7 A7 M6 R6 NW6
                refine takeW (i := 11) (by simp only [List.getElem?_toArray, List.getElem?_cons_succ, List.getElem?_cons_zero]; exact rfl) (by kernel_rfl) (by kernel_rfl) (by kernel_rfl) (by exact fun _ _ _ h => h) (by rfl) (by intro wq hSw; go_simp <;> with_reducible rfl) (by assumption) ?_
                try simp only [Act.put, List.setIfInBounds_toArray, List.set_cons_zero, List.set_cons_succ]
                refine wpAnyH_ready (rs := [12]) (by kernel_rfl) (by simp) (AllReadyH.cons (by simp only [List.getElem?_toArray, List.getElem?_cons_succ, List.getElem?_cons_zero]; exact rfl) (fun K hK => ?_) AllReadyH.nil)
                have y5 := M7.h5.cell
                have yf := M7.h5.pl.fr 0
                go_simp
                have HK8 : Hid (TK w1.heap.size (.slice a4 qss.length c4) qss.length t ts w1 W3 (j + 1) v7 (w7.setCell ⟨w1.heap.size + 1, 0, none⟩ (.slice a6 n6' c6))) := M7.store (by omega) HA6.out.2 SQ6.out WQ6.out CK8.out
                replace N : (w7.setCell ⟨w1.heap.size + 1, 0, none⟩ (.slice a6 n6' c6)).cell? ⟨qb, qo + 6, none⟩ = some (.slice ta3 tj.ks.length tc3) := (cell_other (.inl (by omega)) _).trans N
                refine hK.out _ _ N (fun hHeld => ?_)
                clear hK K hHeld
                try simp only [Act.put, List.setIfInBounds_toArray, List.set_cons_zero, List.set_cons_succ]
                clear y5 yf N M7
                generalize w7.setCell ⟨w1.heap.size + 1, 0, none⟩ (.slice a6 n6' c6) = w8 at *
                refine wpAnyH_done (by kernel_rfl) ?_ _
                rename ∀ (a : Act) (w : World), Code.wpIn _ _ _ (Code.region 15 _ _) _ a w → _ => hKx
                refine hKx _ _ ?_
                clear hKx CK8 SQ6 WQ6 HA6 e14 HBE HBN HNW H5X HKX H55 HK5 HQ5 HW5 HSJ HNJ HFW HNO HTJ HD
                gi_wp2
                go_roundw
                case rel => exact ⟨j + 1, by omega, by go_num, HK8⟩
                case measure => simp [intOf]; omega
            · obtain ⟨h01, h02⟩ : tj.bs.length = 0 ∧ tj.ks.length = 0 := by have := hem.out; simpa using this
              by_cases hL : qss.length = 1
              · have CK : Hid (chkN (qss.length - 1) tj) := HFW.out.2 ⟨⟨hfw.out, hbe⟩, .inl (by omega)⟩
                have hLf : decide ((1 : Int) < (qss.length : Int)) = false := decide_eq_false (by omega)
                clear hL h01 h02
                have N : Below w5.heap.size w5 w5.drew := (Below.refl _ _).drew
                refine wpIn_region_round (S := fun w' => Below w5.heap.size w5 w') (by kernel_rfl) (by kernel_rfl) (fun a w h => h) N (fun hHeld => ?_)
                clear hHeld
                generalize w5.drew = ww0 at *
                refine takeW (i := 0) (by simp only [List.getElem?_toArray, List.getElem?_cons_zero]; exact rfl) (by kernel_rfl) (by kernel_rfl) (by kernel_rfl) (by exact fun _ _ _ h => h) (by rfl) (by intro wq hSw; go_simp <;> with_reducible rfl) (by assumption) ?_
                try simp only [Act.put, List.setIfInBounds_toArray, List.set_cons_zero, List.set_cons_succ]
                refine takeW (i := 1) (by simp only [List.getElem?_toArray, List.getElem?_cons_succ, List.getElem?_cons_zero]; exact rfl) (by kernel_rfl) (by kernel_rfl) (by kernel_rfl) (by exact fun _ _ _ h => h) (by rfl) (by intro wq hSw; go_simp <;> with_reducible rfl) (by assumption) ?_
                try simp only [Act.put, List.setIfInBounds_toArray, List.set_cons_zero, List.set_cons_succ]
                refine takeW (i := 2) (by simp only [List.getElem?_toArray, List.getElem?_cons_succ, List.getElem?_cons_zero]; exact rfl) (by kernel_rfl) (by kernel_rfl) (by kernel_rfl) (by exact fun _ _ _ h => h) (by rfl) (by intro wq hSw; go_simp <;> with_reducible rfl) (by assumption) ?_
                try simp only [Act.put, List.setIfInBounds_toArray, List.set_cons_zero, List.set_cons_succ]
                refine takeW (i := 3) (by simp only [List.getElem?_toArray, List.getElem?_cons_succ, List.getElem?_cons_zero]; exact rfl) (by kernel_rfl) (by kernel_rfl) (by kernel_rfl) (by exact fun _ _ _ h => h) (by rfl) (by intro wq hSw; have y0 := bat hSw n0; have y1 := bat hSw n1; have y2 := bat hSw n2; have y3 := bat hSw n3; go_simp <;> with_reducible rfl) (by assumption) ?_
                try simp only [Act.put, List.setIfInBounds_toArray, List.set_cons_zero, List.set_cons_succ]
                refine takeW (i := 4) (by simp only [List.getElem?_toArray, List.getElem?_cons_succ, List.getElem?_cons_zero]; exact rfl) (by kernel_rfl) (by kernel_rfl) (by kernel_rfl) (by exact fun _ _ _ h => h) (by rfl) (by intro wq hSw; go_simp <;> with_reducible rfl) (by assumption) ?_
                try simp only [Act.put, List.setIfInBounds_toArray, List.set_cons_zero, List.set_cons_succ]
                refine takeW (i := 5) (by simp only [List.getElem?_toArray, List.getElem?_cons_succ, List.getElem?_cons_zero]; exact rfl) (by kernel_rfl) (by kernel_rfl) (by kernel_rfl) (by exact fun _ _ _ h => h) (by rfl) (by intro wq hSw; go_simp <;> with_reducible rfl) (by assumption) ?_
                try simp only [Act.put, List.setIfInBounds_toArray, List.set_cons_zero, List.set_cons_succ]
                refine takeW (i := 6) (by simp only [List.getElem?_toArray, List.getElem?_cons_succ, List.getElem?_cons_zero]; exact rfl) (by kernel_rfl) (by kernel_rfl) (by kernel_rfl) (by exact fun _ _ _ h => h) (by rfl) (by intro wq hSw; go_simp <;> with_reducible rfl) (by assumption) ?_
                try simp only [Act.put, List.setIfInBounds_toArray, List.set_cons_zero, List.set_cons_succ]
                refine takeW (i := 7) (by simp only [List.getElem?_toArray, List.getElem?_cons_succ, List.getElem?_cons_zero]; exact rfl) (by kernel_rfl) (by kernel_rfl) (by kernel_rfl) (by exact fun _ _ _ h => h) (by rfl) (by intro wq hSw; have y0 := bat hSw z0'; have y1 := bat hSw z1'; have y2 := bat hSw z2'; have y3 := bat hSw z3'; go_simp <;> with_reducible rfl) (by assumption) ?_
                try simp only [Act.put, List.setIfInBounds_toArray, List.set_cons_zero, List.set_cons_succ]
                refine takeW (i := 8) (by simp only [List.getElem?_toArray, List.getElem?_cons_succ, List.getElem?_cons_zero]; exact rfl) (by kernel_rfl) (by kernel_rfl) (by kernel_rfl) (by exact fun _ _ _ h => h) (by rfl) (by intro wq hSw; go_simp <;> with_reducible rfl) (by assumption) ?_
                try simp only [Act.put, List.setIfInBounds_toArray, List.set_cons_zero, List.set_cons_succ]
                refine takeW (i := 9) (by simp only [List.getElem?_toArray, List.getElem?_cons_succ, List.getElem?_cons_zero]; exact rfl) (by kernel_rfl) (by kernel_rfl) (by kernel_rfl) (by exact fun _ _ _ h => h) (by rfl) (by intro wq hSw; go_simp <;> with_reducible rfl) (by assumption) ?_
                try simp only [Act.put, List.setIfInBounds_toArray, List.set_cons_zero, List.set_cons_succ]
                refine takeW (i := 10) (by simp only [List.getElem?_toArray, List.getElem?_cons_succ, List.getElem?_cons_zero]; exact rfl) (by kernel_rfl) (by kernel_rfl) (by kernel_rfl) (by exact fun _ _ _ h => h) (by rfl) (by intro wq hSw; go_simp <;> with_reducible rfl) (by assumption) ?_
                try simp only [Act.put, List.setIfInBounds_toArray, List.set_cons_zero, List.set_cons_succ]
                refine wpAnyH_ready (rs := [11]) (by kernel_rfl) (by simp) (AllReadyH.cons (by simp only [List.getElem?_toArray, List.getElem?_cons_succ, List.getElem?_cons_zero]; exact rfl) (fun K hK => ?_) AllReadyH.nil)
                go_simp
                refine (EM _ N).mono ?_
                rintro e w6 ⟨rfl, rfl⟩
                refine hK.out _ _ N (fun hHeld => ?_)
                clear hK K hHeld
                try simp only [Act.put, List.setIfInBounds_toArray, List.set_cons_zero, List.set_cons_succ]
                refine takeW (i := 12) (by simp only [List.getElem?_toArray, List.getElem?_cons_succ, List.getElem?_cons_zero]; exact rfl) (by kernel_rfl) (by kernel_rfl) (by kernel_rfl) (by exact fun _ _ _ h => h) (by rfl) (by intro wq hSw; go_simp <;> with_reducible rfl) (by assumption) ?_
                try simp only [Act.put, List.setIfInBounds_toArray, List.set_cons_zero, List.set_cons_succ]
                refine takeW (i := 13) (by simp only [List.getElem?_toArray, List.getElem?_cons_succ, List.getElem?_cons_zero]; exact rfl) (by kernel_rfl) (by kernel_rfl) (by kernel_rfl) (by exact fun _ _ _ h => h) (by rfl) (by intro wq hSw; have y4 := bat hSw c40; go_simp <;> with_reducible rfl) (by assumption) ?_
                try simp only [Act.put, List.setIfInBounds_toArray, List.set_cons_zero, List.set_cons_succ]
                refine takeW (i := 14) (by simp only [List.getElem?_toArray, List.getElem?_cons_succ, List.getElem?_cons_zero]; exact rfl) (by kernel_rfl) (by kernel_rfl) (by kernel_rfl) (by exact fun _ _ _ h => h) (by rfl) (by intro wq hSw; go_simp <;> with_reducible rfl) (by assumption) ?_
                try simp only [Act.put, List.setIfInBounds_toArray, List.set_cons_zero, List.set_cons_succ]
                refine takeW (i := 15) (by simp only [List.getElem?_toArray, List.getElem?_cons_succ, List.getElem?_cons_zero]; exact rfl) (by kernel_rfl) (by kernel_rfl) (by kernel_rfl) (by exact fun _ _ _ h => h) (by rfl) (by intro wq hSw; go_simp <;> with_reducible rfl) (by assumption) ?_
                try simp only [Act.put, List.setIfInBounds_toArray, List.set_cons_zero, List.set_cons_succ]
                refine takeW (i := 16) (by simp only [List.getElem?_toArray, List.getElem?_cons_succ, List.getElem?_cons_zero]; exact rfl) (by kernel_rfl) (by kernel_rfl) (by kernel_rfl) (by exact fun _ _ _ h => h) (by rfl) (by intro wq hSw; go_simp <;> with_reducible rfl) (by assumption) ?_
                try simp only [Act.put, List.setIfInBounds_toArray, List.set_cons_zero, List.set_cons_succ]
                refine takeW (i := 17) (by simp only [List.getElem?_toArray, List.getElem?_cons_succ, List.getElem?_cons_zero]; exact rfl) (by kernel_rfl) (by kernel_rfl) (by kernel_rfl) (by exact fun _ _ _ h => h) (by rfl) (by intro wq hSw; go_simp <;> with_reducible rfl) (by assumption) ?_
                try simp only [Act.put, List.setIfInBounds_toArray, List.set_cons_zero, List.set_cons_succ]
                refine wpAnyH_done (by kernel_rfl) ?_ _
                have HKX : Hid (TK w1.heap.size (.slice a4 qss.length c4) qss.length t ts w1 W3 j u8 w6) := HK5.out.below N
                have H5X : Hid (Bel5 w1.heap.size w6 a5 q5.length c5) := H55.out.of (N.block _ (by have := HK5.out.ti.sz; omega))
                have NX := N
                clear N
                gi_wp2_with fail
                obtain ⟨iP, hiP, hP0, hP1, hP2⟩ := info_parts infoWp
                have hav : ∀ k, u8.ownBlock = some k → k < w4.heap.size := hown4.out
                have RN5' : RtN W3 w5 u8.ownBlock (n5, 0) (ndA ts j) := by rw [HTJ.out]; exact HNW.out.rt hbe (fun k hk => by have := hav k hk; omega)
                obtain ⟨ti5, gg5, _, ⟨ns, hns, hr5, hd5⟩, ck5⟩ := HKX.out
                have M5' : TM w1.heap.size (.slice a4 qss.length c4) ts w1 W3 j u8 ns a5 q5.length c5 w6 := ⟨ti5, gg5, H5X.out, hns, hr5, hd5⟩
                have hts := HTS.out
                have hW3 : w1.heap.size + 3 ≤ W3.heap.size := by have := J3.out.ti.sz; omega
                obtain ⟨a6, n6', c6, HA6⟩ : ∃ a6 n6' c6, Hid (Value.slice (if c5 = tj.ks.length then a5 else a5.map (fun x => x.add tj.ks.length)) (q5.length - tj.ks.length) (c5 - tj.ks.length) = .slice a6 n6' c6 ∧ n6' = (q5.drop tj.ks.length).length) := ⟨_, _, _, rfl, by rw [List.length_drop]⟩
                have SQ6 : Hid (SeesTp W3 a6 c6 (q5.drop tj.ks.length)) := by
                  have h := HA6.out.1
                  injection h with e1 _ e3
                  rw [← e1, ← e3]
                  exact HQ5.out.drop hkq
                have WQ6 : Hid (WkL W3 (q5.drop tj.ks.length) ((kdN ts ts.length).drop (kdN ts (j + 1)).length)) := HW5.out.two.2
                have e14 : ∀ W, (Instr.sliceAt 96 (.slice a5 q5.length c5) (some (.int .i64 (tj.ks.length : Int))) none none).run Tryz.prog W = .ok (.slice a6 n6' c6) W := fun W => by rw [← HA6.out.1]; exact sliceFrom a5 _ _ _ hkq W
                have CK8 : Hid (∀ i, i < j + 1 → chkN (qss.length - 1) (ndA ts i)) := fun i hi => by
                  rcases Nat.lt_or_ge i j with e | e
                  · exact ck5 i e
                  · rw [show i = j by omega, HTJ.out]; exact CK.out
                have hnl : ns.length ≤ 1048577 := by omega
                have M5 : Hid (TM w1.heap.size (.slice a4 qss.length c4) ts w1 W3 j u8 ns a5 q5.length c5 w6.drew) := M5'.below (Below.refl _ _).drew
                have RN5 : Hid (RtN W3 w6.drew u8.ownBlock (n5, 0) (ndA ts j)) := RN5'.kp ((Kp.below NX).trans (Kp.below (Below.refl _ _).drew))
                have N : w6.drew.cell? ⟨qb, qo + 6, none⟩ = some (.slice ta3 tj.ks.length tc3) := bat NX z6
                have hqb5 : qb < w1.heap.size := hqb
                clear M5' RN5' ti5 gg5 hr5 hd5 ck5 n0 n1 n2 n3 z0' z1' z2' z3' EM NEQ
                refine wpIn_region_round (S := fun W => W.cell? ⟨qb, qo + 6, none⟩ = some (.slice ta3 tj.ks.length tc3)) (by kernel_rfl) (by kernel_rfl) (fun a w h => h) N (fun hHeld => ?_)
                clear hHeld NX
                generalize w6.drew = ww0 at *
                refine takeW (i := 0) (by simp only [List.getElem?_toArray, List.getElem?_cons_zero]; exact rfl) (by kernel_rfl) (by kernel_rfl) (by kernel_rfl) (by exact fun _ _ _ h => h) (by rfl) (by intro wq hSw; go_simp <;> with_reducible rfl) (by assumption) ?_
                try simp only [Act.put, List.setIfInBounds_toArray, List.set_cons_zero, List.set_cons_succ]
                refine takeW (i := 1) (by simp only [List.getElem?_toArray, List.getElem?_cons_succ, List.getElem?_cons_zero]; exact rfl) (by kernel_rfl) (by kernel_rfl) (by kernel_rfl) (by exact fun _ _ _ h => h) (by rfl) (by intro wq hSw; go_simp <;> with_reducible rfl) (by assumption) ?_
                try simp only [Act.put, List.setIfInBounds_toArray, List.set_cons_zero, List.set_cons_succ]
                refine takeW (i := 5) (by simp only [List.getElem?_toArray, List.getElem?_cons_succ, List.getElem?_cons_zero]; exact rfl) (by kernel_rfl) (by kernel_rfl) (by kernel_rfl) (by exact fun _ _ _ h => h) (by rfl) (by intro wq hSw; go_simp <;> with_reducible rfl) (by assumption) ?_
                try simp only [Act.put, List.setIfInBounds_toArray, List.set_cons_zero, List.set_cons_succ]
                refine takeW (i := 6) (by simp only [List.getElem?_toArray, List.getElem?_cons_succ, List.getElem?_cons_zero]; exact rfl) (by kernel_rfl) (by kernel_rfl) (by kernel_rfl) (by exact fun _ _ _ h => h) (by rfl) (by intro wq hSw; go_simp <;> with_reducible rfl) (by assumption) ?_
                try simp only [Act.put, List.setIfInBounds_toArray, List.set_cons_zero, List.set_cons_succ]
                refine takeW (i := 7) (by simp only [List.getElem?_toArray, List.getElem?_cons_succ, List.getElem?_cons_zero]; exact rfl) (by kernel_rfl) (by kernel_rfl) (by kernel_rfl) (by exact fun _ _ _ h => h) (by rfl) (by intro wq hSw; go_simp <;> with_reducible rfl) (by assumption) ?_
                try simp only [Act.put, List.setIfInBounds_toArray, List.set_cons_zero, List.set_cons_succ]
                refine takeW (i := 8) (by simp only [List.getElem?_toArray, List.getElem?_cons_succ, List.getElem?_cons_zero]; exact rfl) (by kernel_rfl) (by kernel_rfl) (by kernel_rfl) (by exact fun _ _ _ h => h) (by rfl) (by intro wq hSw; have y6 := hSw; go_simp <;> with_reducible rfl) (by assumption) ?_
                try simp only [Act.put, List.setIfInBounds_toArray, List.set_cons_zero, List.set_cons_succ]
                refine takeW (i := 9) (by simp only [List.getElem?_toArray, List.getElem?_cons_succ, List.getElem?_cons_zero]; exact rfl) (by kernel_rfl) (by kernel_rfl) (by kernel_rfl) (by exact fun _ _ _ h => h) (by rfl) (by intro wq hSw; go_simp <;> with_reducible rfl) (by assumption) ?_
                try simp only [Act.put, List.setIfInBounds_toArray, List.set_cons_zero, List.set_cons_succ]
                refine wpAnyH_ready (rs := [2, 4]) (by kernel_rfl) (by simp) (AllReadyH.cons (by simp only [List.getElem?_toArray, List.getElem?_cons_succ, List.getElem?_cons_zero]; exact rfl) (fun K hK => ?_) (AllReadyH.cons (by simp only [List.getElem?_toArray, List.getElem?_cons_succ, List.getElem?_cons_zero]; exact rfl) (fun K hK => ?_) AllReadyH.nil))
                · go_simp
                  have bq := below1 ww0 (.cells #[.pointer (some ⟨n5, 0, none⟩)] 63)
                  have NW6 := one_newTp ww0 63 n5 0
                  have M6 := M5.out.below bq
                  have R6 := (RN5.out).kp (Kp.below bq)
                  replace N := bat bq N
                  refine hK.out _ _ N (fun hHeld => ?_)
                  clear hK K hHeld
                  try simp only [Act.put, List.setIfInBounds_toArray, List.set_cons_zero, List.set_cons_succ]
                  generalize hzA : ww0.heap.size = zA at *
                  generalize ww0.alloc (.cells #[.pointer (some ⟨n5, 0, none⟩)] 63) = w6 at *
                  clear bq
                  refine wpAnyH_ready (rs := [3, 4]) (by kernel_rfl) (by simp) (AllReadyH.cons (by simp only [List.getElem?_toArray, List.getElem?_cons_succ, List.getElem?_cons_zero]; exact rfl) (fun K hK => ?_) (AllReadyH.cons (by simp only [List.getElem?_toArray, List.getElem?_cons_succ, List.getElem?_cons_zero]; exact rfl) (fun K hK => ?_) AllReadyH.nil))
                  · refine wp_append_at (.tmp 52) (.tmp 54) 96 rfl W3.heap.size 63 iP (.pointer none) 1 8 Tryz.underlying96 hiP hP0 hP1 hP2 rfl (by decide) u8 ns.length (ns.map ptV) rfl M6.row ⟨zA, 0, none⟩ 1 _ ([((n5, 0) : Ptr)].map ptV) rfl rfl NW6 (onesTp _) (by unfold maxLen; omega) (by omega) (by have := M6.g.size; omega) ?_
                    intro v7 w7 R7 G7 A7
                    have M7 := M6.snoc R6 (RowWp.snoc R7) G7 A7 (by omega)
                    have nown : ∀ k, u8.ownBlock = some k → W3.heap.size ≤ k := fun k hk => (World.ownsRow.lt M6.row k hk).1
                    replace N : w7.cell? ⟨qb, qo + 6, none⟩ = some (.slice ta3 tj.ks.length tc3) := (World.cell?_of_block (a := ⟨qb, qo + 6, none⟩) (G7.block qb (by have := World.block_lt_of_cell? w6 _ N; exact this) (fun e => by have := nown _ e.symm; omega))).trans N
                    refine hK.out _ _ N (fun hHeld => ?_)
                    clear hK K hHeld
                    try simp only [Act.put, List.setIfInBounds_toArray, List.set_cons_zero, List.set_cons_succ]
                    clear R7 G7 A7 M6 R6 NW6
                    refine takeW (i := 11) (by simp only [List.getElem?_toArray, List.getElem?_cons_succ, List.getElem?_cons_zero]; exact rfl) (by kernel_rfl) (by kernel_rfl) (by kernel_rfl) (by exact fun _ _ _ h => h) (by rfl) (by intro wq hSw; go_simp <;> with_reducible rfl) (by assumption) ?_
                    try simp only [Act.put, List.setIfInBounds_toArray, List.set_cons_zero, List.set_cons_succ]
                    refine wpAnyH_ready (rs := [4]) (by kernel_rfl) (by simp) (AllReadyH.cons (by simp only [List.getElem?_toArray, List.getElem?_cons_succ, List.getElem?_cons_zero]; exact rfl) (fun K hK => ?_) AllReadyH.nil)
                    have y5 := M7.h5.cell
                    go_simp
                    refine hK.out _ _ N (fun hHeld => ?_)
                    clear hK K hHeld
                    try simp only [Act.put, List.setIfInBounds_toArray, List.set_cons_zero, List.set_cons_succ]
                    clear y5
                    refine takeW (i := 10) (v := .slice a6 n6' c6) (by simp only [List.getElem?_toArray, List.getElem?_cons_succ, List.getElem?_cons_zero]; exact rfl) (by kernel_rfl) (by kernel_rfl) (by kernel_rfl) (by exact fun _ _ _ h => h) (by rfl) (by intro wq hSw; simp [execOp, Act.eval, e14]) (by assumption) ?_
                    try simp only [Act.put, List.setIfInBounds_toArray, List.set_cons_zero, List.set_cons_succ]
                    refine wpAnyH_ready (rs := [12]) (by kernel_rfl) (by simp) (AllReadyH.cons (by simp only [List.getElem?_toArray, List.getElem?_cons_succ, List.getElem?_cons_zero]; exact rfl) (fun K hK => ?_) AllReadyH.nil)
                    have y5 := M7.h5.cell
                    have yf := M7.h5.pl.fr 0
                    go_simp
                    have HK8 : Hid (TK w1.heap.size (.slice a4 qss.length c4) qss.length t ts w1 W3 (j + 1) v7 (w7.setCell ⟨w1.heap.size + 1, 0, none⟩ (.slice a6 n6' c6))) := M7.store (by omega) HA6.out.2 SQ6.out WQ6.out CK8.out
                    replace N : (w7.setCell ⟨w1.heap.size + 1, 0, none⟩ (.slice a6 n6' c6)).cell? ⟨qb, qo + 6, none⟩ = some (.slice ta3 tj.ks.length tc3) := (cell_other (.inl (by omega)) _).trans N
                    refine hK.out _ _ N (fun hHeld => ?_)
                    clear hK K hHeld
                    try simp only [Act.put, List.setIfInBounds_toArray, List.set_cons_zero, List.set_cons_succ]
                    clear y5 yf N M7
                    generalize w7.setCell ⟨w1.heap.size + 1, 0, none⟩ (.slice a6 n6' c6) = w8 at *
                    refine wpAnyH_done (by kernel_rfl) ?_ _
                    rename ∀ (a : Act) (w : World), Code.wpIn _ _ _ (Code.region 15 _ _) _ a w → _ => hKx
                    refine hKx _ _ ?_
                    clear hKx CK8 SQ6 WQ6 HA6 e14 HBE HBN HNW H5X HKX H55 HK5 HQ5 HW5 HSJ HNJ HFW HNO HTJ HD
                    gi_wp2
                    go_roundw
                    case rel => exact ⟨j + 1, by omega, by go_num, HK8⟩
                    case measure => simp [intOf]; omega
                  · have y5 := M6.h5.cell
                    go_simp
                    refine hK.out _ _ N (fun hHeld => ?_)
                    clear hK K hHeld
                    try simp only [Act.put, List.setIfInBounds_toArray, List.set_cons_zero, List.set_cons_succ]
                    clear y5
                    refine takeW (i := 10) (v := .slice a6 n6' c6) (by simp only [List.getElem?_toArray, List.getElem?_cons_succ, List.getElem?_cons_zero]; exact rfl) (by kernel_rfl) (by kernel_rfl) (by kernel_rfl) (by exact fun _ _ _ h => h) (by rfl) (by intro wq hSw; simp [execOp, Act.eval, e14]) (by assumption) ?_
                    try simp only [Act.put, List.setIfInBounds_toArray, List.set_cons_zero, List.set_cons_succ]
                    refine wpAnyH_ready (rs := [3]) (by kernel_rfl) (by simp) (AllReadyH.cons (by simp only [List.getElem?_toArray, List.getElem?_cons_succ, List.getElem?_cons_zero]; exact rfl) (fun K hK => ?_) AllReadyH.nil)
                    refine wp_append_at (.tmp 52) (.tmp 54) 96 rfl W3.heap.size 63 iP (.pointer none) 1 8 Tryz.underlying96 hiP hP0 hP1 hP2 rfl (by decide) u8 ns.length (ns.map ptV) rfl M6.row ⟨zA, 0, none⟩ 1 _ ([((n5, 0) : Ptr)].map ptV) rfl rfl NW6 (onesTp _) (by unfold maxLen; omega) (by omega) (by have := M6.g.size; omega) ?_
                    intro v7 w7 R7 G7 A7
                    have M7 := M6.snoc R6 (RowWp.snoc R7) G7 A7 (by omega)
                    have nown : ∀ k, u8.ownBlock = some k → W3.heap.size ≤ k := fun k hk => (World.ownsRow.lt M6.row k hk).1
                    replace N : w7.cell? ⟨qb, qo + 6, none⟩ = some (.slice ta3 tj.ks.length tc3) := (World.cell?_of_block (a := ⟨qb, qo + 6, none⟩) (G7.block qb (by have := World.block_lt_of_cell? w6 _ N; exact this) (fun e => by have := nown _ e.symm; omega))).trans N
                    refine hK.out _ _ N (fun hHeld => ?_)
                    clear hK K hHeld
                    try simp only [Act.put, List.setIfInBounds_toArray, List.set_cons_zero, List.set_cons_succ]
                    clear R7 G7 A7 M6 R6 NW6
                    refine takeW (i := 11) (by simp only [List.getElem?_toArray, List.getElem?_cons_succ, List.getElem?_cons_zero]; exact rfl) (by kernel_rfl) (by kernel_rfl) (by kernel_rfl) (by exact fun _ _ _ h => h) (by rfl) (by intro wq hSw; go_simp <;> with_reducible rfl) (by assumption) ?_
                    try simp only [Act.put, List.setIfInBounds_toArray, List.set_cons_zero, List.set_cons_succ]
                    refine wpAnyH_ready (rs := [12]) (by kernel_rfl) (by simp) (AllReadyH.cons (by simp only [List.getElem?_toArray, List.getElem?_cons_succ, List.getElem?_cons_zero]; exact rfl) (fun K hK => ?_) AllReadyH.nil)
                    have y5 := M7.h5.cell
                    have yf := M7.h5.pl.fr 0
                    go_simp
                    have HK8 : Hid (TK w1.heap.size (.slice a4 qss.length c4) qss.length t ts w1 W3 (j + 1) v7 (w7.setCell ⟨w1.heap.size + 1, 0, none⟩ (.slice a6 n6' c6))) := M7.store (by omega) HA6.out.2 SQ6.out WQ6.out CK8.out
                    replace N : (w7.setCell ⟨w1.heap.size + 1, 0, none⟩ (.slice a6 n6' c6)).cell? ⟨qb, qo + 6, none⟩ = some (.slice ta3 tj.ks.length tc3) := (cell_other (.inl (by omega)) _).trans N
                    refine hK.out _ _ N (fun hHeld => ?_)
                    clear hK K hHeld
                    try simp only [Act.put, List.setIfInBounds_toArray, List.set_cons_zero, List.set_cons_succ]
                    clear y5 yf N M7
                    generalize w7.setCell ⟨w1.heap.size + 1, 0, none⟩ (.slice a6 n6' c6) = w8 at *
                    refine wpAnyH_done (by kernel_rfl) ?_ _
                    rename ∀ (a : Act) (w : World), Code.wpIn _ _ _ (Code.region 15 _ _) _ a w → _ => hKx
                    refine hKx _ _ ?_
                    clear hKx CK8 SQ6 WQ6 HA6 e14 HBE HBN HNW H5X HKX H55 HK5 HQ5 HW5 HSJ HNJ HFW HNO HTJ HD
                    gi_wp2
                    go_roundw
                    case rel => exact ⟨j + 1, by omega, by go_num, HK8⟩
                    case measure => simp [intOf]; omega
                · have y5 := M5.out.h5.cell
                  go_simp
                  refine hK.out _ _ N (fun hHeld => ?_)
                  clear hK K hHeld
                  try simp only [Act.put, List.setIfInBounds_toArray, List.set_cons_zero, List.set_cons_succ]
                  clear y5
                  refine takeW (i := 10) (v := .slice a6 n6' c6) (by simp only [List.getElem?_toArray, List.getElem?_cons_succ, List.getElem?_cons_zero]; exact rfl) (by kernel_rfl) (by kernel_rfl) (by kernel_rfl) (by exact fun _ _ _ h => h) (by rfl) (by intro wq hSw; simp [execOp, Act.eval, e14]) (by assumption) ?_
                  try simp only [Act.put, List.setIfInBounds_toArray, List.set_cons_zero, List.set_cons_succ]
                  refine wpAnyH_ready (rs := [2]) (by kernel_rfl) (by simp) (AllReadyH.cons (by simp only [List.getElem?_toArray, List.getElem?_cons_succ, List.getElem?_cons_zero]; exact rfl) (fun K hK => ?_) AllReadyH.nil)
                  go_simp
                  have bq := below1 ww0 (.cells #[.pointer (some ⟨n5, 0, none⟩)] 63)
                  have NW6 := one_newTp ww0 63 n5 0
                  have M6 := M5.out.below bq
                  have R6 := (RN5.out).kp (Kp.below bq)
                  replace N := bat bq N
                  refine hK.out _ _ N (fun hHeld => ?_)
                  clear hK K hHeld
                  try simp only [Act.put, List.setIfInBounds_toArray, List.set_cons_zero, List.set_cons_succ]
                  generalize hzA : ww0.heap.size = zA at *
                  generalize ww0.alloc (.cells #[.pointer (some ⟨n5, 0, none⟩)] 63) = w6 at *
                  clear bq
                  refine wpAnyH_ready (rs := [3]) (by kernel_rfl) (by simp) (AllReadyH.cons (by simp only [List.getElem?_toArray, List.getElem?_cons_succ, List.getElem?_cons_zero]; exact rfl) (fun K hK => ?_) AllReadyH.nil)
                  refine wp_append_at (.tmp 52) (.tmp 54) 96 rfl W3.heap.size 63 iP (.pointer none) 1 8 Tryz.underlying96 hiP hP0 hP1 hP2 rfl (by decide) u8 ns.length (ns.map ptV) rfl M6.row ⟨zA, 0, none⟩ 1 _ ([((n5, 0) : Ptr)].map ptV) rfl rfl NW6 (onesTp _) (by unfold maxLen; omega) (by omega) (by have := M6.g.size; omega) ?_
                  intro v7 w7 R7 G7 A7
                  have M7 := M6.snoc R6 (RowWp.snoc R7) G7 A7 (by omega)
                  have nown : ∀ k, u8.ownBlock = some k → W3.heap.size ≤ k := fun k hk => (World.ownsRow.lt M6.row k hk).1
                  replace N : w7.cell? ⟨qb, qo + 6, none⟩ = some (.slice ta3 tj.ks.length tc3) := (World.cell?_of_block (a := ⟨qb, qo + 6, none⟩) (G7.block qb (by have := World.block_lt_of_cell? w6 _ N; exact this) (fun e => by have := nown _ e.symm; omega))).trans N
                  refine hK.out _ _ N (fun hHeld => ?_)
                  clear hK K hHeld
                  try simp only [Act.put, List.setIfInBounds_toArray, List.set_cons_zero, List.set_cons_succ]
                  clear R7 G7 A7 M6 R6 NW6
                  refine takeW (i := 11) (by simp only [List.getElem?_toArray, List.getElem?_cons_succ, List.getElem?_cons_zero]; exact rfl) (by kernel_rfl) (by kernel_rfl) (by kernel_rfl) (by exact fun _ _ _ h => h) (by rfl) (by intro wq hSw; go_simp <;> with_reducible rfl) (by assumption) ?_
                  try simp only [Act.put, List.setIfInBounds_toArray, List.set_cons_zero, List.set_cons_succ]
                  refine wpAnyH_ready (rs := [12]) (by kernel_rfl) (by simp) (AllReadyH.cons (by simp only [List.getElem?_toArray, List.getElem?_cons_succ, List.getElem?_cons_zero]; exact rfl) (fun K hK => ?_) AllReadyH.nil)
                  have y5 := M7.h5.cell
                  have yf := M7.h5.pl.fr 0
                  go_simp
                  have HK8 : Hid (TK w1.heap.size (.slice a4 qss.length c4) qss.length t ts w1 W3 (j + 1) v7 (w7.setCell ⟨w1.heap.size + 1, 0, none⟩ (.slice a6 n6' c6))) := M7.store (by omega) HA6.out.2 SQ6.out WQ6.out CK8.out
                  replace N : (w7.setCell ⟨w1.heap.size + 1, 0, none⟩ (.slice a6 n6' c6)).cell? ⟨qb, qo + 6, none⟩ = some (.slice ta3 tj.ks.length tc3) := (cell_other (.inl (by omega)) _).trans N
                  refine hK.out _ _ N (fun hHeld => ?_)
                  clear hK K hHeld
                  try simp only [Act.put, List.setIfInBounds_toArray, List.set_cons_zero, List.set_cons_succ]
                  clear y5 yf N M7
                  generalize w7.setCell ⟨w1.heap.size + 1, 0, none⟩ (.slice a6 n6' c6) = w8 at *
                  refine wpAnyH_done (by kernel_rfl) ?_ _
                  rename ∀ (a : Act) (w : World), Code.wpIn _ _ _ (Code.region 15 _ _) _ a w → _ => hKx
                  refine hKx _ _ ?_
                  clear hKx CK8 SQ6 WQ6 HA6 e14 HBE HBN HNW H5X HKX H55 HK5 HQ5 HW5 HSJ HNJ HFW HNO HTJ HD
                  gi_wp2
                  go_roundw
                  case rel => exact ⟨j + 1, by omega, by go_num, HK8⟩
                  case measure => simp [intOf]; omega
              · have F9 : Hid (okT t = false) := HNO.out (fun h => by rcases (HFW.out.1 h).2 with e | e; · omega
                                                                      · exact e ⟨h01, h02⟩)
                have hLt : decide ((1 : Int) < (qss.length : Int)) = true := decide_eq_true (by omega)
                clear hL h01 h02
                have N : Below w5.heap.size w5 w5.drew := (Below.refl _ _).drew
                refine wpIn_region_round (S := fun w' => Below w5.heap.size w5 w') (by kernel_rfl) (by kernel_rfl) (fun a w h => h) N (fun hHeld => ?_)
                clear hHeld
                generalize w5.drew = ww0 at *
                refine takeW (i := 0) (by simp only [List.getElem?_toArray, List.getElem?_cons_zero]; exact rfl) (by kernel_rfl) (by kernel_rfl) (by kernel_rfl) (by exact fun _ _ _ h => h) (by rfl) (by intro wq hSw; go_simp <;> with_reducible rfl) (by assumption) ?_
                try simp only [Act.put, List.setIfInBounds_toArray, List.set_cons_zero, List.set_cons_succ]
                refine takeW (i := 1) (by simp only [List.getElem?_toArray, List.getElem?_cons_succ, List.getElem?_cons_zero]; exact rfl) (by kernel_rfl) (by kernel_rfl) (by kernel_rfl) (by exact fun _ _ _ h => h) (by rfl) (by intro wq hSw; go_simp <;> with_reducible rfl) (by assumption) ?_
                try simp only [Act.put, List.setIfInBounds_toArray, List.set_cons_zero, List.set_cons_succ]
                refine takeW (i := 2) (by simp only [List.getElem?_toArray, List.getElem?_cons_succ, List.getElem?_cons_zero]; exact rfl) (by kernel_rfl) (by kernel_rfl) (by kernel_rfl) (by exact fun _ _ _ h => h) (by rfl) (by intro wq hSw; go_simp <;> with_reducible rfl) (by assumption) ?_
                try simp only [Act.put, List.setIfInBounds_toArray, List.set_cons_zero, List.set_cons_succ]
                refine takeW (i := 3) (by simp only [List.getElem?_toArray, List.getElem?_cons_succ, List.getElem?_cons_zero]; exact rfl) (by kernel_rfl) (by kernel_rfl) (by kernel_rfl) (by exact fun _ _ _ h => h) (by rfl) (by intro wq hSw; have y0 := bat hSw n0; have y1 := bat hSw n1; have y2 := bat hSw n2; have y3 := bat hSw n3; go_simp <;> with_reducible rfl) (by assumption) ?_
                try simp only [Act.put, List.setIfInBounds_toArray, List.set_cons_zero, List.set_cons_succ]
                refine takeW (i := 4) (by simp only [List.getElem?_toArray, List.getElem?_cons_succ, List.getElem?_cons_zero]; exact rfl) (by kernel_rfl) (by kernel_rfl) (by kernel_rfl) (by exact fun _ _ _ h => h) (by rfl) (by intro wq hSw; go_simp <;> with_reducible rfl) (by assumption) ?_
                try simp only [Act.put, List.setIfInBounds_toArray, List.set_cons_zero, List.set_cons_succ]
                refine takeW (i := 5) (by simp only [List.getElem?_toArray, List.getElem?_cons_succ, List.getElem?_cons_zero]; exact rfl) (by kernel_rfl) (by kernel_rfl) (by kernel_rfl) (by exact fun _ _ _ h => h) (by rfl) (by intro wq hSw; go_simp <;> with_reducible rfl) (by assumption) ?_
                try simp only [Act.put, List.setIfInBounds_toArray, List.set_cons_zero, List.set_cons_succ]
                refine takeW (i := 6) (by simp only [List.getElem?_toArray, List.getElem?_cons_succ, List.getElem?_cons_zero]; exact rfl) (by kernel_rfl) (by kernel_rfl) (by kernel_rfl) (by exact fun _ _ _ h => h) (by rfl) (by intro wq hSw; go_simp <;> with_reducible rfl) (by assumption) ?_
                try simp only [Act.put, List.setIfInBounds_toArray, List.set_cons_zero, List.set_cons_succ]
                refine takeW (i := 7) (by simp only [List.getElem?_toArray, List.getElem?_cons_succ, List.getElem?_cons_zero]; exact rfl) (by kernel_rfl) (by kernel_rfl) (by kernel_rfl) (by exact fun _ _ _ h => h) (by rfl) (by intro wq hSw; have y0 := bat hSw z0'; have y1 := bat hSw z1'; have y2 := bat hSw z2'; have y3 := bat hSw z3'; go_simp <;> with_reducible rfl) (by assumption) ?_
                try simp only [Act.put, List.setIfInBounds_toArray, List.set_cons_zero, List.set_cons_succ]
                refine takeW (i := 8) (by simp only [List.getElem?_toArray, List.getElem?_cons_succ, List.getElem?_cons_zero]; exact rfl) (by kernel_rfl) (by kernel_rfl) (by kernel_rfl) (by exact fun _ _ _ h => h) (by rfl) (by intro wq hSw; go_simp <;> with_reducible rfl) (by assumption) ?_
                try simp only [Act.put, List.setIfInBounds_toArray, List.set_cons_zero, List.set_cons_succ]
                refine takeW (i := 9) (by simp only [List.getElem?_toArray, List.getElem?_cons_succ, List.getElem?_cons_zero]; exact rfl) (by kernel_rfl) (by kernel_rfl) (by kernel_rfl) (by exact fun _ _ _ h => h) (by rfl) (by intro wq hSw; go_simp <;> with_reducible rfl) (by assumption) ?_
                try simp only [Act.put, List.setIfInBounds_toArray, List.set_cons_zero, List.set_cons_succ]
                refine takeW (i := 10) (by simp only [List.getElem?_toArray, List.getElem?_cons_succ, List.getElem?_cons_zero]; exact rfl) (by kernel_rfl) (by kernel_rfl) (by kernel_rfl) (by exact fun _ _ _ h => h) (by rfl) (by intro wq hSw; go_simp <;> with_reducible rfl) (by assumption) ?_
                try simp only [Act.put, List.setIfInBounds_toArray, List.set_cons_zero, List.set_cons_succ]
                refine wpAnyH_ready (rs := [11]) (by kernel_rfl) (by simp) (AllReadyH.cons (by simp only [List.getElem?_toArray, List.getElem?_cons_succ, List.getElem?_cons_zero]; exact rfl) (fun K hK => ?_) AllReadyH.nil)
                go_simp
                refine (EM _ N).mono ?_
                rintro e w6 ⟨rfl, rfl⟩
                refine hK.out _ _ N (fun hHeld => ?_)
                clear hK K hHeld
                try simp only [Act.put, List.setIfInBounds_toArray, List.set_cons_zero, List.set_cons_succ]
                refine takeW (i := 12) (by simp only [List.getElem?_toArray, List.getElem?_cons_succ, List.getElem?_cons_zero]; exact rfl) (by kernel_rfl) (by kernel_rfl) (by kernel_rfl) (by exact fun _ _ _ h => h) (by rfl) (by intro wq hSw; go_simp <;> with_reducible rfl) (by assumption) ?_
                try simp only [Act.put, List.setIfInBounds_toArray, List.set_cons_zero, List.set_cons_succ]
                refine takeW (i := 13) (by simp only [List.getElem?_toArray, List.getElem?_cons_succ, List.getElem?_cons_zero]; exact rfl) (by kernel_rfl) (by kernel_rfl) (by kernel_rfl) (by exact fun _ _ _ h => h) (by rfl) (by intro wq hSw; have y4 := bat hSw c40; go_simp <;> with_reducible rfl) (by assumption) ?_
                try simp only [Act.put, List.setIfInBounds_toArray, List.set_cons_zero, List.set_cons_succ]
                refine takeW (i := 14) (by simp only [List.getElem?_toArray, List.getElem?_cons_succ, List.getElem?_cons_zero]; exact rfl) (by kernel_rfl) (by kernel_rfl) (by kernel_rfl) (by exact fun _ _ _ h => h) (by rfl) (by intro wq hSw; go_simp <;> with_reducible rfl) (by assumption) ?_
                try simp only [Act.put, List.setIfInBounds_toArray, List.set_cons_zero, List.set_cons_succ]
                refine takeW (i := 15) (by simp only [List.getElem?_toArray, List.getElem?_cons_succ, List.getElem?_cons_zero]; exact rfl) (by kernel_rfl) (by kernel_rfl) (by kernel_rfl) (by exact fun _ _ _ h => h) (by rfl) (by intro wq hSw; go_simp <;> with_reducible rfl) (by assumption) ?_
                try simp only [Act.put, List.setIfInBounds_toArray, List.set_cons_zero, List.set_cons_succ]
                refine takeW (i := 16) (by simp only [List.getElem?_toArray, List.getElem?_cons_succ, List.getElem?_cons_zero]; exact rfl) (by kernel_rfl) (by kernel_rfl) (by kernel_rfl) (by exact fun _ _ _ h => h) (by rfl) (by intro wq hSw; go_simp <;> with_reducible rfl) (by assumption) ?_
                try simp only [Act.put, List.setIfInBounds_toArray, List.set_cons_zero, List.set_cons_succ]
                refine takeW (i := 17) (by simp only [List.getElem?_toArray, List.getElem?_cons_succ, List.getElem?_cons_zero]; exact rfl) (by kernel_rfl) (by kernel_rfl) (by kernel_rfl) (by exact fun _ _ _ h => h) (by rfl) (by intro wq hSw; go_simp <;> with_reducible rfl) (by assumption) ?_
                try simp only [Act.put, List.setIfInBounds_toArray, List.set_cons_zero, List.set_cons_succ]
                refine wpAnyH_done (by kernel_rfl) ?_ _
                have HKX : Hid (TK w1.heap.size (.slice a4 qss.length c4) qss.length t ts w1 W3 j u8 w6) := HK5.out.below N
                clear N
                have A9 : Above (w1.heap.size + 3) W3 ((w6.setCell ⟨w.heap.size + 1, 0, none⟩ (.pointer none)).setCell ⟨w.heap.size + 1 + 1, 0, none⟩ (.bool false)) := ((Above.ofGrown HKX.out.g (by omega)).setCell (p := ⟨w.heap.size + 1, 0, none⟩) (by show w.heap.size + 1 < _; omega) _).setCell (p := ⟨w.heap.size + 1 + 1, 0, none⟩) (by show w.heap.size + 1 + 1 < _; omega) _
                have bl9 := HKX.out.ti.bel
                have s2 := bat bl9 r2
                have s3 := bat bl9 r3
                have f2 := (World.frozen?_of_block (a := ⟨w.heap.size + 1, 0, none⟩) (bl9.block _ (by show w.heap.size + 1 < w1.heap.size; omega))).trans rf2
                have f3 := (World.frozen?_of_block (a := ⟨w.heap.size + 1 + 1, 0, none⟩) (bl9.block _ (by show w.heap.size + 1 + 1 < w1.heap.size; omega))).trans rf3
                have D9 : TD w.heap.size w ((w6.setCell ⟨w.heap.size + 1, 0, none⟩ (.pointer none)).setCell ⟨w.heap.size + 1 + 1, 0, none⟩ (.bool false)) := ⟨(cell_other (.inl (by omega)) _).trans (cell_same s2 _), cell_same ((cell_other (.inl (by omega)) _).trans s3) _, ((B.trans (bl9.mono (by omega))).setCell (p := ⟨w.heap.size + 1, 0, none⟩) (by show w.heap.size ≤ w.heap.size + 1; omega) _).setCell (p := ⟨w.heap.size + 1 + 1, 0, none⟩) (by show w.heap.size ≤ w.heap.size + 1 + 1; omega) _⟩
                clear bl9
                gi_wp2_with fail
                exact ⟨A9, D9, F9.out⟩
          · have F9 : Hid (okT t = false) := HNO.out (fun h => HBN.out rfl (HFW.out.1 h).1.2)
            have N : Below w5.heap.size w5 w5.drew := (Below.refl _ _).drew
            refine wpIn_region_round (S := fun w' => Below w5.heap.size w5 w') (by kernel_rfl) (by kernel_rfl) (fun a w h => h) N (fun hHeld => ?_)
            clear hHeld
            generalize w5.drew = ww0 at *
            refine takeW (i := 0) (by simp only [List.getElem?_toArray, List.getElem?_cons_zero]; exact rfl) (by kernel_rfl) (by kernel_rfl) (by kernel_rfl) (by exact fun _ _ _ h => h) (by rfl) (by intro wq hSw; go_simp <;> with_reducible rfl) (by assumption) ?_
            try simp only [Act.put, List.setIfInBounds_toArray, List.set_cons_zero, List.set_cons_succ]
            refine takeW (i := 1) (by simp only [List.getElem?_toArray, List.getElem?_cons_succ, List.getElem?_cons_zero]; exact rfl) (by kernel_rfl) (by kernel_rfl) (by kernel_rfl) (by exact fun _ _ _ h => h) (by rfl) (by intro wq hSw; go_simp <;> with_reducible rfl) (by assumption) ?_
            try simp only [Act.put, List.setIfInBounds_toArray, List.set_cons_zero, List.set_cons_succ]
            refine takeW (i := 2) (by simp only [List.getElem?_toArray, List.getElem?_cons_succ, List.getElem?_cons_zero]; exact rfl) (by kernel_rfl) (by kernel_rfl) (by kernel_rfl) (by exact fun _ _ _ h => h) (by rfl) (by intro wq hSw; go_simp <;> with_reducible rfl) (by assumption) ?_
            try simp only [Act.put, List.setIfInBounds_toArray, List.set_cons_zero, List.set_cons_succ]
            refine takeW (i := 3) (by simp only [List.getElem?_toArray, List.getElem?_cons_succ, List.getElem?_cons_zero]; exact rfl) (by kernel_rfl) (by kernel_rfl) (by kernel_rfl) (by exact fun _ _ _ h => h) (by rfl) (by intro wq hSw; have y0 := bat hSw n0; have y1 := bat hSw n1; have y2 := bat hSw n2; have y3 := bat hSw n3; go_simp <;> with_reducible rfl) (by assumption) ?_
            try simp only [Act.put, List.setIfInBounds_toArray, List.set_cons_zero, List.set_cons_succ]
            refine takeW (i := 4) (by simp only [List.getElem?_toArray, List.getElem?_cons_succ, List.getElem?_cons_zero]; exact rfl) (by kernel_rfl) (by kernel_rfl) (by kernel_rfl) (by exact fun _ _ _ h => h) (by rfl) (by intro wq hSw; go_simp <;> with_reducible rfl) (by assumption) ?_
            try simp only [Act.put, List.setIfInBounds_toArray, List.set_cons_zero, List.set_cons_succ]
            refine takeW (i := 5) (by simp only [List.getElem?_toArray, List.getElem?_cons_succ, List.getElem?_cons_zero]; exact rfl) (by kernel_rfl) (by kernel_rfl) (by kernel_rfl) (by exact fun _ _ _ h => h) (by rfl) (by intro wq hSw; go_simp <;> with_reducible rfl) (by assumption) ?_
            try simp only [Act.put, List.setIfInBounds_toArray, List.set_cons_zero, List.set_cons_succ]
            refine takeW (i := 6) (by simp only [List.getElem?_toArray, List.getElem?_cons_succ, List.getElem?_cons_zero]; exact rfl) (by kernel_rfl) (by kernel_rfl) (by kernel_rfl) (by exact fun _ _ _ h => h) (by rfl) (by intro wq hSw; go_simp <;> with_reducible rfl) (by assumption) ?_
            try simp only [Act.put, List.setIfInBounds_toArray, List.set_cons_zero, List.set_cons_succ]
            refine takeW (i := 7) (by simp only [List.getElem?_toArray, List.getElem?_cons_succ, List.getElem?_cons_zero]; exact rfl) (by kernel_rfl) (by kernel_rfl) (by kernel_rfl) (by exact fun _ _ _ h => h) (by rfl) (by intro wq hSw; have y0 := bat hSw z0'; have y1 := bat hSw z1'; have y2 := bat hSw z2'; have y3 := bat hSw z3'; go_simp <;> with_reducible rfl) (by assumption) ?_
            try simp only [Act.put, List.setIfInBounds_toArray, List.set_cons_zero, List.set_cons_succ]
            refine takeW (i := 8) (by simp only [List.getElem?_toArray, List.getElem?_cons_succ, List.getElem?_cons_zero]; exact rfl) (by kernel_rfl) (by kernel_rfl) (by kernel_rfl) (by exact fun _ _ _ h => h) (by rfl) (by intro wq hSw; go_simp <;> with_reducible rfl) (by assumption) ?_
            try simp only [Act.put, List.setIfInBounds_toArray, List.set_cons_zero, List.set_cons_succ]
            refine takeW (i := 9) (by simp only [List.getElem?_toArray, List.getElem?_cons_succ, List.getElem?_cons_zero]; exact rfl) (by kernel_rfl) (by kernel_rfl) (by kernel_rfl) (by exact fun _ _ _ h => h) (by rfl) (by intro wq hSw; go_simp <;> with_reducible rfl) (by assumption) ?_
            try simp only [Act.put, List.setIfInBounds_toArray, List.set_cons_zero, List.set_cons_succ]
            refine takeN (i := 10) (by simp only [List.getElem?_toArray, List.getElem?_cons_succ, List.getElem?_cons_zero]; exact rfl) (by kernel_rfl) (by kernel_rfl) (by kernel_rfl) (by exact fun _ _ _ h => h) (by rfl) (by assumption) ?_
            try simp only [Act.put, List.setIfInBounds_toArray, List.set_cons_zero, List.set_cons_succ]
            refine takeN (i := 11) (by simp only [List.getElem?_toArray, List.getElem?_cons_succ, List.getElem?_cons_zero]; exact rfl) (by kernel_rfl) (by kernel_rfl) (by kernel_rfl) (by exact fun _ _ _ h => h) (by rfl) (by assumption) ?_
            try simp only [Act.put, List.setIfInBounds_toArray, List.set_cons_zero, List.set_cons_succ]
            refine takeN (i := 12) (by simp only [List.getElem?_toArray, List.getElem?_cons_succ, List.getElem?_cons_zero]; exact rfl) (by kernel_rfl) (by kernel_rfl) (by kernel_rfl) (by exact fun _ _ _ h => h) (by rfl) (by assumption) ?_
            try simp only [Act.put, List.setIfInBounds_toArray, List.set_cons_zero, List.set_cons_succ]
            refine takeN (i := 13) (by simp only [List.getElem?_toArray, List.getElem?_cons_succ, List.getElem?_cons_zero]; exact rfl) (by kernel_rfl) (by kernel_rfl) (by kernel_rfl) (by exact fun _ _ _ h => h) (by rfl) (by assumption) ?_
            try simp only [Act.put, List.setIfInBounds_toArray, List.set_cons_zero, List.set_cons_succ]
            refine takeN (i := 14) (by simp only [List.getElem?_toArray, List.getElem?_cons_succ, List.getElem?_cons_zero]; exact rfl) (by kernel_rfl) (by kernel_rfl) (by kernel_rfl) (by exact fun _ _ _ h => h) (by rfl) (by assumption) ?_
            try simp only [Act.put, List.setIfInBounds_toArray, List.set_cons_zero, List.set_cons_succ]
            refine takeN (i := 15) (by simp only [List.getElem?_toArray, List.getElem?_cons_succ, List.getElem?_cons_zero]; exact rfl) (by kernel_rfl) (by kernel_rfl) (by kernel_rfl) (by exact fun _ _ _ h => h) (by rfl) (by assumption) ?_
            try simp only [Act.put, List.setIfInBounds_toArray, List.set_cons_zero, List.set_cons_succ]
            refine takeN (i := 16) (by simp only [List.getElem?_toArray, List.getElem?_cons_succ, List.getElem?_cons_zero]; exact rfl) (by kernel_rfl) (by kernel_rfl) (by kernel_rfl) (by exact fun _ _ _ h => h) (by rfl) (by assumption) ?_
            try simp only [Act.put, List.setIfInBounds_toArray, List.set_cons_zero, List.set_cons_succ]
            refine takeW (i := 17) (by simp only [List.getElem?_toArray, List.getElem?_cons_succ, List.getElem?_cons_zero]; exact rfl) (by kernel_rfl) (by kernel_rfl) (by kernel_rfl) (by exact fun _ _ _ h => h) (by rfl) (by intro wq hSw; go_simp <;> with_reducible rfl) (by assumption) ?_
            try simp only [Act.put, List.setIfInBounds_toArray, List.set_cons_zero, List.set_cons_succ]
            refine wpAnyH_done (by kernel_rfl) ?_ _
            have HKX : Hid (TK w1.heap.size (.slice a4 qss.length c4) qss.length t ts w1 W3 j u8 ww0) := HK5.out.below N
            clear N
            have A9 : Above (w1.heap.size + 3) W3 ((ww0.setCell ⟨w.heap.size + 1, 0, none⟩ (.pointer none)).setCell ⟨w.heap.size + 1 + 1, 0, none⟩ (.bool false)) := ((Above.ofGrown HKX.out.g (by omega)).setCell (p := ⟨w.heap.size + 1, 0, none⟩) (by show w.heap.size + 1 < _; omega) _).setCell (p := ⟨w.heap.size + 1 + 1, 0, none⟩) (by show w.heap.size + 1 + 1 < _; omega) _
            have bl9 := HKX.out.ti.bel
            have s2 := bat bl9 r2
            have s3 := bat bl9 r3
            have f2 := (World.frozen?_of_block (a := ⟨w.heap.size + 1, 0, none⟩) (bl9.block _ (by show w.heap.size + 1 < w1.heap.size; omega))).trans rf2
            have f3 := (World.frozen?_of_block (a := ⟨w.heap.size + 1 + 1, 0, none⟩) (bl9.block _ (by show w.heap.size + 1 + 1 < w1.heap.size; omega))).trans rf3
            have D9 : TD w.heap.size w ((ww0.setCell ⟨w.heap.size + 1, 0, none⟩ (.pointer none)).setCell ⟨w.heap.size + 1 + 1, 0, none⟩ (.bool false)) := ⟨(cell_other (.inl (by omega)) _).trans (cell_same s2 _), cell_same ((cell_other (.inl (by omega)) _).trans s3) _, ((B.trans (bl9.mono (by omega))).setCell (p := ⟨w.heap.size + 1, 0, none⟩) (by show w.heap.size ≤ w.heap.size + 1; omega) _).setCell (p := ⟨w.heap.size + 1 + 1, 0, none⟩) (by show w.heap.size ≤ w.heap.size + 1 + 1; omega) _⟩
            clear bl9
            gi_wp2_with fail
            exact ⟨A9, D9, F9.out⟩
        · have F9 : Hid (okT t = false) := HNO.out (fun h => by have := (HFW.out.1 h).1.1; rw [hfw.out] at this; cases this)
          have A9 : Above (w1.heap.size + 3) W3 ((w4.setCell ⟨w.heap.size + 1, 0, none⟩ (.pointer none)).setCell ⟨w.heap.size + 1 + 1, 0, none⟩ (.bool false)) := ((Above.ofGrown HK4.out.g (by omega)).setCell (p := ⟨w.heap.size + 1, 0, none⟩) (by show w.heap.size + 1 < _; omega) _).setCell (p := ⟨w.heap.size + 1 + 1, 0, none⟩) (by show w.heap.size + 1 + 1 < _; omega) _
          have bl9 := HK4.out.ti.bel
          have s2 := bat bl9 r2
          have s3 := bat bl9 r3
          have f2 := (World.frozen?_of_block (a := ⟨w.heap.size + 1, 0, none⟩) (bl9.block _ (by show w.heap.size + 1 < w1.heap.size; omega))).trans rf2
          have f3 := (World.frozen?_of_block (a := ⟨w.heap.size + 1 + 1, 0, none⟩) (bl9.block _ (by show w.heap.size + 1 + 1 < w1.heap.size; omega))).trans rf3
          have D9 : TD w.heap.size w ((w4.setCell ⟨w.heap.size + 1, 0, none⟩ (.pointer none)).setCell ⟨w.heap.size + 1 + 1, 0, none⟩ (.bool false)) := ⟨(cell_other (.inl (by omega)) _).trans (cell_same s2 _), cell_same ((cell_other (.inl (by omega)) _).trans s3) _, ((B.trans (bl9.mono (by omega))).setCell (p := ⟨w.heap.size + 1, 0, none⟩) (by show w.heap.size ≤ w.heap.size + 1; omega) _).setCell (p := ⟨w.heap.size + 1 + 1, 0, none⟩) (by show w.heap.size ≤ w.heap.size + 1 + 1; omega) _⟩
          clear bl9
          gi_wp2_with fail
          exact ⟨A9, D9, F9.out⟩
      · obtain rfl : j = ts.length := by omega
        have K3 : Kp W3 wr := HK.out.kp (by obtain ⟨_, _, lw, _⟩ := J3.out; obtain ⟨a, c, qs, h5, _⟩ := lw; exact ⟨a, _, c, h5⟩)
        obtain ⟨a8, c8, ns, rfl, ti9, g9, b9, s9, l9⟩ := HK.out.level K3
        obtain ⟨a5, c5, q5, h5, _⟩ := HK.out.lw
        have y5 := h5.cell
        have yf := h5.pl.fr 0
        have F9 : Hid (TJ w1.heap.size (.slice a4 qss.length c4) qss.length t w1 s' (wr.setCell ⟨w1.heap.size + 1, 0, none⟩ (.slice a8 ns.length c8))) := HCH.out _ ti9 ⟨a8, c8, ns, b9, s9, l9⟩ HK.out.ck
        have A9 : Above (w1.heap.size + 3) W3 (wr.setCell ⟨w1.heap.size + 1, 0, none⟩ (.slice a8 ns.length c8)) := Above.ofGrown g9 (by omega)
        clear HK ti9 g9 b9 s9 l9 h5 K3
        gi_wp2
        exact ⟨A9, F9⟩
  case done =>
    rintro s W rfl HJ hk
    rw [zL] at hk ⊢
    obtain ⟨ti, _, ⟨a5, c5, q5, h5, S5, L5⟩, ck⟩ := HJ.out
    have y5 := h5.cell
    have sz := ti.sz
    have s2 := bat ti.bel r2
    have s3 := bat ti.bel r3
    have f2 := (World.frozen?_of_block (a := ⟨w.heap.size + 1, 0, none⟩) (ti.bel.block _ (by show w.heap.size + 1 < w1.heap.size; omega))).trans rf2
    have f3 := (World.frozen?_of_block (a := ⟨w.heap.size + 1 + 1, 0, none⟩) (ti.bel.block _ (by show w.heap.size + 1 + 1 < w1.heap.size; omega))).trans rf3
    have BW := B.trans (ti.bel.mono (by omega : w.heap.size ≤ w1.heap.size))
    have m5 := S5.max
    have mf5 := S5.fits
    unfold maxLen at m5
    have hk' : W.heap[w1.heap.size + 3]? = some (.deferred (some [])) := hk
    have fin : ∀ (X : World) (ad : Option Addr) (bb : Bool), X.heap[w1.heap.size + 3]? = some (.deferred (some [])) → X.cell? ⟨w.heap.size + 1, 0, none⟩ = some (.pointer ad) → X.cell? ⟨w.heap.size + 1 + 1, 0, none⟩ = some (.bool bb) → Below w.heap.size w X → Below w.heap.size w (X.putObj (w1.heap.size + 3) (.deferred none)) ∧ (X.putObj (w1.heap.size + 3) (.deferred none)).cell? ⟨w.heap.size + 1, 0, none⟩ = some (.pointer ad) ∧ (X.putObj (w1.heap.size + 3) (.deferred none)).cell? ⟨w.heap.size + 1 + 1, 0, none⟩ = some (.bool bb) := fun X ad bb hx x2 x3 xb => by
      have bp := belowPut X (B := w1.heap.size + 3) (Nat.le_refl _) (.deferred none)
      exact ⟨xb.trans (bp.mono (by omega)), (World.cell?_of_block (a := ⟨w.heap.size + 1, 0, none⟩) (bp.block _ (by show w.heap.size + 1 < _; omega))).trans x2, (World.cell?_of_block (a := ⟨w.heap.size + 1 + 1, 0, none⟩) (bp.block _ (by show w.heap.size + 1 + 1 < _; omega))).trans x3⟩
    have HFIN : Hid (∀ (X : World) (ad : Option Addr) (bb : Bool), X.heap[w1.heap.size + 3]? = some (.deferred (some [])) → X.cell? ⟨w.heap.size + 1, 0, none⟩ = some (.pointer ad) → X.cell? ⟨w.heap.size + 1 + 1, 0, none⟩ = some (.bool bb) → Below w.heap.size w X → Below w.heap.size w (X.putObj (w1.heap.size + 3) (.deferred none)) ∧ (X.putObj (w1.heap.size + 3) (.deferred none)).cell? ⟨w.heap.size + 1, 0, none⟩ = some (.pointer ad) ∧ (X.putObj (w1.heap.size + 3) (.deferred none)).cell? ⟨w.heap.size + 1 + 1, 0, none⟩ = some (.bool bb)) := fin
    clear ti h5 T0 fin hk
    rcases Nat.eq_zero_or_pos qss.length with hL | hL
    · have F9 : Hid (okT t = false) := okT_bad (HLB.out hL)
      have hq0 : q5.length = 0 := by
        have := L5.1
        rw [hL] at this
        exact this
      obtain rfl := List.eq_nil_of_length_eq_zero hq0
      have st : ∀ u1 u2, ((W.setCell ⟨w.heap.size + 1, 0, none⟩ u1).setCell ⟨w.heap.size + 1 + 1, 0, none⟩ u2).heap[w1.heap.size + 3]? = some (.deferred (some [])) := fun u1 u2 => by
        rw [Below.heap_setCell _ _ _ _ (by show w1.heap.size + 3 ≠ w.heap.size + 1 + 1; omega), Below.heap_setCell _ _ _ _ (by show w1.heap.size + 3 ≠ w.heap.size + 1; omega)]
        exact hk'
      obtain ⟨e1, e2, e3⟩ := HFIN.out ((W.setCell ⟨w.heap.size + 1, 0, none⟩ (.pointer none)).setCell ⟨w.heap.size + 1 + 1, 0, none⟩ (.bool false)) none false (st _ _) ((cell_other (.inl (by omega)) _).trans (cell_same s2 _)) (cell_same ((cell_other (.inl (by omega)) _).trans s3) _) ((BW.setCell (p := ⟨w.heap.size + 1, 0, none⟩) (by show w.heap.size ≤ w.heap.size + 1; omega) _).setCell (p := ⟨w.heap.size + 1 + 1, 0, none⟩) (by show w.heap.size ≤ w.heap.size + 1 + 1; omega) _)
      have ST := st (.pointer none) (.bool false)
      clear hL hq0 L5 S5 st
      gi_wp2_with fail
      refine ⟨trivial, ?_⟩
      gi_wp2_with fail
      refine ⟨by simp, .inl ⟨_, _, rfl, run_takeDeferred ST, ?_⟩⟩
      exact ⟨_, results_ptr_bool rfl _ _ _ _ none false rfl rfl e2 e3, none, by rw [F9.out], fun e => (by rw [F9.out] at e; cases e), e1⟩
    · obtain ⟨m, hm⟩ : ∃ m, qss.length = m + 1 := ⟨qss.length - 1, by omega⟩
      have hgd := HLG.out m hm
      have eB : lvB qss.length t 0 = [t] := if_pos hL
      rw [eB] at L5
      have hq1 : q5.length = 1 := L5.1
      obtain ⟨zq, WQ⟩ := L5.2 0 (by simp)
      have WT : WkAt W (ptAt q5 0).1 t := WQ
      obtain ⟨bb, oo, rfl, hcc⟩ := S5.cells (by rw [← List.length_pos_iff]; omega)
      have g5 := hcc 0 (by omega)
      rw [Nat.add_zero] at g5
      obtain ⟨qq, uq⟩ : ∃ qq, ptAt q5 0 = (qq, 0) := ⟨(ptAt q5 0).1, Prod.ext rfl zq⟩
      rw [uq] at WT g5
      unfold ptV at g5
      dsimp only at WT g5
      have CA := all_any qq m t W WT HS.out hgd
      have HWT : Hid (WkAt W qq t) := WT
      have HOK : Hid ((idN (lvl t m) (lvl t m).length).length ≤ 600 → okT t = true) := fun h => (okT_good hgd).2 ⟨fun k hk x hx => by have := ck k (Nat.zero_le _) (by omega) x hx; rw [hm, Nat.add_sub_cancel] at this; exact this, h⟩
      have HNK : Hid (¬ (idN (lvl t m) (lvl t m).length).length ≤ 600 → okT t = false) := fun h => by
        cases e : okT t with
        | false => rfl
        | true => exact absurd ((okT_good hgd).1 e).2 h
      clear hL hm eB L5 S5 zq WQ hcc uq WT ck hgd
      rw [hq1] at y5 mf5
      generalize idN (lvl t m) (lvl t m).length = ids at *
      have NE : ((1 : Int) == 0) = false := by decide
      gi_wp2_with fail
      refine ⟨trivial, ?_⟩
      refine (callsIn_wide.2 CA).mono ?_
      rintro e w5 ⟨v, rfl, RI, hb⟩
      obtain ⟨av, cv, rfl, _, _⟩ := RI.shape'
      have t2 := bat hb s2
      have t3 := bat hb s3
      have u2 := (World.frozen?_of_block (a := ⟨w.heap.size + 1, 0, none⟩) (hb.block _ (by show w.heap.size + 1 < _; omega))).trans f2
      have u3 := (World.frozen?_of_block (a := ⟨w.heap.size + 1 + 1, 0, none⟩) (hb.block _ (by show w.heap.size + 1 + 1 < _; omega))).trans f3
      have tk := (hb.block _ (Array.getElem?_eq_some_iff.1 hk').1).trans hk'
      have ty := bat hb y5
      have tg := bat hb g5
      have BX := BW.trans (hb.mono BW.size)
      have WX : Hid (WkAt w5 qq t) := WkAt.keep hb _ HWT.out
      have st : ∀ u1 u2, ((w5.setCell ⟨w.heap.size + 1, 0, none⟩ u1).setCell ⟨w.heap.size + 1 + 1, 0, none⟩ u2).heap[w1.heap.size + 3]? = some (.deferred (some [])) := fun u1 u2 => by
        rw [Below.heap_setCell _ _ _ _ (by show w1.heap.size + 3 ≠ w.heap.size + 1 + 1; omega), Below.heap_setCell _ _ _ _ (by show w1.heap.size + 3 ≠ w.heap.size + 1; omega)]
        exact tk
      have fin := fun (ad : Option Addr) (bb : Bool) => HFIN.out ((w5.setCell ⟨w.heap.size + 1, 0, none⟩ (.pointer ad)).setCell ⟨w.heap.size + 1 + 1, 0, none⟩ (.bool bb)) ad bb (st _ _) ((cell_other (.inl (by omega)) _).trans (cell_same t2 _)) (cell_same ((cell_other (.inl (by omega)) _).trans t3) _) ((BX.setCell (p := ⟨w.heap.size + 1, 0, none⟩) (by show w.heap.size ≤ w.heap.size + 1; omega) _).setCell (p := ⟨w.heap.size + 1 + 1, 0, none⟩) (by show w.heap.size ≤ w.heap.size + 1 + 1; omega) _)
      by_cases h6 : ids.length ≤ 600
      · have F9 : Hid (okT t = true) := HOK.out h6
        obtain ⟨e1, e2, e3⟩ := fin (some ⟨qq, 0, none⟩) true
        have ST := st (.pointer (some ⟨qq, 0, none⟩)) (.bool true)
        have WZ : Hid (WkAt (((w5.setCell ⟨w.heap.size + 1, 0, none⟩ (.pointer (some ⟨qq, 0, none⟩))).setCell ⟨w.heap.size + 1 + 1, 0, none⟩ (.bool true)).putObj (w1.heap.size + 3) (.deferred none)) qq t) := by
          have ka := Kp.put t2 (by simp [Rd]) (.pointer (some ⟨qq, 0, none⟩))
          have kb := Kp.put ((cell_other (w := w5) (p := w.heap.size + 1) (o := 0) (q := w.heap.size + 1 + 1) (i := 0) (.inl (by omega)) (.pointer (some ⟨qq, 0, none⟩))).trans t3) (by simp [Rd]) (.bool true)
          exact WkAt.kp ((ka.trans kb).trans (Kp.obj (fun _ _ _ e => by rw [st] at e; cases e) _)) _ WX.out
        have g6 : ¬ (600 : Int) < (ids.length : Int) := by omega
        clear fin st HFIN HOK HNK RI CA hb HWT WX s2 s3 f2 f3 y5 g5
        gi_wp2_with fail
        refine ⟨by simp, .inl ⟨_, _, rfl, run_takeDeferred ST, ?_⟩⟩
        exact ⟨_, results_ptr_bool rfl _ _ _ _ _ true rfl rfl e2 e3, some ⟨qq, 0, none⟩, by rw [F9.out], fun _ => ⟨qq, rfl, WZ.out⟩, e1⟩
      · have F9 : Hid (okT t = false) := HNK.out h6
        obtain ⟨e1, e2, e3⟩ := fin none false
        have ST := st (.pointer none) (.bool false)
        have g6 : (600 : Int) < (ids.length : Int) := by omega
        clear fin st HFIN HOK HNK RI CA hb HWT WX s2 s3 f2 f3 y5 g5
        gi_wp2_with fail
        refine ⟨by simp, .inl ⟨_, _, rfl, run_takeDeferred ST, ?_⟩⟩
        exact ⟨_, results_ptr_bool rfl _ _ _ _ none false rfl rfl e2 e3, none, by rw [F9.out], fun e => (by rw [F9.out] at e; cases e), e1⟩
  case ret =>
    rintro W ⟨⟨d2, d3, db⟩, F9⟩ hk
    rw [zL] at hk ⊢
    have bp := belowPut W (B := w1.heap.size + 3) (Nat.le_refl _) (.deferred none)
    have e2 := (World.cell?_of_block (a := ⟨w.heap.size + 1, 0, none⟩) (bp.block _ (by show w.heap.size + 1 < _; omega))).trans d2
    have e3 := (World.cell?_of_block (a := ⟨w.heap.size + 2, 0, none⟩) (bp.block _ (by show w.heap.size + 2 < _; omega))).trans d3
    refine ⟨by simp, .inl ⟨_, _, rfl, run_takeDeferred hk, ?_⟩⟩
    exact ⟨_, results_ptr_bool rfl _ _ _ _ none false rfl rfl e2 e3, none, by rw [F9], fun e => (by rw [F9] at e; cases e), db.trans (bp.mono (by omega))⟩
end Go.Proofs.YtdkhaghcnijilaaGreat
