/- The law on Dist: at every argument the program's Dist is the specification's, limb by limb; it writes into no argument; its answer owns its memory. -/
import Derived.Test.YtnjbedhealpgcaaGreatDistS
import Derived.Test.YtnjbedhealpgcaaGreatShapeM
import Derived.Test.YtnjbedhealpgcaaGreatMark
import Derived.Test.YtnjbedhealpgcaaGreatDivI
namespace Go.Proofs.YtnjbedhealpgcaaGreat
open Go.RowKit

theorem capture2 {P : Program} {ops : Array Oper} {Q : Exit → Act → World → Prop} {md : Region.Mode} {S : World → Prop} {fuel : Nat} {listed : Array Bool} {a : Act} {w : World}
  (h : ∀ (wp : Nat → Array Bool → Act → World → Prop) (a0 : Act), a0 = a → (∀ f l a w, wp f l a w = wpAnyH P md ops Q S f l a w) → wp fuel listed a0 w) : wpAnyH P md ops Q S fuel listed a w :=
 h (fun f l a w => wpAnyH P md ops Q S f l a w) a rfl (fun _ _ _ _ => rfl)
theorem met2 {wp : Nat → Array Bool → Act → World → Prop} {f : Nat} {l l' : Array Bool} {a a' : Act} {w : World} (h : wp f l' a' w) (e : l = l') (e2 : a = a') : wp f l a w := by subst e e2; exact h
theorem FrB.one : FrB (0, 1) := ⟨by decide, by decide, by decide⟩
theorem dsV_bd (n : Int) (rs : List (List (Int × Int))) (x y : Int) : FrB (dsV n rs x y) := by
 cases h : (ptOk x y && goodB n rs) && !hasP n rs (x, y)
 ·rw [dsV_none h]; exact FrB.one
 ·rw [dsV_some h]
  simp only [Bool.and_eq_true] at h
  obtain ⟨⟨hp, hg⟩, _⟩ := h
  obtain ⟨cx, cy⟩ := ptOk_crd hp
  obtain ⟨i, hi, e⟩ := dsF_mem (zs := (segL n rs).map (fun e => gpZ e (x, y))) ((segL n rs).length - 1)
  have l0 := (segL_bounds hg).1
  rw [e, zN_map (by omega)]
  exact gpZ_ok (okQ_at (okQ_seg hg) (by omega)) cx cy
theorem FrO.of {lo : Nat} {w : World} {v : Value} {z : Int × Int} {zs ts : List Int} (h : IsFrac lo w v z.1 z.2) (HV : Lim zs ∧ Nrm zs ∧ val zs = mg z.1 ∧ Lim ts ∧ Nrm ts ∧ val ts = mg z.2) : ∃ a5 c5 b5 d5, v = .agg #[.bool (decide (z.1 < 0)), .slice a5 zs.length c5, .bool (decide (z.2 < 0)), .slice b5 ts.length d5] ∧ FrO lo w z a5 c5 zs b5 d5 ts := by
 obtain ⟨a5, c5, b5, d5, e, o1, o2, ap⟩ := h.as HV
 exact ⟨a5, c5, b5, d5, e, o1, o2, HV.2.1, HV.2.2.2.2.1, HV.2.2.1, HV.2.2.2.2.2, ap⟩
theorem specDistA (n : Int) (a : Option Addr) (c : Nat) (rs : List (List (Int × Int))) (x y : Int) (w : World) (h : SeesS w a c rs) {z : Int × Int} {zs ts : List Int} {gz gy : Bool} (HZ : dsV n rs x y = z) (HV : Lim zs ∧ Nrm zs ∧ val zs = mg z.1 ∧ Lim ts ∧ Nrm ts ∧ val ts = mg z.2) (HG : decide (z.1 < 0) = gz) (HY : decide (z.2 < 0) = gy) :
  Calls Tryz.prog 5 #[.agg #[.int .i64 n, .slice a rs.length c], .agg #[.int .i64 x, .int .i64 y]] w fun e w' => ∃ a5 c5 b5 d5, e = .returned (.agg #[.bool gz, .slice a5 zs.length c5, .bool gy, .slice b5 ts.length d5]) ∧ FrO w.heap.size w' z a5 c5 zs b5 d5 ts ∧ Below w.heap.size w w' := by
 subst HG HY
 refine (specDist n a c rs x y w h).mono ?_
 rintro e w' ⟨v, rfl, hI, hb⟩
 rw [HZ] at hI
 obtain ⟨a5, c5, b5, d5, rfl, FO⟩ := FrO.of hI HV
 exact ⟨a5, c5, b5, d5, rfl, FO, hb⟩
theorem implDistA (n : Int) (a : Option Addr) (c : Nat) (rs : List (List (Int × Int))) (x y : Int) (w : World) (h : SeesS w a c rs) {z : Int × Int} {zs ts : List Int} {gz gy : Bool} (HZ : dsV n rs x y = z) (HV : Lim zs ∧ Nrm zs ∧ val zs = mg z.1 ∧ Lim ts ∧ Nrm ts ∧ val ts = mg z.2) (HG : decide (z.1 < 0) = gz) (HY : decide (z.2 < 0) = gy) :
  Calls Tryz.prog 8 #[.agg #[.int .i64 n, .slice a rs.length c], .agg #[.int .i64 x, .int .i64 y]] w fun e w' => ∃ a5 c5 b5 d5, e = .returned (.agg #[.bool gz, .slice a5 zs.length c5, .bool gy, .slice b5 ts.length d5]) ∧ FrO w.heap.size w' z a5 c5 zs b5 d5 ts ∧ Below w.heap.size w w' := by
 subst HG HY
 refine (implDist n a c rs x y w h).mono ?_
 rintro e w' ⟨v, rfl, hI, hb⟩
 rw [HZ] at hI
 obtain ⟨a5, c5, b5, d5, rfl, FO⟩ := FrO.of hI HV
 exact ⟨a5, c5, b5, d5, rfl, FO, hb⟩
theorem FrO.puts {l lo hi : Nat} {w w' : World} {z : Int × Int} {a1 a2 : Option Addr} {c1 c2 : Nat} {qs rs : List Int} (h : FrO l w z a1 c1 qs a2 c2 rs) (P : Puts lo hi w w') (n1 : ∀ b off, a1 = some ⟨b, off, none⟩ → qs ≠ [] → b < lo ∨ hi ≤ b) (n2 : ∀ b off, a2 = some ⟨b, off, none⟩ → rs ≠ [] → b < lo ∨ hi ≤ b) : FrO l w' z a1 c1 qs a2 c2 rs :=
 P (fun W => FrO l W z a1 c1 qs a2 c2 rs) (fun W b o u h1 h2 q => ⟨q.o1.kept (grownBy_setCell (grownBy_refl W (some b)) (p := ⟨b, o, none⟩) rfl u) (fun b' off e hn e2 => by injection e2 with e2; have := n1 b' off e hn; omega), q.o2.kept (grownBy_setCell (grownBy_refl W (some b)) (p := ⟨b, o, none⟩) rfl u) (fun b' off e hn e2 => by injection e2 with e2; have := n2 b' off e hn; omega), q.n1, q.n2, q.v1, q.v2, q.ap⟩) h
theorem Box4.puts {l p lo hi : Nat} {w w' : World} {x0 x1 x2 x3 : Value} (h : Box4 l w p x0 x1 x2 x3) (P : Puts lo hi w w') (hp : p < lo ∨ hi ≤ p) : Box4 l w' p x0 x1 x2 x3 :=
 P (fun W => Box4 l W p x0 x1 x2 x3) (fun _ b o u h1 h2 q => ⟨(cell_other (.inl (by omega)) u).trans q.c0, (cell_other (.inl (by omega)) u).trans q.c1, (cell_other (.inl (by omega)) u).trans q.c2, (cell_other (.inl (by omega)) u).trans q.c3, fun i => (World.frozen?_setCell ..).trans (q.fr i), q.lo⟩) h
theorem FrO.under {l b : Nat} {w w' : World} {z : Int × Int} {a1 a2 : Option Addr} {c1 c2 : Nat} {qs rs : List Int} (h : FrO l w z a1 c1 qs a2 c2 rs) (hb : Below b w w') (n1 : ∀ q off, a1 = some ⟨q, off, none⟩ → qs ≠ [] → q < b) (n2 : ∀ q off, a2 = some ⟨q, off, none⟩ → rs ≠ [] → q < b) : FrO l w' z a1 c1 qs a2 c2 rs := by
 have ow : ∀ {a : Option Addr} {c : Nat} {xs : List Int}, Own l w a c xs → (∀ q off, a = some ⟨q, off, none⟩ → xs ≠ [] → q < b) → Own l w' a c xs := fun {a c xs} o n => by
  refine ⟨⟨⟨o.lim, o.fits, o.max, fun hn => ?_⟩, o.shape⟩, fun q off e hn => ?_⟩
  ·obtain ⟨q, off, e, hc⟩ := o.cells hn
   exact ⟨q, off, e, fun i hi => (World.cell?_of_block (a := ⟨q, off + i, none⟩) (hb.block q (n q off e hn))).trans (hc i hi)⟩
  ·obtain ⟨h1, h2⟩ := o.new q off e hn
   exact ⟨h1, fun i hi => (World.frozen?_of_block (a := ⟨q, off + i, none⟩) (hb.block q (n q off e hn))).trans (h2 i hi)⟩
 exact ⟨ow h.o1 n1, ow h.o2 n2, h.n1, h.n2, h.v1, h.v2, h.ap⟩
theorem Box4.underD {lo q n : Nat} {w w' : World} {x0 x1 x2 x3 : Value} (h : Box4 lo w q x0 x1 x2 x3) (hb : Below n w w') (hq : q < n) : Box4 lo w' q x0 x1 x2 x3 := by
 have e := hb.block q hq
 exact ⟨(World.cell?_of_block (a := ⟨q, 0, none⟩) e).trans h.c0, (World.cell?_of_block (a := ⟨q, 1, none⟩) e).trans h.c1, (World.cell?_of_block (a := ⟨q, 2, none⟩) e).trans h.c2, (World.cell?_of_block (a := ⟨q, 3, none⟩) e).trans h.c3, fun o => (World.frozen?_of_block (a := ⟨q, o, none⟩) e).trans (h.fr o), h.lo⟩
theorem Box2.underD {lo q n : Nat} {w w' : World} {x0 x1 : Value} (h : Box2 lo w q x0 x1) (hb : Below n w w') (hq : q < n) : Box2 lo w' q x0 x1 := by
 have e := hb.block q hq
 exact ⟨(World.cell?_of_block (a := ⟨q, 0, none⟩) e).trans h.c0, (World.cell?_of_block (a := ⟨q, 1, none⟩) e).trans h.c1, fun o => (World.frozen?_of_block (a := ⟨q, o, none⟩) e).trans (h.fr o), h.lo⟩
theorem Box4.grownD {lo q : Nat} {w w' : World} {x0 x1 x2 x3 : Value} {row : Option Nat} (h : Box4 lo w q x0 x1 x2 x3) (g : w.grownBy w' row) (ne : some q ≠ row) : Box4 lo w' q x0 x1 x2 x3 := by
 have e := g.block q h.lt ne
 exact ⟨(World.cell?_of_block (a := ⟨q, 0, none⟩) e).trans h.c0, (World.cell?_of_block (a := ⟨q, 1, none⟩) e).trans h.c1, (World.cell?_of_block (a := ⟨q, 2, none⟩) e).trans h.c2, (World.cell?_of_block (a := ⟨q, 3, none⟩) e).trans h.c3, fun o => (World.frozen?_of_block (a := ⟨q, o, none⟩) e).trans (h.fr o), h.lo⟩

set_option maxRecDepth 20000 in
set_option maxHeartbeats 16000000 in
theorem lawDist (n : Int) (a : Option Addr) (c : Nat) (rs : List (List (Int × Int))) (px py : Int) (w : World) (h : SeesS w a c rs) :
  Calls Tryz.prog 3 #[.agg #[.int .i64 n, .slice a rs.length c], .agg #[.int .i64 px, .int .i64 py]] w fun e w' => e = .returned (.bool true) ∧ Below w.heap.size w w' := by
 have B := below2 w (.cells #[.int .i64 n, .slice a rs.length c] 24) (.cells #[.int .i64 px, .int .i64 py] 26)
 have V1 : Box2 0 ((w.alloc (.cells #[.int .i64 n, .slice a rs.length c] 24)).alloc (.cells #[.int .i64 px, .int .i64 py] 26)) w.heap.size (.int .i64 n) (.slice a rs.length c) := (Box2.new w (lo := 0) (by omega) _ _ _).below (below1 _ _)
 have V2 := Box2.new (w.alloc (.cells #[.int .i64 n, .slice a rs.length c] 24)) (lo := 0) (by omega) (.int .i64 px) (.int .i64 py) 26
 rw [World.size_alloc] at V2
 have S1 := h.below B
 have S2 : Hid (SeesS w a c rs) := h
 clear h
 obtain ⟨z, HZ⟩ : ∃ z, Hid (dsV n rs px py = z) := ⟨_, rfl⟩
 have bz : FrB z := by rw [← HZ.out]; exact dsV_bd n rs px py
 obtain ⟨zs, HV1⟩ := limbs_mg z.1
 obtain ⟨ts, HV2⟩ := limbs_mg z.2
 have HV : Hid (Lim zs ∧ Nrm zs ∧ val zs = mg z.1 ∧ Lim ts ∧ Nrm ts ∧ val ts = mg z.2) := ⟨HV1.1, HV1.2.1, HV1.2.2, HV2.1, HV2.2.1, HV2.2.2⟩
 obtain ⟨hl2, hl3⟩ := bz.len HV1.1 HV1.2.1 HV1.2.2 HV2.1 HV2.2.1 HV2.2.2
 clear HV1 HV2 bz
 obtain ⟨gz, HG⟩ : ∃ g, Hid (decide (z.1 < 0) = g) := ⟨_, rfl⟩
 obtain ⟨gy, HY⟩ : ∃ g, Hid (decide (z.2 < 0) = g) := ⟨_, rfl⟩
 go_enter Tryz.func3, Tryz.ntmps3
 go_wp2_with fail
 generalize (w.alloc (.cells #[.int .i64 n, .slice a rs.length c] 24)).alloc (.cells #[.int .i64 px, .int .i64 py] 26) = W0 at *
 refine (szShape_any n a c rs 1048576 _ S1 (by omega)).mono ?_
 rintro e w1 ⟨z1, rfl, hz1, hb⟩
 replace S1 := S1.below hb
 replace V1 := V1.below hb
 replace V2 := V2.below hb
 replace B := B.trans (hb.mono B.size)
 clear hb
 rcases hz1 with rfl | ⟨z10, hz1⟩
 ·go_wp2
  go_ret
  exact ⟨rfl, B⟩
 ·have L1 : Hid (upto rs rs.length ≤ 1048576) := by show _ ≤ _; omega
  clear hz1
  go_wp2_with fail
  go_cut [6] (fun s6 W => ∃ (p : Nat) (a5 : Option Addr) (c5 : Nat) (b5 : Option Addr) (d5 : Nat), s6 = .pointer (some ⟨p, 0, none⟩) ∧ Box4 w1.heap.size W p (.bool gz) (.slice a5 zs.length c5) (.bool gy) (.slice b5 ts.length d5) ∧ FrO w1.heap.size W z a5 c5 zs b5 d5 ts ∧ Hid (some p ≠ rowOf a5 zs ∧ some p ≠ rowOf b5 ts) ∧ Below w1.heap.size w1 W)
  case first =>
   as_aux_lemma =>
    rename_i hcJ hcK
    have N : Below w1.heap.size w1 w1.drew := (Below.refl _ _).drew
    refine wp_region_held_drew (S := fun w' => Below w1.heap.size w1 w') (by kernel_rfl) N (fun hHeld => ?_)
    clear hHeld
    generalize w1.drew = ww0 at *
    refine takeA (i := 0) (hy := by intro wq hSw; have y0 := bat hSw V1.c0; have y1 := bat hSw V1.c1; have y2 := bat hSw V2.c0; have y3 := bat hSw V2.c1; go_simp <;> with_reducible rfl) (h := ?_)
    refine takeA (i := 2) (hy := by intro wq hSw; have y0 := bat hSw V1.c0; have y1 := bat hSw V1.c1; have y2 := bat hSw V2.c0; have y3 := bat hSw V2.c1; go_simp <;> with_reducible rfl) (h := ?_)
    refine capture2 (fun wpx fr0 ha0 hwp => ?_)
    revert N
    revert ww0
    have H3_p6 : ∀ (a3 : Option Addr) (c3 : Nat) (a5 : Option Addr) (c5 : Nat) (b5 : Option Addr) (d5 : Nat) (p6 : Nat) (V : World), Below w1.heap.size w1 V → FrO w1.heap.size V z a5 c5 zs b5 d5 ts → Box4 w1.heap.size V p6 (.bool false) (.slice none 0 0) (.bool false) (.slice none 0 0) → Hid (some p6 ≠ rowOf a5 zs ∧ some p6 ≠ rowOf b5 ts) → wpx 1 #[true, true, true, true, true, true, false] ((((fr0.put (some 19) (.agg #[.int .i64 n, .slice a3 rs.length c3])).put (some 21) (.agg #[.int .i64 px, .int .i64 py])).put (some 22) (.agg #[.bool gz, .slice a5 zs.length c5, .bool gy, .slice b5 ts.length d5])).put (some 6) (.pointer (some ⟨p6, 0, none⟩))) V := by
     as_aux_lemma =>
      intro a3 c3 a5 c5 b5 d5 p6 V N FO Y6 n_p6
      refine Eq.mpr (hwp _ _ _ _) ?_
      rw [ha0]
      try simp only [Act.put, pA, pB, pC]
      refine rdA (i := 6) (h := fun K hK => ?_)
      obtain ⟨q0, q1, q2, q3, qf, _⟩ := id Y6
      go_simp
      replace N := Box4.chain N Y6 (.bool gz) (.slice a5 zs.length c5) (.bool gy) (.slice b5 ts.length d5)
      replace FO := FO.put n_p6.out (.bool gz) (.slice a5 zs.length c5) (.bool gy) (.slice b5 ts.length d5)
      replace Y6 := Y6.put (.bool gz) (.slice a5 zs.length c5) (.bool gy) (.slice b5 ts.length d5)
      refine hK.out _ _ N (fun hHeld => ?_)
      clear hK K hHeld
      try simp only [pA, pB, pC]
      clear q0 q1 q2 q3 qf
      generalize ((((V.setCell ⟨p6, 0, none⟩ (.bool gz)).setCell ⟨p6, 1, none⟩ (.slice a5 zs.length c5)).setCell ⟨p6, 2, none⟩ (.bool gy)).setCell ⟨p6, 3, none⟩ (.slice b5 ts.length d5)) = Vs0 at *
      refine wpAnyH_done (by kernel_rfl) ?_ _
      refine hcK _ _ (Met.intro (hcJ _ _ ?_))
      (repeat apply Exists.intro)
      refine ⟨?rel, rfl⟩
      case rel => exact ⟨p6, a5, c5, b5, d5, rfl, Y6, FO, n_p6, N⟩
    have H3 : ∀ (a3 : Option Addr) (c3 : Nat) (a5 : Option Addr) (c5 : Nat) (b5 : Option Addr) (d5 : Nat) (V : World), Below w1.heap.size w1 V → FrO w1.heap.size V z a5 c5 zs b5 d5 ts → wpx 2 #[true, true, true, true, true, false, false] (((fr0.put (some 19) (.agg #[.int .i64 n, .slice a3 rs.length c3])).put (some 21) (.agg #[.int .i64 px, .int .i64 py])).put (some 22) (.agg #[.bool gz, .slice a5 zs.length c5, .bool gy, .slice b5 ts.length d5])) V := by
     as_aux_lemma =>
      intro a3 c3 a5 c5 b5 d5 V N FO
      refine Eq.mpr (hwp _ _ _ _) ?_
      rw [ha0]
      try simp only [Act.put, pA, pB, pC]
      refine rdA (i := 5) (h := fun K hK => ?_)
      ·go_simp
       have Y6 := Box4.new V (lo := w1.heap.size) N.size (.bool false) (.slice none 0 0) (.bool false) (.slice none 0 0) 32
       have hb := below1 V (.cells #[.bool false, .slice none 0 0, .bool false, .slice none 0 0] 32)
       have n_p6 : Hid (some V.heap.size ≠ rowOf a5 zs ∧ some V.heap.size ≠ rowOf b5 ts) := ⟨row_ne_high FO.o1.toCame (Nat.le_refl _), row_ne_high FO.o2.toCame (Nat.le_refl _)⟩
       replace FO := FO.below hb
       replace N := N.trans (hb.mono N.size)
       refine hK.out _ _ N (fun hHeld => ?_)
       clear hK K hHeld
       try simp only [pA, pB, pC]
       clear hb
       refine Eq.mp (hwp _ _ _ _) ?_
       exact met2 (H3_p6 a3 c3 a5 c5 b5 d5 V.heap.size _ N FO Y6 n_p6) (by kernel_rfl) (by rw [ha0]; simp only [Act.put, pA, pB, pC])
    have H2_p6 : ∀ (a3 : Option Addr) (c3 : Nat) (p6 : Nat) (V : World), Below w1.heap.size w1 V → SeesS V a3 c3 rs → Box4 w1.heap.size V p6 (.bool false) (.slice none 0 0) (.bool false) (.slice none 0 0) → wpx 2 #[true, true, true, true, false, true, false] (((fr0.put (some 19) (.agg #[.int .i64 n, .slice a3 rs.length c3])).put (some 21) (.agg #[.int .i64 px, .int .i64 py])).put (some 6) (.pointer (some ⟨p6, 0, none⟩))) V := by
     as_aux_lemma =>
      intro a3 c3 p6 V N SS Y6
      refine Eq.mpr (hwp _ _ _ _) ?_
      rw [ha0]
      try simp only [Act.put, pA, pB, pC]
      refine rdA (i := 4) (h := fun K hK => ?_)
      ·go_simp
       refine (specDistA n a3 c3 rs px py _ SS HZ.out HV.out HG.out HY.out).mono ?_
       rintro e V1 ⟨a5, c5, b5, d5, rfl, FO, hb⟩
       have n_p6 : Hid (some p6 ≠ rowOf a5 zs ∧ some p6 ≠ rowOf b5 ts) := ⟨row_ne_low FO.o1 Y6.lt, row_ne_low FO.o2 Y6.lt⟩
       replace FO := FO.base (lo' := w1.heap.size) N.size
       replace SS := SS.below hb
       replace Y6 := Y6.below hb
       replace N := N.trans (hb.mono N.size)
       refine hK.out _ _ N (fun hHeld => ?_)
       clear hK K hHeld
       try simp only [pA, pB, pC]
       clear hb
       refine Eq.mp (hwp _ _ _ _) ?_
       exact met2 (H3_p6 a3 c3 a5 c5 b5 d5 p6 _ N FO Y6 n_p6) (by kernel_rfl) (by rw [ha0]; simp only [Act.put, pA, pB, pC])
    have H2 : ∀ (a3 : Option Addr) (c3 : Nat) (V : World), Below w1.heap.size w1 V → SeesS V a3 c3 rs → wpx 3 #[true, true, true, true, false, false, false] ((fr0.put (some 19) (.agg #[.int .i64 n, .slice a3 rs.length c3])).put (some 21) (.agg #[.int .i64 px, .int .i64 py])) V := by
     as_aux_lemma =>
      intro a3 c3 V N SS
      refine Eq.mpr (hwp _ _ _ _) ?_
      rw [ha0]
      try simp only [Act.put, pA, pB, pC]
      refine wpAnyH_ready (rs := [4, 5]) (by kernel_rfl) (by simp) (AllReadyH.cons (gtA rfl) (fun K hK => ?_) (AllReadyH.cons (gtA rfl) (fun K hK => ?_) AllReadyH.nil))
      ·go_simp
       refine (specDistA n a3 c3 rs px py _ SS HZ.out HV.out HG.out HY.out).mono ?_
       rintro e V1 ⟨a5, c5, b5, d5, rfl, FO, hb⟩
       replace FO := FO.base (lo' := w1.heap.size) N.size
       replace SS := SS.below hb
       replace N := N.trans (hb.mono N.size)
       refine hK.out _ _ N (fun hHeld => ?_)
       clear hK K hHeld
       try simp only [pA, pB, pC]
       clear hb
       refine Eq.mp (hwp _ _ _ _) ?_
       exact met2 (H3 a3 c3 a5 c5 b5 d5 _ N FO) (by kernel_rfl) (by rw [ha0]; simp only [Act.put, pA, pB, pC])
      ·go_simp
       have Y6 := Box4.new V (lo := w1.heap.size) N.size (.bool false) (.slice none 0 0) (.bool false) (.slice none 0 0) 32
       have hb := below1 V (.cells #[.bool false, .slice none 0 0, .bool false, .slice none 0 0] 32)
       replace SS := SS.below hb
       replace N := N.trans (hb.mono N.size)
       refine hK.out _ _ N (fun hHeld => ?_)
       clear hK K hHeld
       try simp only [pA, pB, pC]
       clear hb
       refine Eq.mp (hwp _ _ _ _) ?_
       exact met2 (H2_p6 a3 c3 V.heap.size _ N SS Y6) (by kernel_rfl) (by rw [ha0]; simp only [Act.put, pA, pB, pC])
    have H1_p6 : ∀ (a3 : Option Addr) (c3 : Nat) (p6 : Nat) (V : World), Below w1.heap.size w1 V → SeesS V a3 c3 rs → Box4 w1.heap.size V p6 (.bool false) (.slice none 0 0) (.bool false) (.slice none 0 0) → wpx 3 #[true, true, true, false, false, true, false] ((fr0.put (some 19) (.agg #[.int .i64 n, .slice a3 rs.length c3])).put (some 6) (.pointer (some ⟨p6, 0, none⟩))) V := by
     as_aux_lemma =>
      intro a3 c3 p6 V N SS Y6
      refine Eq.mpr (hwp _ _ _ _) ?_
      rw [ha0]
      try simp only [Act.put, pA, pB, pC]
      refine rdA (i := 3) (h := fun K hK => ?_)
      ·go_simp
       refine (toPt_any px py _).mono ?_
       rintro e V1 ⟨rfl, hb⟩
       replace SS := SS.below hb
       replace Y6 := Y6.below hb
       replace N := N.trans (hb.mono N.size)
       refine hK.out _ _ N (fun hHeld => ?_)
       clear hK K hHeld
       try simp only [pA, pB, pC]
       clear hb
       refine Eq.mp (hwp _ _ _ _) ?_
       exact met2 (H2_p6 a3 c3 p6 _ N SS Y6) (by kernel_rfl) (by rw [ha0]; simp only [Act.put, pA, pB, pC])
    have H1 : ∀ (a3 : Option Addr) (c3 : Nat) (V : World), Below w1.heap.size w1 V → SeesS V a3 c3 rs → wpx 4 #[true, true, true, false, false, false, false] (fr0.put (some 19) (.agg #[.int .i64 n, .slice a3 rs.length c3])) V := by
     as_aux_lemma =>
      intro a3 c3 V N SS
      refine Eq.mpr (hwp _ _ _ _) ?_
      rw [ha0]
      try simp only [Act.put, pA, pB, pC]
      refine wpAnyH_ready (rs := [3, 5]) (by kernel_rfl) (by simp) (AllReadyH.cons (gtA rfl) (fun K hK => ?_) (AllReadyH.cons (gtA rfl) (fun K hK => ?_) AllReadyH.nil))
      ·go_simp
       refine (toPt_any px py _).mono ?_
       rintro e V1 ⟨rfl, hb⟩
       replace SS := SS.below hb
       replace N := N.trans (hb.mono N.size)
       refine hK.out _ _ N (fun hHeld => ?_)
       clear hK K hHeld
       try simp only [pA, pB, pC]
       clear hb
       refine Eq.mp (hwp _ _ _ _) ?_
       exact met2 (H2 a3 c3 _ N SS) (by kernel_rfl) (by rw [ha0]; simp only [Act.put, pA, pB, pC])
      ·go_simp
       have Y6 := Box4.new V (lo := w1.heap.size) N.size (.bool false) (.slice none 0 0) (.bool false) (.slice none 0 0) 32
       have hb := below1 V (.cells #[.bool false, .slice none 0 0, .bool false, .slice none 0 0] 32)
       replace SS := SS.below hb
       replace N := N.trans (hb.mono N.size)
       refine hK.out _ _ N (fun hHeld => ?_)
       clear hK K hHeld
       try simp only [pA, pB, pC]
       clear hb
       refine Eq.mp (hwp _ _ _ _) ?_
       exact met2 (H1_p6 a3 c3 V.heap.size _ N SS Y6) (by kernel_rfl) (by rw [ha0]; simp only [Act.put, pA, pB, pC])
    have H0_p6 : ∀ (p6 : Nat) (V : World), Below w1.heap.size w1 V → Box4 w1.heap.size V p6 (.bool false) (.slice none 0 0) (.bool false) (.slice none 0 0) → wpx 4 #[true, false, true, false, false, true, false] (fr0.put (some 6) (.pointer (some ⟨p6, 0, none⟩))) V := by
     as_aux_lemma =>
      intro p6 V N Y6
      refine Eq.mpr (hwp _ _ _ _) ?_
      rw [ha0]
      try simp only [Act.put, pA, pB, pC]
      refine rdA (i := 1) (h := fun K hK => ?_)
      ·go_simp
       refine (toShape_any n a c rs _ (S1.below N) L1.out).mono ?_
       rintro e V1 ⟨a3, c3, rfl, o3, hb⟩
       have SS := o3.sees
       clear o3
       replace Y6 := Y6.below hb
       replace N := N.trans (hb.mono N.size)
       refine hK.out _ _ N (fun hHeld => ?_)
       clear hK K hHeld
       try simp only [pA, pB, pC]
       clear hb
       refine Eq.mp (hwp _ _ _ _) ?_
       exact met2 (H1_p6 a3 c3 p6 _ N SS Y6) (by kernel_rfl) (by rw [ha0]; simp only [Act.put, pA, pB, pC])
    have H0 : ∀ (V : World), Below w1.heap.size w1 V → wpx 5 #[true, false, true, false, false, false, false] fr0 V := by
     as_aux_lemma =>
      intro V N
      refine Eq.mpr (hwp _ _ _ _) ?_
      rw [ha0]
      try simp only [Act.put, pA, pB, pC]
      refine wpAnyH_ready (rs := [1, 5]) (by kernel_rfl) (by simp) (AllReadyH.cons (gtA rfl) (fun K hK => ?_) (AllReadyH.cons (gtA rfl) (fun K hK => ?_) AllReadyH.nil))
      ·go_simp
       refine (toShape_any n a c rs _ (S1.below N) L1.out).mono ?_
       rintro e V1 ⟨a3, c3, rfl, o3, hb⟩
       have SS := o3.sees
       clear o3
       replace N := N.trans (hb.mono N.size)
       refine hK.out _ _ N (fun hHeld => ?_)
       clear hK K hHeld
       try simp only [pA, pB, pC]
       clear hb
       refine Eq.mp (hwp _ _ _ _) ?_
       exact met2 (H1 a3 c3 _ N SS) (by kernel_rfl) (by rw [ha0]; simp only [Act.put, pA, pB, pC])
      ·go_simp
       have Y6 := Box4.new V (lo := w1.heap.size) N.size (.bool false) (.slice none 0 0) (.bool false) (.slice none 0 0) 32
       have hb := below1 V (.cells #[.bool false, .slice none 0 0, .bool false, .slice none 0 0] 32)
       replace N := N.trans (hb.mono N.size)
       refine hK.out _ _ N (fun hHeld => ?_)
       clear hK K hHeld
       try simp only [pA, pB, pC]
       clear hb
       refine Eq.mp (hwp _ _ _ _) ?_
       exact met2 (H0_p6 V.heap.size _ N Y6) (by kernel_rfl) (by rw [ha0]; simp only [Act.put, pA, pB, pC])
    intro ww0 N
    exact met2 (H0 ww0 N) (by kernel_rfl) rfl
  rename World => W1
  obtain ⟨p6, a0, c0, b0, d0, rfl, Y0, F0, _, hb⟩ := hcut
  have hv1 := V1.lt
  have hv2 := V2.lt
  have s1 := hb.size
  have hp0 := Y0.lt
  have T1 : Hid (∀ q off, a0 = some ⟨q, off, none⟩ → zs ≠ [] → q < W1.heap.size) := fun q off e hn => F0.o1.toCame.lt e hn
  have T2 : Hid (∀ q off, b0 = some ⟨q, off, none⟩ → ts ≠ [] → q < W1.heap.size) := fun q off e hn => F0.o2.toCame.lt e hn
  replace S1 := S1.below hb
  replace V1 := V1.below hb
  replace V2 := V2.below hb
  replace B := B.trans (hb.mono B.size)
  clear hb
  obtain ⟨k0, k1, _, _⟩ := id V1
  go_wp2_with fail
  refine (toShape_any n a c rs _ S1 L1.out).mono ?_
  rintro e x4 ⟨ax, cx, rfl, o5, hb⟩
  have M5 : Hid (∀ b off, ax = some ⟨b, off, none⟩ → MarkS (b + 1) x4.heap.size x4 b off rs) := fun b off e => by
   subst e
   exact o5.mark
  have s4 : W1.heap.size ≤ x4.heap.size := hb.size
  replace S1 := S1.below hb
  replace V1 := V1.below hb
  replace V2 := V2.below hb
  replace Y0 := Y0.below hb
  replace F0 := F0.below hb
  replace B := B.trans (hb.mono B.size)
  clear hb k0 k1
  have bn := below1 x4 (.cells #[.int .i64 n, .slice ax rs.length cx] 36)
  have V3 := Box2.new x4 (lo := 0) (by omega) (.int .i64 n) (.slice ax rs.length cx) 36
  have O5 := o5.below bn
  have BX : Below x4.heap.size x4 (x4.alloc (.cells #[.int .i64 n, .slice ax rs.length cx] 36)) := bn
  have hx4 : x4.heap.size < (x4.alloc (.cells #[.int .i64 n, .slice ax rs.length cx] 36)).heap.size := V3.lt
  replace S1 := S1.below bn
  replace V1 := V1.below bn
  replace V2 := V2.below bn
  replace Y0 := Y0.below bn
  replace F0 := F0.below bn
  replace B := B.trans (bn.mono B.size)
  clear bn o5
  go_wp2_with fail
  generalize x4.alloc (.cells #[.int .i64 n, .slice ax rs.length cx] 36) = W5 at *
  generalize hq5 : x4.heap.size = q5 at *
  go_cut [8] (fun s8 W => ∃ (p : Nat) (a5 : Option Addr) (c5 : Nat) (b5 : Option Addr) (d5 : Nat), s8 = .pointer (some ⟨p, 0, none⟩) ∧ Box4 W5.heap.size W p (.bool gz) (.slice a5 zs.length c5) (.bool gy) (.slice b5 ts.length d5) ∧ FrO W5.heap.size W z a5 c5 zs b5 d5 ts ∧ Hid (some p ≠ rowOf a5 zs ∧ some p ≠ rowOf b5 ts) ∧ Below W5.heap.size W5 W)
  case first =>
   as_aux_lemma =>
    rename_i hcJ hcK
    clear F0 Y0 T1 T2 M5 BX
    have N : Below W5.heap.size W5 W5.drew := (Below.refl _ _).drew
    refine wp_region_held_drew (S := fun w' => Below W5.heap.size W5 w') (by kernel_rfl) N (fun hHeld => ?_)
    clear hHeld
    generalize W5.drew = ww0 at *
    refine takeA (i := 0) (hy := by intro wq hSw; have y0 := bat hSw V3.c0; have y1 := bat hSw V3.c1; have y2 := bat hSw V2.c0; have y3 := bat hSw V2.c1; go_simp <;> with_reducible rfl) (h := ?_)
    refine takeA (i := 1) (hy := by intro wq hSw; have y0 := bat hSw V3.c0; have y1 := bat hSw V3.c1; have y2 := bat hSw V2.c0; have y3 := bat hSw V2.c1; go_simp <;> with_reducible rfl) (h := ?_)
    refine capture2 (fun wpx fr0 ha0 hwp => ?_)
    revert N
    revert ww0
    have H2_p6 : ∀ (a5 : Option Addr) (c5 : Nat) (b5 : Option Addr) (d5 : Nat) (p6 : Nat) (V : World), Below W5.heap.size W5 V → FrO W5.heap.size V z a5 c5 zs b5 d5 ts → Box4 W5.heap.size V p6 (.bool false) (.slice none 0 0) (.bool false) (.slice none 0 0) → Hid (some p6 ≠ rowOf a5 zs ∧ some p6 ≠ rowOf b5 ts) → wpx 1 #[true, true, true, true, true, false] (((fr0.put (some 27) (.agg #[.int .i64 px, .int .i64 py])).put (some 28) (.agg #[.bool gz, .slice a5 zs.length c5, .bool gy, .slice b5 ts.length d5])).put (some 8) (.pointer (some ⟨p6, 0, none⟩))) V := by
     as_aux_lemma =>
      intro a5 c5 b5 d5 p6 V N FO Y6 n_p6
      refine Eq.mpr (hwp _ _ _ _) ?_
      rw [ha0]
      try simp only [Act.put, pA, pB, pC]
      refine rdA (i := 5) (h := fun K hK => ?_)
      obtain ⟨q0, q1, q2, q3, qf, _⟩ := id Y6
      go_simp
      replace N := Box4.chain N Y6 (.bool gz) (.slice a5 zs.length c5) (.bool gy) (.slice b5 ts.length d5)
      replace FO := FO.put n_p6.out (.bool gz) (.slice a5 zs.length c5) (.bool gy) (.slice b5 ts.length d5)
      replace Y6 := Y6.put (.bool gz) (.slice a5 zs.length c5) (.bool gy) (.slice b5 ts.length d5)
      refine hK.out _ _ N (fun hHeld => ?_)
      clear hK K hHeld
      try simp only [pA, pB, pC]
      clear q0 q1 q2 q3 qf
      generalize ((((V.setCell ⟨p6, 0, none⟩ (.bool gz)).setCell ⟨p6, 1, none⟩ (.slice a5 zs.length c5)).setCell ⟨p6, 2, none⟩ (.bool gy)).setCell ⟨p6, 3, none⟩ (.slice b5 ts.length d5)) = Vs0 at *
      refine wpAnyH_done (by kernel_rfl) ?_ _
      refine hcK _ _ (Met.intro (hcJ _ _ ?_))
      (repeat apply Exists.intro)
      refine ⟨?rel, rfl⟩
      case rel => exact ⟨p6, a5, c5, b5, d5, rfl, Y6, FO, n_p6, N⟩
    have H2 : ∀ (a5 : Option Addr) (c5 : Nat) (b5 : Option Addr) (d5 : Nat) (V : World), Below W5.heap.size W5 V → FrO W5.heap.size V z a5 c5 zs b5 d5 ts → wpx 2 #[true, true, true, true, false, false] ((fr0.put (some 27) (.agg #[.int .i64 px, .int .i64 py])).put (some 28) (.agg #[.bool gz, .slice a5 zs.length c5, .bool gy, .slice b5 ts.length d5])) V := by
     as_aux_lemma =>
      intro a5 c5 b5 d5 V N FO
      refine Eq.mpr (hwp _ _ _ _) ?_
      rw [ha0]
      try simp only [Act.put, pA, pB, pC]
      refine rdA (i := 4) (h := fun K hK => ?_)
      ·go_simp
       have Y6 := Box4.new V (lo := W5.heap.size) N.size (.bool false) (.slice none 0 0) (.bool false) (.slice none 0 0) 32
       have hb := below1 V (.cells #[.bool false, .slice none 0 0, .bool false, .slice none 0 0] 32)
       have n_p6 : Hid (some V.heap.size ≠ rowOf a5 zs ∧ some V.heap.size ≠ rowOf b5 ts) := ⟨row_ne_high FO.o1.toCame (Nat.le_refl _), row_ne_high FO.o2.toCame (Nat.le_refl _)⟩
       replace FO := FO.below hb
       replace N := N.trans (hb.mono N.size)
       refine hK.out _ _ N (fun hHeld => ?_)
       clear hK K hHeld
       try simp only [pA, pB, pC]
       clear hb
       refine Eq.mp (hwp _ _ _ _) ?_
       exact met2 (H2_p6 a5 c5 b5 d5 V.heap.size _ N FO Y6 n_p6) (by kernel_rfl) (by rw [ha0]; simp only [Act.put, pA, pB, pC])
    have H1_p6 : ∀ (p6 : Nat) (V : World), Below W5.heap.size W5 V → Box4 W5.heap.size V p6 (.bool false) (.slice none 0 0) (.bool false) (.slice none 0 0) → wpx 2 #[true, true, true, false, true, false] ((fr0.put (some 27) (.agg #[.int .i64 px, .int .i64 py])).put (some 8) (.pointer (some ⟨p6, 0, none⟩))) V := by
     as_aux_lemma =>
      intro p6 V N Y6
      refine Eq.mpr (hwp _ _ _ _) ?_
      rw [ha0]
      try simp only [Act.put, pA, pB, pC]
      refine rdA (i := 3) (h := fun K hK => ?_)
      ·go_simp
       refine (implDistA n ax cx rs px py _ (O5.sees.below N) HZ.out HV.out HG.out HY.out).mono ?_
       rintro e V1 ⟨a5, c5, b5, d5, rfl, FO, hb⟩
       have n_p6 : Hid (some p6 ≠ rowOf a5 zs ∧ some p6 ≠ rowOf b5 ts) := ⟨row_ne_low FO.o1 Y6.lt, row_ne_low FO.o2 Y6.lt⟩
       replace FO := FO.base (lo' := W5.heap.size) N.size
       replace Y6 := Y6.below hb
       replace N := N.trans (hb.mono N.size)
       refine hK.out _ _ N (fun hHeld => ?_)
       clear hK K hHeld
       try simp only [pA, pB, pC]
       clear hb
       refine Eq.mp (hwp _ _ _ _) ?_
       exact met2 (H2_p6 a5 c5 b5 d5 p6 _ N FO Y6 n_p6) (by kernel_rfl) (by rw [ha0]; simp only [Act.put, pA, pB, pC])
    have H1 : ∀ (V : World), Below W5.heap.size W5 V → wpx 3 #[true, true, true, false, false, false] (fr0.put (some 27) (.agg #[.int .i64 px, .int .i64 py])) V := by
     as_aux_lemma =>
      intro V N
      refine Eq.mpr (hwp _ _ _ _) ?_
      rw [ha0]
      try simp only [Act.put, pA, pB, pC]
      refine wpAnyH_ready (rs := [3, 4]) (by kernel_rfl) (by simp) (AllReadyH.cons (gtA rfl) (fun K hK => ?_) (AllReadyH.cons (gtA rfl) (fun K hK => ?_) AllReadyH.nil))
      ·go_simp
       refine (implDistA n ax cx rs px py _ (O5.sees.below N) HZ.out HV.out HG.out HY.out).mono ?_
       rintro e V1 ⟨a5, c5, b5, d5, rfl, FO, hb⟩
       replace FO := FO.base (lo' := W5.heap.size) N.size
       replace N := N.trans (hb.mono N.size)
       refine hK.out _ _ N (fun hHeld => ?_)
       clear hK K hHeld
       try simp only [pA, pB, pC]
       clear hb
       refine Eq.mp (hwp _ _ _ _) ?_
       exact met2 (H2 a5 c5 b5 d5 _ N FO) (by kernel_rfl) (by rw [ha0]; simp only [Act.put, pA, pB, pC])
      ·go_simp
       have Y6 := Box4.new V (lo := W5.heap.size) N.size (.bool false) (.slice none 0 0) (.bool false) (.slice none 0 0) 32
       have hb := below1 V (.cells #[.bool false, .slice none 0 0, .bool false, .slice none 0 0] 32)
       replace N := N.trans (hb.mono N.size)
       refine hK.out _ _ N (fun hHeld => ?_)
       clear hK K hHeld
       try simp only [pA, pB, pC]
       clear hb
       refine Eq.mp (hwp _ _ _ _) ?_
       exact met2 (H1_p6 V.heap.size _ N Y6) (by kernel_rfl) (by rw [ha0]; simp only [Act.put, pA, pB, pC])
    have H0_p6 : ∀ (p6 : Nat) (V : World), Below W5.heap.size W5 V → Box4 W5.heap.size V p6 (.bool false) (.slice none 0 0) (.bool false) (.slice none 0 0) → wpx 3 #[true, true, false, false, true, false] (fr0.put (some 8) (.pointer (some ⟨p6, 0, none⟩))) V := by
     as_aux_lemma =>
      intro p6 V N Y6
      refine Eq.mpr (hwp _ _ _ _) ?_
      rw [ha0]
      try simp only [Act.put, pA, pB, pC]
      refine rdA (i := 2) (h := fun K hK => ?_)
      ·go_simp
       refine (toPt_any px py _).mono ?_
       rintro e V1 ⟨rfl, hb⟩
       replace Y6 := Y6.below hb
       replace N := N.trans (hb.mono N.size)
       refine hK.out _ _ N (fun hHeld => ?_)
       clear hK K hHeld
       try simp only [pA, pB, pC]
       clear hb
       refine Eq.mp (hwp _ _ _ _) ?_
       exact met2 (H1_p6 p6 _ N Y6) (by kernel_rfl) (by rw [ha0]; simp only [Act.put, pA, pB, pC])
    have H0 : ∀ (V : World), Below W5.heap.size W5 V → wpx 4 #[true, true, false, false, false, false] fr0 V := by
     as_aux_lemma =>
      intro V N
      refine Eq.mpr (hwp _ _ _ _) ?_
      rw [ha0]
      try simp only [Act.put, pA, pB, pC]
      refine wpAnyH_ready (rs := [2, 4]) (by kernel_rfl) (by simp) (AllReadyH.cons (gtA rfl) (fun K hK => ?_) (AllReadyH.cons (gtA rfl) (fun K hK => ?_) AllReadyH.nil))
      ·go_simp
       refine (toPt_any px py _).mono ?_
       rintro e V1 ⟨rfl, hb⟩
       replace N := N.trans (hb.mono N.size)
       refine hK.out _ _ N (fun hHeld => ?_)
       clear hK K hHeld
       try simp only [pA, pB, pC]
       clear hb
       refine Eq.mp (hwp _ _ _ _) ?_
       exact met2 (H1 _ N) (by kernel_rfl) (by rw [ha0]; simp only [Act.put, pA, pB, pC])
      ·go_simp
       have Y6 := Box4.new V (lo := W5.heap.size) N.size (.bool false) (.slice none 0 0) (.bool false) (.slice none 0 0) 32
       have hb := below1 V (.cells #[.bool false, .slice none 0 0, .bool false, .slice none 0 0] 32)
       replace N := N.trans (hb.mono N.size)
       refine hK.out _ _ N (fun hHeld => ?_)
       clear hK K hHeld
       try simp only [pA, pB, pC]
       clear hb
       refine Eq.mp (hwp _ _ _ _) ?_
       exact met2 (H0_p6 V.heap.size _ N Y6) (by kernel_rfl) (by rw [ha0]; simp only [Act.put, pA, pB, pC])
    intro ww0 N
    exact met2 (H0 ww0 N) (by kernel_rfl) rfl
  rename World => W7
  obtain ⟨p8, ag, cg, bg, dg, rfl, Y8, Fg, ne8, hb⟩ := hcut
  have hp8 := Y8.lo
  have s7 := hb.size
  replace V3 := V3.below hb
  replace O5 := O5.below hb
  replace BX := BX.trans (hb.mono (by omega))
  replace S1 := S1.below hb
  replace V1 := V1.below hb
  replace V2 := V2.below hb
  replace Y0 := Y0.below hb
  replace F0 := F0.below hb
  replace B := B.trans (hb.mono B.size)
  clear hb
  obtain ⟨t0, t1, t2, t3, _, _⟩ := id Y8
  obtain ⟨m0, m1, m2, m3, _, _⟩ := id Y0
  go_wp2_with fail
  refine (eqF gz gy ag a0 bg b0 cg c0 dg d0 zs ts _ Fg.o1.toSees F0.o1.toSees Fg.o2.toSees F0.o2.toSees).mono ?_
  rintro e w8 ⟨rfl, hb⟩
  have s8 := hb.size
  replace BX := BX.trans (hb.mono (by omega))
  replace S1 := S1.below hb
  replace V1 := V1.below hb
  replace V2 := V2.below hb
  replace V3 := V3.below hb
  replace Y0 := Y0.below hb
  replace F0 := F0.below hb
  replace Y8 := Y8.below hb
  replace Fg := Fg.below hb
  replace O5 := O5.below hb
  replace B := B.trans (hb.mono B.size)
  clear hb t0 t1 t2 t3 m0 m1 m2 m3
  have K1 : w8.cell? ⟨q5, 0, none⟩ = some (.int .i64 n) ∧ w8.cell? ⟨q5, 1, none⟩ = some (.slice ax rs.length cx) ∧ w8.cell? ⟨w.heap.size, 0, none⟩ = some (.int .i64 n) ∧ w8.cell? ⟨w.heap.size, 1, none⟩ = some (.slice a rs.length c) := ⟨V3.c0, V3.c1, V1.c0, V1.c1⟩
  go_wp2_with fail
  go_region_held3 (fun w' => w'.cell? ⟨q5, 0, none⟩ = some (.int .i64 n) ∧ w'.cell? ⟨q5, 1, none⟩ = some (.slice ax rs.length cx) ∧ w'.cell? ⟨w.heap.size, 0, none⟩ = some (.int .i64 n) ∧ w'.cell? ⟨w.heap.size, 1, none⟩ = some (.slice a rs.length c))
   (first | exact K1 | exact m1 | exact m2)
   (first
   | (go_at_call 6; refine (toShape_any n a c rs _ (S1.below (Below.refl _ _).drew) L1.out).mono ?_; rintro e y1 ⟨a8, c8, rfl, o8, hb⟩; have N1 := (Below.refl w8.heap.size w8).drew.trans (hb.mono (by simp)); have m1 := keepG4 K1 N1; clear hb)
   | (go_at_call 10; refine (eqShape_any n ax a8 cx c8 rs _ (O5.below N1).sees o8.sees).mono ?_; rintro e y2 ⟨rfl, hb⟩; have N2 := N1.trans (hb.mono N1.size); have m2 := keepG4 K1 N2; clear hb o8))
  have hb := N2
  have sy2 := hb.size
  replace BX := BX.trans (hb.mono (by omega))
  replace S1 := S1.below hb
  replace V1 := V1.below hb
  replace V2 := V2.below hb
  replace V3 := V3.below hb
  replace Y0 := Y0.below hb
  replace F0 := F0.below hb
  replace Y8 := Y8.below hb
  replace Fg := Fg.below hb
  replace O5 := O5.below hb
  replace B := B.trans (hb.mono B.size)
  clear N1 N2 m1 m2 K1 hb
  have BX' : Below x4.heap.size x4 y2 := by rw [hq5]; exact BX
  obtain ⟨k4, k5, _, _⟩ := id V3
  go_wp2_with fail
  refine (markShape_any n W1.heap.size q5 ax cx rs _ O5 (fun b off e => (M5.out b off e).below BX') L1.out).mono ?_
  rintro e y3 ⟨kk, rfl, kk0, PU⟩
  have bn := below1 y2 (.cells #[.int .i64 n, .slice ax rs.length cx] 36)
  replace F0 := (F0.below bn).puts PU (fun q off e hn => .inl (T1.out q off e hn)) (fun q off e hn => .inl (T2.out q off e hn))
  replace Y0 := (Y0.below bn).puts PU (.inl (by omega))
  replace V1 := (V1.below bn).puts PU (.inl (by omega))
  replace V2 := (V2.below bn).puts PU (.inl (by omega))
  replace Fg := (Fg.below bn).puts PU (fun q off e hn => .inr (by have := (Fg.o1.new q off e hn).1; omega)) (fun q off e hn => .inr (by have := (Fg.o2.new q off e hn).1; omega))
  replace Y8 := (Y8.below bn).puts PU (.inr (by omega))
  replace B := belowPuts (B.trans (bn.mono B.size)) PU (by omega)
  have hkk : ¬ kk < 0 := by omega
  clear bn PU BX BX' k4 k5 V3 O5 M5 S1
  obtain ⟨t0, t1, t2, t3, _, _⟩ := id Y8
  obtain ⟨m0, m1, m2, m3, _, _⟩ := id Y0
  go_wp2_with fail
  refine (eqF gz gy ag a0 bg b0 cg c0 dg d0 zs ts _ Fg.o1.toSees F0.o1.toSees Fg.o2.toSees F0.o2.toSees).mono ?_
  rintro e y4 ⟨rfl, hb⟩
  replace V1 := V1.below hb
  replace V2 := V2.below hb
  replace Y0 := Y0.below hb
  replace F0 := F0.below hb
  replace Y8 := Y8.below hb
  replace Fg := Fg.below hb
  replace B := B.trans (hb.mono B.size)
  clear hb t0 t1 t2 t3 m0 m1 m2 m3
  have hz4 : W5.heap.size ≤ y4.heap.size := by have := Y8.lt; omega
  obtain ⟨t0, t1, t2, t3, _, _⟩ := id Y8
  go_wp2_with fail
  refine (markF _ gz gy ag bg cg dg zs ts 1 _ Fg.o1 Fg.o2 Fg.ap (by decide) (by omega)).mono ?_
  rintro e y5 ⟨rfl, wm, g1, g2, om1, om2⟩
  have hb := below_two Fg.o1 Fg.o2 g1 g2 hz4
  replace F0 := F0.under hb (fun q off e hn => by have := T1.out q off e hn; omega) (fun q off e hn => by have := T2.out q off e hn; omega)
  replace Y0 := Y0.underD hb (by omega)
  replace V1 := V1.underD hb (by omega)
  replace V2 := V2.underD hb (by omega)
  replace Y8 := (Y8.grownD g1 ne8.out.1).grownD g2 ne8.out.2
  replace B := B.trans (hb.mono (by omega))
  clear hb g1 g2 Fg t0 t1 t2 t3
  obtain ⟨t0, t1, t2, t3, _, _⟩ := id Y8
  go_wp2_with fail
  refine (heldF gz gy ag bg cg dg zs.length ts.length 1 _ om1.toSees om2.toSees (by decide) (by omega)).mono ?_
  rintro e y6 ⟨rfl, hb⟩
  replace V1 := V1.below hb
  replace V2 := V2.below hb
  replace Y0 := Y0.below hb
  replace F0 := F0.below hb
  replace Y8 := Y8.below hb
  replace om1 := om1.below hb
  replace om2 := om2.below hb
  replace B := B.trans (hb.mono B.size)
  clear hb t0 t1 t2 t3
  have hk1 : decide ((1 : Int) + zs.length + ts.length < 0) = false := by simp; omega
  have hk2 : ¬ ((1 : Int) + zs.length + ts.length < 0) := by omega
  have hk3 : ((1 : Int) + zs.length + ts.length != (1 : Int) + zs.length + ts.length) = false := by simp
  have S1 := S2.out.below B
  go_wp2_with fail
  go_cut [12] (fun s12 W => ∃ (p : Nat) (a5 : Option Addr) (c5 : Nat) (b5 : Option Addr) (d5 : Nat), s12 = .pointer (some ⟨p, 0, none⟩) ∧ Box4 y6.heap.size W p (.bool gz) (.slice a5 zs.length c5) (.bool gy) (.slice b5 ts.length d5) ∧ FrO y6.heap.size W z a5 c5 zs b5 d5 ts ∧ Hid (some p ≠ rowOf a5 zs ∧ some p ≠ rowOf b5 ts) ∧ Below y6.heap.size y6 W)
  case first =>
   as_aux_lemma =>
    rename_i hcJ hcK
    clear F0 Y0 T1 T2 Y8 om1 om2 S2
    have N : Below y6.heap.size y6 y6.drew := (Below.refl _ _).drew
    refine wp_region_held_drew (S := fun w' => Below y6.heap.size y6 w') (by kernel_rfl) N (fun hHeld => ?_)
    clear hHeld
    generalize y6.drew = ww0 at *
    refine takeA (i := 0) (hy := by intro wq hSw; have y0 := bat hSw V1.c0; have y1 := bat hSw V1.c1; have y2 := bat hSw V2.c0; have y3 := bat hSw V2.c1; go_simp <;> with_reducible rfl) (h := ?_)
    refine takeA (i := 2) (hy := by intro wq hSw; have y0 := bat hSw V1.c0; have y1 := bat hSw V1.c1; have y2 := bat hSw V2.c0; have y3 := bat hSw V2.c1; go_simp <;> with_reducible rfl) (h := ?_)
    refine capture2 (fun wpx fr0 ha0 hwp => ?_)
    revert N
    revert ww0
    have H3_p6 : ∀ (a3 : Option Addr) (c3 : Nat) (a5 : Option Addr) (c5 : Nat) (b5 : Option Addr) (d5 : Nat) (p6 : Nat) (V : World), Below y6.heap.size y6 V → FrO y6.heap.size V z a5 c5 zs b5 d5 ts → Box4 y6.heap.size V p6 (.bool false) (.slice none 0 0) (.bool false) (.slice none 0 0) → Hid (some p6 ≠ rowOf a5 zs ∧ some p6 ≠ rowOf b5 ts) → wpx 1 #[true, true, true, true, true, true, false] ((((fr0.put (some 61) (.agg #[.int .i64 n, .slice a3 rs.length c3])).put (some 63) (.agg #[.int .i64 px, .int .i64 py])).put (some 64) (.agg #[.bool gz, .slice a5 zs.length c5, .bool gy, .slice b5 ts.length d5])).put (some 12) (.pointer (some ⟨p6, 0, none⟩))) V := by
     as_aux_lemma =>
      intro a3 c3 a5 c5 b5 d5 p6 V N FO Y6 n_p6
      refine Eq.mpr (hwp _ _ _ _) ?_
      rw [ha0]
      try simp only [Act.put, pA, pB, pC]
      refine rdA (i := 6) (h := fun K hK => ?_)
      obtain ⟨q0, q1, q2, q3, qf, _⟩ := id Y6
      go_simp
      replace N := Box4.chain N Y6 (.bool gz) (.slice a5 zs.length c5) (.bool gy) (.slice b5 ts.length d5)
      replace FO := FO.put n_p6.out (.bool gz) (.slice a5 zs.length c5) (.bool gy) (.slice b5 ts.length d5)
      replace Y6 := Y6.put (.bool gz) (.slice a5 zs.length c5) (.bool gy) (.slice b5 ts.length d5)
      refine hK.out _ _ N (fun hHeld => ?_)
      clear hK K hHeld
      try simp only [pA, pB, pC]
      clear q0 q1 q2 q3 qf
      generalize ((((V.setCell ⟨p6, 0, none⟩ (.bool gz)).setCell ⟨p6, 1, none⟩ (.slice a5 zs.length c5)).setCell ⟨p6, 2, none⟩ (.bool gy)).setCell ⟨p6, 3, none⟩ (.slice b5 ts.length d5)) = Vs0 at *
      refine wpAnyH_done (by kernel_rfl) ?_ _
      refine hcK _ _ (Met.intro (hcJ _ _ ?_))
      (repeat apply Exists.intro)
      refine ⟨?rel, rfl⟩
      case rel => exact ⟨p6, a5, c5, b5, d5, rfl, Y6, FO, n_p6, N⟩
    have H3 : ∀ (a3 : Option Addr) (c3 : Nat) (a5 : Option Addr) (c5 : Nat) (b5 : Option Addr) (d5 : Nat) (V : World), Below y6.heap.size y6 V → FrO y6.heap.size V z a5 c5 zs b5 d5 ts → wpx 2 #[true, true, true, true, true, false, false] (((fr0.put (some 61) (.agg #[.int .i64 n, .slice a3 rs.length c3])).put (some 63) (.agg #[.int .i64 px, .int .i64 py])).put (some 64) (.agg #[.bool gz, .slice a5 zs.length c5, .bool gy, .slice b5 ts.length d5])) V := by
     as_aux_lemma =>
      intro a3 c3 a5 c5 b5 d5 V N FO
      refine Eq.mpr (hwp _ _ _ _) ?_
      rw [ha0]
      try simp only [Act.put, pA, pB, pC]
      refine rdA (i := 5) (h := fun K hK => ?_)
      ·go_simp
       have Y6 := Box4.new V (lo := y6.heap.size) N.size (.bool false) (.slice none 0 0) (.bool false) (.slice none 0 0) 32
       have hb := below1 V (.cells #[.bool false, .slice none 0 0, .bool false, .slice none 0 0] 32)
       have n_p6 : Hid (some V.heap.size ≠ rowOf a5 zs ∧ some V.heap.size ≠ rowOf b5 ts) := ⟨row_ne_high FO.o1.toCame (Nat.le_refl _), row_ne_high FO.o2.toCame (Nat.le_refl _)⟩
       replace FO := FO.below hb
       replace N := N.trans (hb.mono N.size)
       refine hK.out _ _ N (fun hHeld => ?_)
       clear hK K hHeld
       try simp only [pA, pB, pC]
       clear hb
       refine Eq.mp (hwp _ _ _ _) ?_
       exact met2 (H3_p6 a3 c3 a5 c5 b5 d5 V.heap.size _ N FO Y6 n_p6) (by kernel_rfl) (by rw [ha0]; simp only [Act.put, pA, pB, pC])
    have H2_p6 : ∀ (a3 : Option Addr) (c3 : Nat) (p6 : Nat) (V : World), Below y6.heap.size y6 V → SeesS V a3 c3 rs → Box4 y6.heap.size V p6 (.bool false) (.slice none 0 0) (.bool false) (.slice none 0 0) → wpx 2 #[true, true, true, true, false, true, false] (((fr0.put (some 61) (.agg #[.int .i64 n, .slice a3 rs.length c3])).put (some 63) (.agg #[.int .i64 px, .int .i64 py])).put (some 12) (.pointer (some ⟨p6, 0, none⟩))) V := by
     as_aux_lemma =>
      intro a3 c3 p6 V N SS Y6
      refine Eq.mpr (hwp _ _ _ _) ?_
      rw [ha0]
      try simp only [Act.put, pA, pB, pC]
      refine rdA (i := 4) (h := fun K hK => ?_)
      ·go_simp
       refine (implDistA n a3 c3 rs px py _ SS HZ.out HV.out HG.out HY.out).mono ?_
       rintro e V1 ⟨a5, c5, b5, d5, rfl, FO, hb⟩
       have n_p6 : Hid (some p6 ≠ rowOf a5 zs ∧ some p6 ≠ rowOf b5 ts) := ⟨row_ne_low FO.o1 Y6.lt, row_ne_low FO.o2 Y6.lt⟩
       replace FO := FO.base (lo' := y6.heap.size) N.size
       replace SS := SS.below hb
       replace Y6 := Y6.below hb
       replace N := N.trans (hb.mono N.size)
       refine hK.out _ _ N (fun hHeld => ?_)
       clear hK K hHeld
       try simp only [pA, pB, pC]
       clear hb
       refine Eq.mp (hwp _ _ _ _) ?_
       exact met2 (H3_p6 a3 c3 a5 c5 b5 d5 p6 _ N FO Y6 n_p6) (by kernel_rfl) (by rw [ha0]; simp only [Act.put, pA, pB, pC])
    have H2 : ∀ (a3 : Option Addr) (c3 : Nat) (V : World), Below y6.heap.size y6 V → SeesS V a3 c3 rs → wpx 3 #[true, true, true, true, false, false, false] ((fr0.put (some 61) (.agg #[.int .i64 n, .slice a3 rs.length c3])).put (some 63) (.agg #[.int .i64 px, .int .i64 py])) V := by
     as_aux_lemma =>
      intro a3 c3 V N SS
      refine Eq.mpr (hwp _ _ _ _) ?_
      rw [ha0]
      try simp only [Act.put, pA, pB, pC]
      refine wpAnyH_ready (rs := [4, 5]) (by kernel_rfl) (by simp) (AllReadyH.cons (gtA rfl) (fun K hK => ?_) (AllReadyH.cons (gtA rfl) (fun K hK => ?_) AllReadyH.nil))
      ·go_simp
       refine (implDistA n a3 c3 rs px py _ SS HZ.out HV.out HG.out HY.out).mono ?_
       rintro e V1 ⟨a5, c5, b5, d5, rfl, FO, hb⟩
       replace FO := FO.base (lo' := y6.heap.size) N.size
       replace SS := SS.below hb
       replace N := N.trans (hb.mono N.size)
       refine hK.out _ _ N (fun hHeld => ?_)
       clear hK K hHeld
       try simp only [pA, pB, pC]
       clear hb
       refine Eq.mp (hwp _ _ _ _) ?_
       exact met2 (H3 a3 c3 a5 c5 b5 d5 _ N FO) (by kernel_rfl) (by rw [ha0]; simp only [Act.put, pA, pB, pC])
      ·go_simp
       have Y6 := Box4.new V (lo := y6.heap.size) N.size (.bool false) (.slice none 0 0) (.bool false) (.slice none 0 0) 32
       have hb := below1 V (.cells #[.bool false, .slice none 0 0, .bool false, .slice none 0 0] 32)
       replace SS := SS.below hb
       replace N := N.trans (hb.mono N.size)
       refine hK.out _ _ N (fun hHeld => ?_)
       clear hK K hHeld
       try simp only [pA, pB, pC]
       clear hb
       refine Eq.mp (hwp _ _ _ _) ?_
       exact met2 (H2_p6 a3 c3 V.heap.size _ N SS Y6) (by kernel_rfl) (by rw [ha0]; simp only [Act.put, pA, pB, pC])
    have H1_p6 : ∀ (a3 : Option Addr) (c3 : Nat) (p6 : Nat) (V : World), Below y6.heap.size y6 V → SeesS V a3 c3 rs → Box4 y6.heap.size V p6 (.bool false) (.slice none 0 0) (.bool false) (.slice none 0 0) → wpx 3 #[true, true, true, false, false, true, false] ((fr0.put (some 61) (.agg #[.int .i64 n, .slice a3 rs.length c3])).put (some 12) (.pointer (some ⟨p6, 0, none⟩))) V := by
     as_aux_lemma =>
      intro a3 c3 p6 V N SS Y6
      refine Eq.mpr (hwp _ _ _ _) ?_
      rw [ha0]
      try simp only [Act.put, pA, pB, pC]
      refine rdA (i := 3) (h := fun K hK => ?_)
      ·go_simp
       refine (toPt_any px py _).mono ?_
       rintro e V1 ⟨rfl, hb⟩
       replace SS := SS.below hb
       replace Y6 := Y6.below hb
       replace N := N.trans (hb.mono N.size)
       refine hK.out _ _ N (fun hHeld => ?_)
       clear hK K hHeld
       try simp only [pA, pB, pC]
       clear hb
       refine Eq.mp (hwp _ _ _ _) ?_
       exact met2 (H2_p6 a3 c3 p6 _ N SS Y6) (by kernel_rfl) (by rw [ha0]; simp only [Act.put, pA, pB, pC])
    have H1 : ∀ (a3 : Option Addr) (c3 : Nat) (V : World), Below y6.heap.size y6 V → SeesS V a3 c3 rs → wpx 4 #[true, true, true, false, false, false, false] (fr0.put (some 61) (.agg #[.int .i64 n, .slice a3 rs.length c3])) V := by
     as_aux_lemma =>
      intro a3 c3 V N SS
      refine Eq.mpr (hwp _ _ _ _) ?_
      rw [ha0]
      try simp only [Act.put, pA, pB, pC]
      refine wpAnyH_ready (rs := [3, 5]) (by kernel_rfl) (by simp) (AllReadyH.cons (gtA rfl) (fun K hK => ?_) (AllReadyH.cons (gtA rfl) (fun K hK => ?_) AllReadyH.nil))
      ·go_simp
       refine (toPt_any px py _).mono ?_
       rintro e V1 ⟨rfl, hb⟩
       replace SS := SS.below hb
       replace N := N.trans (hb.mono N.size)
       refine hK.out _ _ N (fun hHeld => ?_)
       clear hK K hHeld
       try simp only [pA, pB, pC]
       clear hb
       refine Eq.mp (hwp _ _ _ _) ?_
       exact met2 (H2 a3 c3 _ N SS) (by kernel_rfl) (by rw [ha0]; simp only [Act.put, pA, pB, pC])
      ·go_simp
       have Y6 := Box4.new V (lo := y6.heap.size) N.size (.bool false) (.slice none 0 0) (.bool false) (.slice none 0 0) 32
       have hb := below1 V (.cells #[.bool false, .slice none 0 0, .bool false, .slice none 0 0] 32)
       replace SS := SS.below hb
       replace N := N.trans (hb.mono N.size)
       refine hK.out _ _ N (fun hHeld => ?_)
       clear hK K hHeld
       try simp only [pA, pB, pC]
       clear hb
       refine Eq.mp (hwp _ _ _ _) ?_
       exact met2 (H1_p6 a3 c3 V.heap.size _ N SS Y6) (by kernel_rfl) (by rw [ha0]; simp only [Act.put, pA, pB, pC])
    have H0_p6 : ∀ (p6 : Nat) (V : World), Below y6.heap.size y6 V → Box4 y6.heap.size V p6 (.bool false) (.slice none 0 0) (.bool false) (.slice none 0 0) → wpx 4 #[true, false, true, false, false, true, false] (fr0.put (some 12) (.pointer (some ⟨p6, 0, none⟩))) V := by
     as_aux_lemma =>
      intro p6 V N Y6
      refine Eq.mpr (hwp _ _ _ _) ?_
      rw [ha0]
      try simp only [Act.put, pA, pB, pC]
      refine rdA (i := 1) (h := fun K hK => ?_)
      ·go_simp
       refine (toShape_any n a c rs _ (S1.below N) L1.out).mono ?_
       rintro e V1 ⟨a3, c3, rfl, o3, hb⟩
       have SS := o3.sees
       clear o3
       replace Y6 := Y6.below hb
       replace N := N.trans (hb.mono N.size)
       refine hK.out _ _ N (fun hHeld => ?_)
       clear hK K hHeld
       try simp only [pA, pB, pC]
       clear hb
       refine Eq.mp (hwp _ _ _ _) ?_
       exact met2 (H1_p6 a3 c3 p6 _ N SS Y6) (by kernel_rfl) (by rw [ha0]; simp only [Act.put, pA, pB, pC])
    have H0 : ∀ (V : World), Below y6.heap.size y6 V → wpx 5 #[true, false, true, false, false, false, false] fr0 V := by
     as_aux_lemma =>
      intro V N
      refine Eq.mpr (hwp _ _ _ _) ?_
      rw [ha0]
      try simp only [Act.put, pA, pB, pC]
      refine wpAnyH_ready (rs := [1, 5]) (by kernel_rfl) (by simp) (AllReadyH.cons (gtA rfl) (fun K hK => ?_) (AllReadyH.cons (gtA rfl) (fun K hK => ?_) AllReadyH.nil))
      ·go_simp
       refine (toShape_any n a c rs _ (S1.below N) L1.out).mono ?_
       rintro e V1 ⟨a3, c3, rfl, o3, hb⟩
       have SS := o3.sees
       clear o3
       replace N := N.trans (hb.mono N.size)
       refine hK.out _ _ N (fun hHeld => ?_)
       clear hK K hHeld
       try simp only [pA, pB, pC]
       clear hb
       refine Eq.mp (hwp _ _ _ _) ?_
       exact met2 (H1 a3 c3 _ N SS) (by kernel_rfl) (by rw [ha0]; simp only [Act.put, pA, pB, pC])
      ·go_simp
       have Y6 := Box4.new V (lo := y6.heap.size) N.size (.bool false) (.slice none 0 0) (.bool false) (.slice none 0 0) 32
       have hb := below1 V (.cells #[.bool false, .slice none 0 0, .bool false, .slice none 0 0] 32)
       replace N := N.trans (hb.mono N.size)
       refine hK.out _ _ N (fun hHeld => ?_)
       clear hK K hHeld
       try simp only [pA, pB, pC]
       clear hb
       refine Eq.mp (hwp _ _ _ _) ?_
       exact met2 (H0_p6 V.heap.size _ N Y6) (by kernel_rfl) (by rw [ha0]; simp only [Act.put, pA, pB, pC])
    intro ww0 N
    exact met2 (H0 ww0 N) (by kernel_rfl) rfl
  rename World => W9
  obtain ⟨p9, ah, ch, bh, dh, rfl, Y9, Fh, _, hb⟩ := hcut
  replace Y0 := Y0.below hb
  replace F0 := F0.below hb
  replace Y8 := Y8.below hb
  replace om1 := om1.below hb
  replace om2 := om2.below hb
  replace B := B.trans (hb.mono B.size)
  clear hb S1 V1 V2
  obtain ⟨t0, t1, t2, t3, _, _⟩ := id Y9
  obtain ⟨m0, m1, m2, m3, _, _⟩ := id Y0
  go_wp2_with fail
  refine (eqF gz gy ah a0 bh b0 ch c0 dh d0 zs ts _ Fh.o1.toSees F0.o1.toSees Fh.o2.toSees F0.o2.toSees).mono ?_
  rintro e y7 ⟨rfl, hb⟩
  replace Y8 := Y8.below hb
  replace om1 := om1.below hb
  replace om2 := om2.below hb
  replace B := B.trans (hb.mono B.size)
  clear hb t0 t1 t2 t3 m0 m1 m2 m3 Y9 Y0 F0 Fh
  obtain ⟨t0, t1, t2, t3, _, _⟩ := id Y8
  go_wp2_with fail
  refine (heldF gz gy ag bg cg dg zs.length ts.length 1 _ om1.toSees om2.toSees (by decide) (by omega)).mono ?_
  rintro e y8 ⟨rfl, hb⟩
  replace B := B.trans (hb.mono B.size)
  clear hb t0 t1 t2 t3
  go_wp2
  go_ret
  exact ⟨rfl, B⟩
end Go.Proofs.YtnjbedhealpgcaaGreat
