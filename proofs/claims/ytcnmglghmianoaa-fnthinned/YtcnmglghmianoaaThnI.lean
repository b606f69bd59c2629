/- The closure of the program's Thin: what lies between two points is thinned. -/
import Derived.Test.YtcnmglghmianoaaFarI
import Derived.Test.YtcnmglghmianoaaShR
namespace Go.Proofs.Ytcnmglghmianoaa
open Go.RowKit

/-- What the closure sees: the row, the square, itself, and what is kept. -/
structure ThS (z pr pl pt pk lo : Nat) (a : Option Addr) (c : Nat) (ps : List (Int × Int)) (sq : Int) (w : World) (v : Value) (ks : List (Int × Int)) : Prop where
  row : w.cell? ⟨pr, 0, none⟩ = some (.slice a ps.length c)
  sees : SeesP w a c ps
  lim : ∃ a1 c1 qs a2 c2 rs, Box4 0 w pl (.bool false) (.slice a1 qs.length c1) (.bool false) (.slice a2 rs.length c2) ∧ Fr w pk a1 c1 qs a2 c2 rs sq 1 ∧ (∀ b, lo ≤ b → some b ≠ rowOf a1 qs ∧ some b ≠ rowOf a2 rs)
  fn : w.cell? ⟨pt, 0, none⟩ = some (.func (.func 21) #[] #[.pointer (some ⟨pr, 0, none⟩), .pointer (some ⟨pl, 0, none⟩), .pointer (some ⟨pt, 0, none⟩), .pointer (some ⟨pk, 0, none⟩)])
  kc : w.cell? ⟨pk, 0, none⟩ = some v
  kf : ∀ o, w.frozen? ⟨pk, o, none⟩ = false
  own : RowPt lo w v ks
  ne : v.ownBlock ≠ some pk ∧ v.ownBlock ≠ some pt
  ord : z ≤ pr ∧ pr < lo ∧ pl < lo ∧ lo ≤ pk ∧ lo ≤ pt ∧ pk ≠ pt
  low : ∀ b off, a = some ⟨b, off, none⟩ → ps ≠ [] → b < lo
theorem ThS.below {z pr pl pt pk lo : Nat} {a : Option Addr} {c : Nat} {ps : List (Int × Int)} {sq : Int} {w w' : World} {v : Value} {ks : List (Int × Int)} (h : ThS z pr pl pt pk lo a c ps sq w v ks) (hb : Below w.heap.size w w') : ThS z pr pl pt pk lo a c ps sq w' v ks := by
  obtain ⟨a1, c1, qs, a2, c2, rs, B, F, r⟩ := h.lim
  have hpk : pk < w.heap.size := World.block_lt_of_cell? w ⟨pk, 0, none⟩ h.kc
  exact ⟨bat hb h.row, h.sees.below hb, ⟨a1, c1, qs, a2, c2, rs, B.below hb, F.below hb, r⟩, bat hb h.fn, bat hb h.kc, fun o => (hb.frozen (p := ⟨pk, o, none⟩) hpk).trans (h.kf o), h.own.below hb, h.ne, h.ord, h.low⟩
/-- A point more is kept: behind the append. -/
theorem ThS.snoc {z pr pl pt pk lo : Nat} {a : Option Addr} {c : Nat} {ps : List (Int × Int)} {sq : Int} {w w' : World} {v v' : Value} {ks ls : List (Int × Int)} (h : ThS z pr pl pt pk lo a c ps sq w v ks) (own : RowPt lo w' v' ls) (g : w.grownBy w' v.ownBlock) (at' : v'.ownBlock = v.ownBlock ∨ v'.ownBlock = some w.heap.size) :
    ThS z pr pl pt pk lo a c ps sq (w'.setCell ⟨pk, 0, none⟩ v') v' ls := by
  obtain ⟨o1, o2, o3, o4, o5, o6⟩ := h.ord
  have vlo : ∀ k, v.ownBlock = some k → lo ≤ k := fun k hk => (World.ownsRow.lt h.own k hk).1
  have keep : ∀ b, b < w.heap.size → v.ownBlock ≠ some b → w'.heap[b]? = w.heap[b]? := fun b hb hv => g.block b hb (fun e => hv e.symm)
  have hpk := World.block_lt_of_cell? _ _ h.kc
  have hpt := World.block_lt_of_cell? _ _ h.fn
  have hpr := World.block_lt_of_cell? _ _ h.row
  have nlow : ∀ b, b < lo → v.ownBlock ≠ some b := fun b hb e => by have := vlo b e; omega
  have cellk : ∀ b o u, b < w.heap.size → v.ownBlock ≠ some b → b ≠ pk → w.cell? ⟨b, o, none⟩ = some u → (w'.setCell ⟨pk, 0, none⟩ v').cell? ⟨b, o, none⟩ = some u := fun b o u hb hv hk hc =>
    (cell_other (.inl (Ne.symm hk)) v').trans ((World.cell?_of_block (a := ⟨b, o, none⟩) (keep b hb hv)).trans hc)
  have frk : ∀ b o, b < w.heap.size → v.ownBlock ≠ some b → (w'.setCell ⟨pk, 0, none⟩ v').frozen? ⟨b, o, none⟩ = w.frozen? ⟨b, o, none⟩ := fun b o hb hv =>
    (World.frozen?_setCell ..).trans (World.frozen?_of_block (a := ⟨b, o, none⟩) (keep b hb hv))
  have v'ne : v'.ownBlock ≠ some pk ∧ v'.ownBlock ≠ some pt := by
    rcases at' with e | e
    · rw [e]; exact h.ne
    · rw [e]
      exact ⟨fun q => by injection q with q; exact absurd hpk (by show ¬ pk < _; omega), fun q => by injection q with q; exact absurd hpt (by show ¬ pt < _; omega)⟩
  have gq : w'.grownBy (w'.setCell ⟨pk, 0, none⟩ v') (some pk) := grownBy_setCell (p := ⟨pk, 0, none⟩) (grownBy_refl _ _) rfl _
  refine ⟨cellk pr 0 _ hpr (nlow pr o2) (by omega) h.row, ⟨h.sees.fits, h.sees.max, fun hn => ?_⟩, ?_, cellk pt 0 _ hpt h.ne.2 (fun e => o6 e.symm) h.fn, ?_, fun o => (frk pk o hpk h.ne.1).trans (h.kf o), owns_kept own gq (fun k hk e => v'ne.1 (by injection e with e; rw [e]; exact hk)), v'ne, h.ord, h.low⟩
  · obtain ⟨b, off, e, hc⟩ := h.sees.cells hn
    have hb := h.low b off e hn
    exact ⟨b, off, e, fun i hi => ⟨cellk b _ _ (World.block_lt_of_cell? _ _ (hc i hi).1) (nlow b hb) (by omega) (hc i hi).1, cellk b _ _ (World.block_lt_of_cell? _ _ (hc i hi).1) (nlow b hb) (by omega) (hc i hi).2⟩⟩
  · obtain ⟨a1, c1, qs, a2, c2, rs, B, F, r⟩ := h.lim
    have hpl := B.lt
    have see : ∀ {x : Option Addr} {y : Nat} {zs : List Int}, Sees w x y zs → (∀ b, lo ≤ b → some b ≠ rowOf x zs) → Sees (w'.setCell ⟨pk, 0, none⟩ v') x y zs := fun {x y zs} S q =>
      (S.kept g (fun b off e hn e2 => (by
        have := vlo b e2
        exact q b this (by unfold rowOf; rw [if_neg hn, e]; rfl)))).kept gq (fun b off e hn e2 => (by
        injection e2 with e2
        exact q b (by omega) (by unfold rowOf; rw [if_neg hn, e]; rfl)))
    exact ⟨a1, c1, qs, a2, c2, rs, ⟨cellk pl 0 _ hpl (nlow pl o3) (by omega) B.c0, cellk pl 1 _ hpl (nlow pl o3) (by omega) B.c1, cellk pl 2 _ hpl (nlow pl o3) (by omega) B.c2, cellk pl 3 _ hpl (nlow pl o3) (by omega) B.c3, fun o => (frk pl o hpl (nlow pl o3)).trans (B.fr o), Nat.zero_le _⟩, ⟨see F.s1 (fun b hb => (r b hb).1), see F.s2 (fun b hb => (r b hb).2), F.v1, F.v2, F.r1, F.r2⟩, r⟩
  · obtain ⟨u, hu⟩ : ∃ u, w'.cell? ⟨pk, 0, none⟩ = some u := ⟨v, (World.cell?_of_block (a := ⟨pk, 0, none⟩) (keep pk hpk h.ne.1)).trans h.kc⟩
    exact cell_same hu v'
theorem ThS.pkAt {z pr pl pt pk lo : Nat} {a : Option Addr} {c : Nat} {ps : List (Int × Int)} {sq : Int} {w w' : World} {v : Value} {ks : List (Int × Int)} (h : ThS z pr pl pt pk lo a c ps sq w v ks) (g : w.grownBy w' v.ownBlock) : w'.cell? ⟨pk, 0, none⟩ = some v ∧ (∀ o, w'.frozen? ⟨pk, o, none⟩ = false) ∧ (∀ b o u, b < lo → w.cell? ⟨b, o, none⟩ = some u → w'.cell? ⟨b, o, none⟩ = some u) := by
  have hpk : pk < w.heap.size := World.block_lt_of_cell? w ⟨pk, 0, none⟩ h.kc
  have hb := g.block pk hpk (fun e => h.ne.1 e.symm)
  exact ⟨(World.cell?_of_block (a := ⟨pk, 0, none⟩) hb).trans h.kc, fun o => (World.frozen?_of_block (a := ⟨pk, o, none⟩) hb).trans (h.kf o), fun b o u hl hc => (World.cell?_of_block (a := ⟨b, o, none⟩) (g.block b (World.block_lt_of_cell? _ _ hc) (fun e => by have := (World.ownsRow.lt h.own b e.symm).1; omega))).trans hc⟩
theorem ThS.belowZ {z pr pl pt pk lo : Nat} {a : Option Addr} {c : Nat} {ps : List (Int × Int)} {sq : Int} {w w' : World} {v v' : Value} {ks : List (Int × Int)} (h : ThS z pr pl pt pk lo a c ps sq w v ks) (g : w.grownBy w' v.ownBlock) : Below z w (w'.setCell ⟨pk, 0, none⟩ v') := by
  obtain ⟨o1, o2, o3, o4, o5, o6⟩ := h.ord
  have hpk := World.block_lt_of_cell? _ _ h.kc
  have hz : z ≤ w.heap.size := by have : pk < w.heap.size := hpk; omega
  exact (((Below.refl z w).grown g hz (fun k hk => by have := (World.ownsRow.lt h.own k hk).1; omega))).setCell (p := ⟨pk, 0, none⟩) (by dsimp only; omega) v'

theorem mid_len (ps : List (Int × Int)) {sq : Int} (hs : 0 ≤ sq) : ∀ k f t, f < t → (mid ps sq k f t).length + 1 ≤ t - f
  | 0, f, t, h => by simp [mid]; omega
  | k + 1, f, t, h => by
    simp only [mid]
    split
    · simp; omega
    · rename_i n3
      obtain ⟨b1, b2⟩ := far_in hs n3
      have h1 := mid_len ps hs k f _ b1
      have h2 := mid_len ps hs k _ t b2
      rw [List.length_append, List.length_cons]
      omega

set_option maxRecDepth 20000 in
set_option maxHeartbeats 1500000 in
theorem thin1_done {z pr pl pt pk lo : Nat} {a : Option Addr} {c : Nat} {ps : List (Int × Int)} {sq : Int} (ok : CrdL ps) (hl : ps.length ≤ 500) (f t : Nat) (w : World) (v : Value) (ks : List (Int × Int)) (S : ThS z pr pl pt pk lo a c ps sq w v ks) (hft : f < t) (ht : t < ps.length)
    (hc : (farL (gR ps f t) f (t - f - 1)).2.1 ≤ sq * (farL (gR ps f t) f (t - f - 1)).2.2) :
    Calls Try.prog 21 #[.int .i64 f, .int .i64 t, .pointer (some ⟨pr, 0, none⟩), .pointer (some ⟨pl, 0, none⟩), .pointer (some ⟨pt, 0, none⟩), .pointer (some ⟨pk, 0, none⟩)] w fun e w' => e = .returned (.tuple #[]) ∧ ThS z pr pl pt pk lo a c ps sq w' v ks ∧ Below z w w' := by
  have hzw : z ≤ w.heap.size := by have : pk < w.heap.size := World.block_lt_of_cell? w ⟨pk, 0, none⟩ S.kc; have := S.ord; omega
  have HS : Hid (ThS z pr pl pt pk lo a c ps sq w v ks) := S
  have k0 := S.row
  have HC : Hid ((farL (gR ps f t) f (t - f - 1)).2.1 * 1 ≤ sq * (farL (gR ps f t) f (t - f - 1)).2.2) := by show _ ≤ _; rw [Int.mul_one]; exact hc
  clear S hc
  go_enter Try.func21, Try.ntmps21
  go_wp2_with fail
  refine (farthest_any a c ps f t _ HS.out.sees ok hft ht hl).mono ?_
  rintro e w1 ⟨a1, c1, qs, a2, c2, rs, rfl, F, hb⟩
  have F9 := F w1.heap.size (.inr (Nat.le_refl _))
  generalize farL (gR ps f t) f (t - f - 1) = G at *
  obtain ⟨b, fn, fd⟩ := G
  dsimp only at *
  have bn := below1 w1 (.cells #[.bool false, .slice a1 qs.length c1, .bool false, .slice a2 rs.length c2] 37)
  have V9 := Box4.new w1 (lo := 0) (Nat.zero_le _) (.bool false) (.slice a1 qs.length c1) (.bool false) (.slice a2 rs.length c2) 37
  replace hb := hb.trans (bn.mono hb.size)
  have HS1 : Hid (ThS z pr pl pt pk lo a c ps sq (w1.alloc (.cells #[.bool false, .slice a1 qs.length c1, .bool false, .slice a2 rs.length c2] 37)) v ks) := HS.out.below hb
  have B1 := hb.mono hzw
  replace F9 := F9.below bn
  obtain ⟨a3, c3, ts, a4, c4, us, BL, FL, _⟩ := HS1.out.lim
  clear hb bn F k0 HS
  obtain ⟨g0, g1, g2, g3, _, _⟩ := id BL
  obtain ⟨m0, m1, m2, m3, _, _⟩ := id V9
  go_wp2_with fail
  generalize w1.alloc (.cells #[.bool false, .slice a1 qs.length c1, .bool false, .slice a2 rs.length c2] 37) = W2 at *
  refine (cmpFr _ _ a1 a2 a3 a4 c1 c2 c3 c4 qs rs ts us fn fd sq 1 _ F9 FL).mono ?_
  rintro e w3 ⟨rfl, hb⟩
  have HS2 : Hid (ThS z pr pl pt pk lo a c ps sq w3 v ks) := HS1.out.below hb
  have B2 := B1.trans (hb.mono (by have := B1.size; omega))
  obtain ⟨y, hy⟩ : ∃ y, Hid (cmpZ (fn * 1) (sq * fd) = y) := ⟨_, rfl⟩
  have y0 : y ≤ 0 := by rw [← hy.out]; exact cmpZ_le (by have := HC.out; omega)
  rw [hy.out]
  clear hb HS1 B1 F9 FL BL V9 g0 g1 g2 g3 m0 m1 m2 m3 hy
  go_wp2
  exact bodyPost_ret (results_none Try.results21 _ _ _) rfl ⟨rfl, HS2.out, B2⟩

set_option maxRecDepth 20000 in
set_option maxHeartbeats 2000000 in
theorem thin1_any {z pr pl pt pk lo : Nat} {a : Option Addr} {c : Nat} {ps : List (Int × Int)} {sq : Int} (ok : CrdL ps) (hl : ps.length ≤ 500) (hs : 0 ≤ sq) : ∀ (k f t : Nat) (w : World) (v : Value) (ks : List (Int × Int)), ThS z pr pl pt pk lo a c ps sq w v ks → f < t → t < ps.length → t - f ≤ k + 1 → ks.length + (t - f) ≤ 2000 →
    Calls Try.prog 21 #[.int .i64 f, .int .i64 t, .pointer (some ⟨pr, 0, none⟩), .pointer (some ⟨pl, 0, none⟩), .pointer (some ⟨pt, 0, none⟩), .pointer (some ⟨pk, 0, none⟩)] w fun e w' => e = .returned (.tuple #[]) ∧ ∃ v', ThS z pr pl pt pk lo a c ps sq w' v' (ks ++ mid ps sq k f t) ∧ Below z w w' := by
  intro k
  induction k with
  | zero =>
    intro f t w v ks S hft ht hk _
    have hc : (farL (gR ps f t) f (t - f - 1)).2.1 ≤ sq * (farL (gR ps f t) f (t - f - 1)).2.2 := by
      rw [show t - f - 1 = 0 by omega]
      simp [farL]
      exact hs
    refine (thin1_done ok hl f t w v ks S hft ht hc).mono ?_
    rintro e w' ⟨rfl, S', B'⟩
    exact ⟨rfl, v, by simpa [mid] using S', B'⟩
  | succ k IH =>
    intro f t w v ks S hft ht hk hkl
    by_cases hc : (farL (gR ps f t) f (t - f - 1)).2.1 ≤ sq * (farL (gR ps f t) f (t - f - 1)).2.2
    · refine (thin1_done ok hl f t w v ks S hft ht hc).mono ?_
      rintro e w' ⟨rfl, S', B'⟩
      have e0 : mid ps sq (k + 1) f t = [] := by simp only [mid]; rw [if_pos hc]
      exact ⟨rfl, v, by rw [e0, List.append_nil]; exact S', B'⟩
    · have MI : Hid (mid ps sq (k + 1) f t = mid ps sq k f (farL (gR ps f t) f (t - f - 1)).1 ++ ptA ps (farL (gR ps f t) f (t - f - 1)).1 :: mid ps sq k (farL (gR ps f t) f (t - f - 1)).1 t) := by
        show _ = _
        rw [mid, if_neg hc]
      obtain ⟨b1, b2⟩ := far_in hs hc
      have ml1 := mid_len ps hs k f _ b1
      have hzw : z ≤ w.heap.size := by have : pk < w.heap.size := World.block_lt_of_cell? w ⟨pk, 0, none⟩ S.kc; have := S.ord; omega
      have HS : Hid (ThS z pr pl pt pk lo a c ps sq w v ks) := S
      have k0 := S.row
      have HC : Hid (sq * (farL (gR ps f t) f (t - f - 1)).2.2 < (farL (gR ps f t) f (t - f - 1)).2.1 * 1) := by show _ < _; rw [Int.mul_one]; omega
      have HIH : Hid (∀ (f t : Nat) (w : World) (v : Value) (ks : List (Int × Int)), ThS z pr pl pt pk lo a c ps sq w v ks → f < t → t < ps.length → t - f ≤ k + 1 → ks.length + (t - f) ≤ 2000 →
        Calls Try.prog 21 #[.int .i64 f, .int .i64 t, .pointer (some ⟨pr, 0, none⟩), .pointer (some ⟨pl, 0, none⟩), .pointer (some ⟨pt, 0, none⟩), .pointer (some ⟨pk, 0, none⟩)] w fun e w' => e = .returned (.tuple #[]) ∧ ∃ v', ThS z pr pl pt pk lo a c ps sq w' v' (ks ++ mid ps sq k f t) ∧ Below z w w') := IH
      obtain ⟨iP, hiP, hP0, hP1, hP2⟩ := info_parts infoPt
      clear S hc IH
      rw [MI.out]
      go_enter Try.func21, Try.ntmps21
      go_wp2_with fail
      refine (farthest_any a c ps f t _ HS.out.sees ok hft ht hl).mono ?_
      rintro e w1 ⟨a1, c1, qs, a2, c2, rs, rfl, F, hb⟩
      have F9 := F w1.heap.size (.inr (Nat.le_refl _))
      clear MI
      revert b1 b2 ml1 HC F F9
      generalize hG : farL (gR ps f t) f (t - f - 1) = G
      obtain ⟨b, fn, fd⟩ := G
      dsimp only
      intro b1 b2 ml1 HC F F9
      have bn := below1 w1 (.cells #[.bool false, .slice a1 qs.length c1, .bool false, .slice a2 rs.length c2] 37)
      have V9 := Box4.new w1 (lo := 0) (Nat.zero_le _) (.bool false) (.slice a1 qs.length c1) (.bool false) (.slice a2 rs.length c2) 37
      replace hb := hb.trans (bn.mono hb.size)
      have HS1 : Hid (ThS z pr pl pt pk lo a c ps sq (w1.alloc (.cells #[.bool false, .slice a1 qs.length c1, .bool false, .slice a2 rs.length c2] 37)) v ks) := HS.out.below hb
      have B1 := hb.mono hzw
      replace F9 := F9.below bn
      obtain ⟨a3, c3, ts, a4, c4, us, BL, FL, _⟩ := HS1.out.lim
      clear hb bn F k0 HS
      obtain ⟨g0, g1, g2, g3, _, _⟩ := id BL
      obtain ⟨m0, m1, m2, m3, _, _⟩ := id V9
      go_wp2_with fail
      generalize w1.alloc (.cells #[.bool false, .slice a1 qs.length c1, .bool false, .slice a2 rs.length c2] 37) = W2 at *
      refine (cmpFr _ _ a1 a2 a3 a4 c1 c2 c3 c4 qs rs ts us fn fd sq 1 _ F9 FL).mono ?_
      rintro e w3 ⟨rfl, hb⟩
      rw [cmpZ_gt HC.out]
      have HS2 : Hid (ThS z pr pl pt pk lo a c ps sq w3 v ks) := HS1.out.below hb
      have B2 := B1.trans (hb.mono (by have := B1.size; omega))
      clear hb HS1 B1 F9 FL BL V9 g0 g1 g2 g3 m0 m1 m2 m3 HC
      have q0 := HS2.out.fn
      go_wp2_with fail
      refine (HIH.out f b _ v ks HS2.out b1 (by omega) (by omega) (by omega)).mono ?_
      rintro e w4 ⟨rfl, v4, S4, B4⟩
      have HS4 : Hid (ThS z pr pl pt pk lo a c ps sq w4 v4 (ks ++ mid ps sq k f b)) := S4
      replace B2 := B2.trans B4
      have kl4 : (ks ++ mid ps sq k f b).length + 1 + (t - b) ≤ 2000 := by rw [List.length_append]; omega
      clear S4 B4 HS2 q0
      generalize hK4 : ks ++ mid ps sq k f b = k4 at *
      have q1 := HS4.out.row
      obtain ⟨bb, off, ea, hcs⟩ := HS4.out.sees.cells (by intro e; simp [e] at ht)
      subst ea
      obtain ⟨x0, y0⟩ := hcs b (by omega)
      obtain ⟨X, hX⟩ : ∃ X, Hid ((ps[b]?.getD (0, 0)).1 = X) := ⟨_, rfl⟩
      obtain ⟨Y, hY⟩ : ∃ X, Hid ((ps[b]?.getD (0, 0)).2 = X) := ⟨_, rfl⟩
      have PX : Hid (ptA ps b = (X, Y)) := Prod.ext hX.out hY.out
      rw [hX.out] at x0
      rw [hY.out] at y0
      have lb : b < ps.length := by omega
      have sm := HS4.out.sees.max
      have sf := HS4.out.sees.fits
      unfold maxLen at sm
      have R4 : RowPt lo w4 v4 k4 := HS4.out.own
      obtain ⟨va, vc, rfl, vf, vm⟩ := R4.shape
      clear hcs R4
      have bbl := HS4.out.low bb off rfl (by intro e; simp [e] at ht)
      have HO : Hid (z ≤ pr ∧ pr < lo ∧ pl < lo ∧ lo ≤ pk ∧ lo ≤ pt ∧ pk ≠ pt) := HS4.out.ord
      go_wp2_with fail
      have bd := ((Below.refl w4.heap.size w4).drew : Below w4.heap.size w4 _)
      have N : w4.drew.cell? ⟨pr, 0, none⟩ = some (.slice (some ⟨bb, off, none⟩) ps.length c) ∧ w4.drew.cell? ⟨bb, off + b * 2, none⟩ = some (.int .i64 X) ∧ w4.drew.cell? ⟨bb, off + b * 2 + 1, none⟩ = some (.int .i64 Y) := ⟨q1, x0, y0⟩
      have HT : Hid (ThS z pr pl pt pk lo (some ⟨bb, off, none⟩) c ps sq w4.drew (.slice va k4.length vc) k4) := HS4.out.below bd
      have BT : Hid (Below z w w4.drew) := B2.drew
      clear bd q1 x0 y0 HS4 B2
      refine wp_region_held_drew (S := fun W => W.cell? ⟨pr, 0, none⟩ = some (.slice (some ⟨bb, off, none⟩) ps.length c) ∧ W.cell? ⟨bb, off + b * 2, none⟩ = some (.int .i64 X) ∧ W.cell? ⟨bb, off + b * 2 + 1, none⟩ = some (.int .i64 Y)) (by kernel_rfl) N (fun hHeld => ?_)
      clear hHeld
      revert N HT BT
      generalize w4.drew = ww0
      intro N HT BT
      refine takeW (i := 1) (by simp only [List.getElem?_toArray, List.getElem?_cons_succ, List.getElem?_cons_zero]; exact rfl) (by kernel_rfl) (by kernel_rfl) (by kernel_rfl) (by exact fun _ _ _ h => h) (by rfl) (by intro wq hSw; obtain ⟨p1, p2, p3⟩ := hSw; go_simp <;> with_reducible rfl) (by assumption) ?_
      try simp only [Act.put, List.setIfInBounds_toArray, List.set_cons_zero, List.set_cons_succ]
      refine takeW (i := 2) (by simp only [List.getElem?_toArray, List.getElem?_cons_succ, List.getElem?_cons_zero]; exact rfl) (by kernel_rfl) (by kernel_rfl) (by kernel_rfl) (by exact fun _ _ _ h => h) (by rfl) (by intro wq hSw; go_simp <;> with_reducible rfl) (by assumption) ?_
      try simp only [Act.put, List.setIfInBounds_toArray, List.set_cons_zero, List.set_cons_succ]
      refine takeW (i := 3) (by simp only [List.getElem?_toArray, List.getElem?_cons_succ, List.getElem?_cons_zero]; exact rfl) (by kernel_rfl) (by kernel_rfl) (by kernel_rfl) (by exact fun _ _ _ h => h) (by rfl) (by intro wq hSw; go_simp <;> with_reducible rfl) (by assumption) ?_
      try simp only [Act.put, List.setIfInBounds_toArray, List.set_cons_zero, List.set_cons_succ]
      refine takeW (i := 4) (by simp only [List.getElem?_toArray, List.getElem?_cons_succ, List.getElem?_cons_zero]; exact rfl) (by kernel_rfl) (by kernel_rfl) (by kernel_rfl) (by exact fun _ _ _ h => h) (by rfl) (by intro wq hSw; obtain ⟨p1, p2, p3⟩ := hSw; go_simp <;> with_reducible rfl) (by assumption) ?_
      try simp only [Act.put, List.setIfInBounds_toArray, List.set_cons_zero, List.set_cons_succ]
      refine wpAnyH_ready (rs := [0, 5]) (by kernel_rfl) (by simp) (AllReadyH.cons (by simp only [List.getElem?_toArray, List.getElem?_cons_zero]; exact rfl) (fun K hK => ?_) (AllReadyH.cons (by simp only [List.getElem?_toArray, List.getElem?_cons_succ, List.getElem?_cons_zero]; exact rfl) (fun K hK => ?_) AllReadyH.nil))
      · skip
        have y1 := HT.out.kc
        go_simp
        refine hK.out _ _ N (fun hHeld => ?_)
        clear hK K hHeld y1
        try simp only [Act.put, List.setIfInBounds_toArray, List.set_cons_zero, List.set_cons_succ]
        refine wpAnyH_ready (rs := [5]) (by kernel_rfl) (by simp) (AllReadyH.cons (by simp only [List.getElem?_toArray, List.getElem?_cons_succ, List.getElem?_cons_zero]; exact rfl) (fun K hK => ?_) AllReadyH.nil)
        go_simp
        have bn := below1 ww0 (.cells #[.int .i64 X, .int .i64 Y] 31)
        have NW := pt_new ww0 31 X Y
        have N1 : _ ∧ _ ∧ _ := ⟨bat bn N.1, bat bn N.2.1, bat bn N.2.2⟩
        have HT1 : Hid (ThS z pr pl pt pk lo (some ⟨bb, off, none⟩) c ps sq (ww0.alloc (.cells #[.int .i64 X, .int .i64 Y] 31)) (.slice va k4.length vc) k4) := HT.out.below bn
        have BT1 : Hid (Below z w (ww0.alloc (.cells #[.int .i64 X, .int .i64 Y] 31))) := BT.out.trans (bn.mono (Nat.le_trans hzw (by have := BT.out.size; omega)))
        clear N HT BT bn
        have N := N1
        have HT := HT1
        have BT := BT1
        clear N1 HT1 BT1
        refine hK.out _ _ N (fun hHeld => ?_)
        clear hK K hHeld
        try simp only [Act.put, List.setIfInBounds_toArray, List.set_cons_zero, List.set_cons_succ]
        generalize ww0.alloc (.cells #[.int .i64 X, .int .i64 Y] 31) = ww1 at *
        generalize ww0.heap.size = z9 at *
        refine wpAnyH_ready (rs := [6]) (by kernel_rfl) (by simp) (AllReadyH.cons (by simp only [List.getElem?_toArray, List.getElem?_cons_succ, List.getElem?_cons_zero]; exact rfl) (fun K hK => ?_) AllReadyH.nil)
        have hlo : lo ≤ ww1.heap.size := by have : pk < ww1.heap.size := World.block_lt_of_cell? ww1 ⟨pk, 0, none⟩ HT.out.kc; have := HO.out; omega
        refine wp_append_at (.tmp 25) (.tmp 30) 24 rfl lo 31 iP (.agg #[.int .i64 0, .int .i64 0]) 2 16 Try.underlying24 hiP hP0 hP1 hP2 rfl (by decide) (.slice va k4.length vc) k4.length (ptC k4) rfl HT.out.own ⟨z9, 0, none⟩ 1 _ (ptC [(X, Y)]) rfl rfl NW (ptC_ones _) (by unfold maxLen; omega) (by omega) hlo ?_
        intro v5 w5 R5 G5 A5
        replace R5 := RowPt.snoc R5
        obtain ⟨pk1, pk2, pk3⟩ := HT.out.pkAt G5
        have HN : Hid (ThS z pr pl pt pk lo (some ⟨bb, off, none⟩) c ps sq (w5.setCell ⟨pk, 0, none⟩ v5) v5 (k4 ++ [(X, Y)])) := HT.out.snoc R5 G5 A5
        have BN : Hid (Below z w (w5.setCell ⟨pk, 0, none⟩ v5)) := BT.out.trans (HT.out.belowZ G5)
        obtain ⟨va5, vc5, e5, _, _⟩ := R5.shape
        rw [List.length_append, List.length_singleton] at e5
        subst e5
        have N5 : _ ∧ _ ∧ _ := ⟨pk3 pr 0 _ HO.out.2.1 N.1, pk3 bb _ _ bbl N.2.1, pk3 bb _ _ bbl N.2.2⟩
        clear N HT BT NW R5 G5 A5 pk3
        refine hK.out _ _ N5 (fun hHeld => ?_)
        clear hK K hHeld
        try simp only [Act.put, List.setIfInBounds_toArray, List.set_cons_zero, List.set_cons_succ]
        refine wpAnyH_ready (rs := [7]) (by kernel_rfl) (by simp) (AllReadyH.cons (by simp only [List.getElem?_toArray, List.getElem?_cons_succ, List.getElem?_cons_zero]; exact rfl) (fun K hK => ?_) AllReadyH.nil)
        go_simp
        have nb : bb ≠ pk := by have := HO.out; omega
        have nr : pr ≠ pk := by have := HO.out; omega
        have gq9 : w5.grownBy (w5.setCell ⟨pk, 0, none⟩ (.slice va5 (k4.length + 1) vc5)) (some pk) := grownBy_setCell (p := ⟨pk, 0, none⟩) (grownBy_refl _ _) rfl _
        have N9 : _ ∧ _ ∧ _ := ⟨cell_drawn gq9 N5.1 nr, cell_drawn gq9 N5.2.1 nb, cell_drawn gq9 N5.2.2 nb⟩
        refine hK.out _ _ N9 (fun hHeld => ?_)
        clear hK K hHeld N5 pk1 pk2
        try simp only [Act.put, List.setIfInBounds_toArray, List.set_cons_zero, List.set_cons_succ]
        refine wpAnyH_done (by kernel_rfl) ?_ _
        have q2 := HN.out.fn
        go_wp2_with fail
        refine (HIH.out b t _ _ (k4 ++ [(X, Y)]) HN.out b2 ht (by omega) (by rw [List.length_append, List.length_singleton]; omega)).mono ?_
        rintro e w7 ⟨rfl, v7, S7, B7⟩
        have HS7 : Hid (ThS z pr pl pt pk lo (some ⟨bb, off, none⟩) c ps sq w7 v7 (k4 ++ [(X, Y)] ++ mid ps sq k b t)) := S7
        have BF := BN.out.trans B7
        clear S7 B7 HN BN q2
        go_wp2
        refine bodyPost_end (results_none Try.results21 _ _ _) rfl ⟨rfl, v7, ?_, BF⟩
        rw [hG]
        show ThS _ _ _ _ _ _ _ _ _ _ _ _ (ks ++ (mid ps sq k f b ++ ptA ps b :: mid ps sq k b t))
        rw [← List.append_assoc, hK4, PX.out, List.append_cons]
        exact HS7.out
      · skip
        go_simp
        have bn := below1 ww0 (.cells #[.int .i64 X, .int .i64 Y] 31)
        have NW := pt_new ww0 31 X Y
        have N1 : _ ∧ _ ∧ _ := ⟨bat bn N.1, bat bn N.2.1, bat bn N.2.2⟩
        have HT1 : Hid (ThS z pr pl pt pk lo (some ⟨bb, off, none⟩) c ps sq (ww0.alloc (.cells #[.int .i64 X, .int .i64 Y] 31)) (.slice va k4.length vc) k4) := HT.out.below bn
        have BT1 : Hid (Below z w (ww0.alloc (.cells #[.int .i64 X, .int .i64 Y] 31))) := BT.out.trans (bn.mono (Nat.le_trans hzw (by have := BT.out.size; omega)))
        clear N HT BT bn
        have N := N1
        have HT := HT1
        have BT := BT1
        clear N1 HT1 BT1
        refine hK.out _ _ N (fun hHeld => ?_)
        clear hK K hHeld
        try simp only [Act.put, List.setIfInBounds_toArray, List.set_cons_zero, List.set_cons_succ]
        generalize ww0.alloc (.cells #[.int .i64 X, .int .i64 Y] 31) = ww1 at *
        generalize ww0.heap.size = z9 at *
        refine wpAnyH_ready (rs := [0]) (by kernel_rfl) (by simp) (AllReadyH.cons (by simp only [List.getElem?_toArray, List.getElem?_cons_zero]; exact rfl) (fun K hK => ?_) AllReadyH.nil)
        have y1 := HT.out.kc
        go_simp
        refine hK.out _ _ N (fun hHeld => ?_)
        clear hK K hHeld y1
        try simp only [Act.put, List.setIfInBounds_toArray, List.set_cons_zero, List.set_cons_succ]
        refine wpAnyH_ready (rs := [6]) (by kernel_rfl) (by simp) (AllReadyH.cons (by simp only [List.getElem?_toArray, List.getElem?_cons_succ, List.getElem?_cons_zero]; exact rfl) (fun K hK => ?_) AllReadyH.nil)
        have hlo : lo ≤ ww1.heap.size := by have : pk < ww1.heap.size := World.block_lt_of_cell? ww1 ⟨pk, 0, none⟩ HT.out.kc; have := HO.out; omega
        refine wp_append_at (.tmp 25) (.tmp 30) 24 rfl lo 31 iP (.agg #[.int .i64 0, .int .i64 0]) 2 16 Try.underlying24 hiP hP0 hP1 hP2 rfl (by decide) (.slice va k4.length vc) k4.length (ptC k4) rfl HT.out.own ⟨z9, 0, none⟩ 1 _ (ptC [(X, Y)]) rfl rfl NW (ptC_ones _) (by unfold maxLen; omega) (by omega) hlo ?_
        intro v5 w5 R5 G5 A5
        replace R5 := RowPt.snoc R5
        obtain ⟨pk1, pk2, pk3⟩ := HT.out.pkAt G5
        have HN : Hid (ThS z pr pl pt pk lo (some ⟨bb, off, none⟩) c ps sq (w5.setCell ⟨pk, 0, none⟩ v5) v5 (k4 ++ [(X, Y)])) := HT.out.snoc R5 G5 A5
        have BN : Hid (Below z w (w5.setCell ⟨pk, 0, none⟩ v5)) := BT.out.trans (HT.out.belowZ G5)
        obtain ⟨va5, vc5, e5, _, _⟩ := R5.shape
        rw [List.length_append, List.length_singleton] at e5
        subst e5
        have N5 : _ ∧ _ ∧ _ := ⟨pk3 pr 0 _ HO.out.2.1 N.1, pk3 bb _ _ bbl N.2.1, pk3 bb _ _ bbl N.2.2⟩
        clear N HT BT NW R5 G5 A5 pk3
        refine hK.out _ _ N5 (fun hHeld => ?_)
        clear hK K hHeld
        try simp only [Act.put, List.setIfInBounds_toArray, List.set_cons_zero, List.set_cons_succ]
        refine wpAnyH_ready (rs := [7]) (by kernel_rfl) (by simp) (AllReadyH.cons (by simp only [List.getElem?_toArray, List.getElem?_cons_succ, List.getElem?_cons_zero]; exact rfl) (fun K hK => ?_) AllReadyH.nil)
        go_simp
        have nb : bb ≠ pk := by have := HO.out; omega
        have nr : pr ≠ pk := by have := HO.out; omega
        have gq9 : w5.grownBy (w5.setCell ⟨pk, 0, none⟩ (.slice va5 (k4.length + 1) vc5)) (some pk) := grownBy_setCell (p := ⟨pk, 0, none⟩) (grownBy_refl _ _) rfl _
        have N9 : _ ∧ _ ∧ _ := ⟨cell_drawn gq9 N5.1 nr, cell_drawn gq9 N5.2.1 nb, cell_drawn gq9 N5.2.2 nb⟩
        refine hK.out _ _ N9 (fun hHeld => ?_)
        clear hK K hHeld N5 pk1 pk2
        try simp only [Act.put, List.setIfInBounds_toArray, List.set_cons_zero, List.set_cons_succ]
        refine wpAnyH_done (by kernel_rfl) ?_ _
        have q2 := HN.out.fn
        go_wp2_with fail
        refine (HIH.out b t _ _ (k4 ++ [(X, Y)]) HN.out b2 ht (by omega) (by rw [List.length_append, List.length_singleton]; omega)).mono ?_
        rintro e w7 ⟨rfl, v7, S7, B7⟩
        have HS7 : Hid (ThS z pr pl pt pk lo (some ⟨bb, off, none⟩) c ps sq w7 v7 (k4 ++ [(X, Y)] ++ mid ps sq k b t)) := S7
        have BF := BN.out.trans B7
        clear S7 B7 HN BN q2
        go_wp2
        refine bodyPost_end (results_none Try.results21 _ _ _) rfl ⟨rfl, v7, ?_, BF⟩
        rw [hG]
        show ThS _ _ _ _ _ _ _ _ _ _ _ _ (ks ++ (mid ps sq k f b ++ ptA ps b :: mid ps sq k b t))
        rw [← List.append_assoc, hK4, PX.out, List.append_cons]
        exact HS7.out
end Go.Proofs.Ytcnmglghmianoaa
