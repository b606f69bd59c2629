/- The program's Moved. -/
import Derived.Test.YthncjdmjpglliaaTrnI
import Derived.Test.YthncjdmjpglliaaConP
import Derived.Test.YthncjdmjpglliaaGoodR
namespace Go.Proofs.Ythncjdmjpglliaa
open Go.RowKit

/-- A point with another one added. -/
def mv (bx bY : Int) (p : Int × Int) : Int × Int := (wrap64 (p.1 + bx), wrap64 (p.2 + bY))
def mvOk (k bx bY : Int) (rs : List (List (Int × Int))) : Bool := goodB k rs && okL (rs.flatten.map (mv bx bY))
/-- What is moved. -/
def mvV (k bx bY : Int) (rs : List (List (Int × Int))) : List (List (Int × Int)) := if mvOk k bx bY rs then rs.map (·.map (mv bx bY)) else rs

theorem moved1_any (x y bx bY : Int) (p : Nat) (w : World) (h0 : w.cell? ⟨p, 0, none⟩ = some (.int .i64 bx)) (h1 : w.cell? ⟨p, 1, none⟩ = some (.int .i64 bY)) :
    Calls Try.prog 29 #[.agg #[.int .i64 x, .int .i64 y], .pointer (some ⟨p, 0, none⟩)] w fun e w' => e = .returned (.agg #[.int .i64 (mv bx bY (x, y)).1, .int .i64 (mv bx bY (x, y)).2]) ∧ Below w.heap.size w w' := by
  have B := below2 w (.cells #[.int .i64 x, .int .i64 y] 38) (.cells #[.int .i64 0, .int .i64 0] 38)
  have hp := World.block_lt_of_cell? _ _ h0
  have q0 := bat B h0
  have q1 := bat B h1
  unfold mv
  go_enter Try.func29, Try.ntmps29
  go_wp2
  exact bodyPost_ret (v := .agg #[.int .i64 (wrap64 (x + bx)), .int .i64 (wrap64 (y + bY))]) (by simp [results, Try.results29, go_sem]) rfl ⟨rfl, below2 _ _ _⟩
theorem enter_moved1 (args : Array Value) (W : World) : Sem.run Try.prog (callFunc 29 args) W = .ok (.enter 29 args) W := by kernel_rfl

set_option maxRecDepth 20000 in
set_option maxHeartbeats 2000000 in
theorem implMoved (k bx bY : Int) (a : Option Addr) (c : Nat) (rs : List (List (Int × Int))) (w : World) (h : SeesS w a c rs) (hs : upto rs rs.length ≤ 1048576) :
    Calls Try.prog 14 #[.agg #[.int .i64 k, .slice a rs.length c], .agg #[.int .i64 bx, .int .i64 bY]] w fun e w' => ∃ v vs, e = .returned (.tuple #[.agg #[.int .i64 k, v], .bool (mvOk k bx bY rs)]) ∧ ShR w.heap.size w' v vs (mvV k bx bY rs) ∧ Below w.heap.size w w' := by
  have B := below3 w (.cells #[.int .i64 k, .slice a rs.length c] 28) (.cells #[.int .i64 bx, .int .i64 bY] 38) (.cells #[.int .i64 0, .slice none 0 0] 28)
  have V1 := ((Box2.new w (lo := w.heap.size) (Nat.le_refl _) (.int .i64 k) (.slice a rs.length c) 28).below (below1 _ (.cells #[.int .i64 bx, .int .i64 bY] 38))).below (below1 _ (.cells #[.int .i64 0, .slice none 0 0] 28))
  have VQ := (Box2.new (w.alloc (.cells #[.int .i64 k, .slice a rs.length c] 28)) (lo := w.heap.size) (by simp) (.int .i64 bx) (.int .i64 bY) 38).below (below1 _ (.cells #[.int .i64 0, .slice none 0 0] 28))
  rw [World.size_alloc] at VQ
  have V2 := Box2.new ((w.alloc (.cells #[.int .i64 k, .slice a rs.length c] 28)).alloc (.cells #[.int .i64 bx, .int .i64 bY] 38)) (lo := w.heap.size) (by simp; omega) (.int .i64 0) (.slice none 0 0) 28
  rw [World.size_alloc, World.size_alloc] at V2
  have S := h.below B
  have HS : Hid (upto rs rs.length ≤ 1048576) := hs
  have zz : (((w.alloc (.cells #[.int .i64 k, .slice a rs.length c] 28)).alloc (.cells #[.int .i64 bx, .int .i64 bY] 38)).alloc (.cells #[.int .i64 0, .slice none 0 0] 28)).heap.size = w.heap.size + 3 := by simp
  have hmf : ∀ (fn : Fn) (first cap : Array Value) (w : World), (Instr.makeFunc fn first cap).run Try.prog w = .ok (.func fn first cap) w := fun _ _ _ _ => rfl
  obtain ⟨g, hg⟩ : ∃ g, Hid (goodB k rs = g) := ⟨_, rfl⟩
  obtain ⟨o, ho⟩ : ∃ g, Hid (okL (rs.flatten.map (mv bx bY)) = g) := ⟨_, rfl⟩
  have hO : Hid (mvOk k bx bY rs = (g && o)) := by show _ = _; unfold mvOk; rw [hg.out, ho.out]
  obtain ⟨ts, ht⟩ : ∃ t, Hid (mvV k bx bY rs = t) := ⟨_, rfl⟩
  have hT : Hid (ts = if (g && o) then rs.map (·.map (mv bx bY)) else rs) := by show _ = _; rw [← ht.out]; unfold mvV; rw [hO.out]
  rw [ht.out]
  clear h hs
  go_enter Try.func14, Try.ntmps14
  go_wp2_with fail
  generalize ((w.alloc (.cells #[.int .i64 k, .slice a rs.length c] 28)).alloc (.cells #[.int .i64 bx, .int .i64 bY] 38)).alloc (.cells #[.int .i64 0, .slice none 0 0] 28) = W0 at *
  refine (good_any k a c rs _ S).mono ?_
  rintro e w0 ⟨rfl, hb⟩
  rw [hg.out]
  replace B := B.trans (hb.mono B.size)
  replace V1 := V1.below hb
  replace V2 := V2.below hb
  replace VQ := VQ.below hb
  replace S := S.below hb
  have hz0 := hb.size
  clear hb
  obtain ⟨c0, c1, _, _⟩ := id V1
  cases g
  · have HT : Hid (rs = ts) := by show _ = _; rw [hT.out]; rfl
    clear VQ
    go_wp2_with fail
    refine (copied_any k a c rs _ S HS.out).mono ?_
    rintro e w1 ⟨v, vs, rfl, R, hb⟩
    rw [HT.out] at R
    obtain ⟨va, vc, rfl, _, _⟩ := R.shape
    have B1 := B.trans (hb.mono B.size)
    have VR := V2.below hb
    have gq : w1.grownBy ((w1.setCell ⟨w.heap.size + 2, 0, none⟩ (.int .i64 k)).setCell ⟨w.heap.size + 2, 1, none⟩ (.slice va vs.length vc)) (some (w.heap.size + 2)) := grownBy_setCell (p := ⟨w.heap.size + 2, 1, none⟩) (grownBy_setCell (p := ⟨w.heap.size + 2, 0, none⟩) (grownBy_refl _ _) rfl _) rfl _
    have RS : Hid (ShR w.heap.size ((w1.setCell ⟨w.heap.size + 2, 0, none⟩ (.int .i64 k)).setCell ⟨w.heap.size + 2, 1, none⟩ (.slice va vs.length vc)) (.slice va vs.length vc) vs ts) := (R.drawn gq (by omega)).base (by omega)
    have E := Box2.chain B1 VR (.int .i64 k) (.slice va vs.length vc)
    have Z := VR.put (.int .i64 k) (.slice va vs.length vc)
    obtain ⟨z0, z1, _, _⟩ := id Z
    obtain ⟨d0, d1, df, _⟩ := id VR
    clear R B V1 V2 hb B1 gq S c0 c1
    go_wp2
    refine bodyPost_ret (v := .tuple #[.agg #[.int .i64 k, .slice va vs.length vc], .bool false]) (by simp [results, Try.results14, go_sem, z0, z1]) rfl ?_
    exact ⟨_, vs, by rw [hO.out]; rfl, RS.out, E⟩
  · obtain ⟨_, gr1, gr2⟩ := goodS_rows hg.out
    obtain ⟨q0, q1, _, _⟩ := id VQ
    have Q0 : Hid (w0.cell? ⟨w.heap.size + 1, 0, none⟩ = some (.int .i64 bx)) := q0
    have Q1 : Hid (w0.cell? ⟨w.heap.size + 1, 1, none⟩ = some (.int .i64 bY)) := q1
    have ML : Hid ((rs.map (·.map (mv bx bY))).length ≤ 12 ∧ ∀ i, i < (rs.map (·.map (mv bx bY))).length → 0 < (rowA (rs.map (·.map (mv bx bY))) i).length ∧ (rowA (rs.map (·.map (mv bx bY))) i).length ≤ 60) := by
      show _ ∧ _
      refine ⟨by rw [List.length_map]; exact gr1, fun i hi => ?_⟩
      rw [List.length_map] at hi
      rw [rowA_map, List.length_map]
      exact (gr2 i hi).2
    have MF : Hid ((rs.map (·.map (mv bx bY))).flatten = rs.flatten.map (mv bx bY)) := by show _ = _; rw [List.map_flatten]
    have mlen : (rs.map (·.map (mv bx bY))).length = rs.length := List.length_map ..
    clear gr1 gr2 q0 q1
    go_wp2_with fail
    refine (changed_any 29 [.pointer (some ⟨w.heap.size + 1, 0, none⟩)] (mv bx bY) k a c rs _ S HS.out enter_moved1 (fun W x y hW => moved1_any x y bx bY _ W (bat hW Q0.out) (bat hW Q1.out))).mono ?_
    rintro e w1 ⟨v, vs, rfl, R, hb⟩
    clear Q0 Q1 VQ
    generalize rs.map (·.map (mv bx bY)) = ms at *
    obtain ⟨va, vc, rfl, _, _⟩ := R.shape
    have lv := R.len.out
    rw [lv] at R ⊢
    have zv : Hid (∀ k, (Value.slice va ms.length vc).ownBlock = some k → w.heap.size + 3 ≤ k) := fun k hk => by have := (R.lts.1 k hk).1; omega
    have zu : Hid (∀ u ∈ vs, ∀ k, u.ownBlock = some k → w.heap.size + 3 ≤ k) := fun u hu k hk => by have := (R.lts.2 u hu k hk).1; omega
    have bn := below1 w1 (.cells #[.int .i64 k, .slice va ms.length vc] 28)
    have V3 := Box2.new w1 (lo := w.heap.size) (by have := hb.size; have := B.size; omega) (.int .i64 k) (.slice va ms.length vc) 28
    replace hb := hb.trans (bn.mono hb.size)
    replace R := R.below bn
    replace B := B.trans (hb.mono B.size)
    replace V1 := V1.below hb
    replace V2 := V2.below hb
    replace S := S.below hb
    clear hb bn lv c0 c1 mlen
    obtain ⟨c0, c1, _, _⟩ := id V3
    go_wp2_with fail
    generalize w1.alloc (.cells #[.int .i64 k, .slice va ms.length vc] 28) = W3 at *
    generalize w1.heap.size = p6 at *
    refine (concatP va vc ms _ R.sees ML.out.1 ML.out.2).mono ?_
    rintro e w4 ⟨v4, rfl, R4, hb⟩
    rw [MF.out] at R4
    obtain ⟨va4, vc4, rfl, _, _⟩ := R4.shape
    replace B := B.trans (hb.mono B.size)
    replace V1 := V1.below hb
    replace V2 := V2.below hb
    replace V3 := V3.below hb
    replace S := S.below hb
    replace R := R.below hb
    clear hb c0 c1
    have S4 := R4.seesP
    generalize rs.flatten.map (mv bx bY) = fl at *
    go_wp2_with fail
    refine (containsWrong va4 vc4 fl _ S4).mono ?_
    rintro e w5 ⟨rfl, hb⟩
    rw [ho.out]
    replace B := B.trans (hb.mono B.size)
    replace V1 := V1.below hb
    replace V2 := V2.below hb
    replace V3 := V3.below hb
    replace S := S.below hb
    replace R := R.below hb
    clear hb R4 S4
    obtain ⟨c0, c1, _, _⟩ := id V1
    cases o
    · have HT : Hid (rs = ts) := by show _ = _; rw [hT.out]; rfl
      have hz5 := V2.lt
      go_wp2_with fail
      refine (copied_any k a c rs _ S HS.out).mono ?_
      rintro e w1 ⟨v, vs, rfl, R, hb⟩
      rw [HT.out] at R
      obtain ⟨va, vc, rfl, _, _⟩ := R.shape
      have B1 := B.trans (hb.mono B.size)
      have VR := V2.below hb
      have gq : w1.grownBy ((w1.setCell ⟨w.heap.size + 2, 0, none⟩ (.int .i64 k)).setCell ⟨w.heap.size + 2, 1, none⟩ (.slice va vs.length vc)) (some (w.heap.size + 2)) := grownBy_setCell (p := ⟨w.heap.size + 2, 1, none⟩) (grownBy_setCell (p := ⟨w.heap.size + 2, 0, none⟩) (grownBy_refl _ _) rfl _) rfl _
      have RS : Hid (ShR w.heap.size ((w1.setCell ⟨w.heap.size + 2, 0, none⟩ (.int .i64 k)).setCell ⟨w.heap.size + 2, 1, none⟩ (.slice va vs.length vc)) (.slice va vs.length vc) vs ts) := (R.drawn gq (by omega)).base (by omega)
      have E := Box2.chain B1 VR (.int .i64 k) (.slice va vs.length vc)
      have Z := VR.put (.int .i64 k) (.slice va vs.length vc)
      obtain ⟨z0, z1, _, _⟩ := id Z
      obtain ⟨d0, d1, df, _⟩ := id VR
      clear R B V1 V2 hb B1 gq S c0 c1
      go_wp2
      refine bodyPost_ret (v := .tuple #[.agg #[.int .i64 k, .slice va vs.length vc], .bool false]) (by simp [results, Try.results14, go_sem, z0, z1]) rfl ?_
      exact ⟨_, vs, by rw [hO.out]; rfl, RS.out, E⟩
    · have HT : Hid (ms = ts) := by show _ = _; rw [hT.out]; rfl
      have gq : w5.grownBy ((w5.setCell ⟨w.heap.size + 2, 0, none⟩ (.int .i64 k)).setCell ⟨w.heap.size + 2, 1, none⟩ (.slice va ms.length vc)) (some (w.heap.size + 2)) := grownBy_setCell (p := ⟨w.heap.size + 2, 1, none⟩) (grownBy_setCell (p := ⟨w.heap.size + 2, 0, none⟩) (grownBy_refl _ _) rfl _) rfl _
      have RS : Hid (ShR w.heap.size ((w5.setCell ⟨w.heap.size + 2, 0, none⟩ (.int .i64 k)).setCell ⟨w.heap.size + 2, 1, none⟩ (.slice va ms.length vc)) (.slice va ms.length vc) vs ts) := by
        rw [← HT.out]
        exact (R.kept gq (fun k hk e => by have := zv.out k hk; injection e with e; omega) (fun u hu k hk e => by have := zu.out u hu k hk; injection e with e; omega)).base (by omega)
      have E := Box2.chain B V2 (.int .i64 k) (.slice va ms.length vc)
      have Z := V2.put (.int .i64 k) (.slice va ms.length vc)
      obtain ⟨z0, z1, _, _⟩ := id Z
      obtain ⟨d0, d1, df, _⟩ := id V2
      obtain ⟨y0, y1, _, _⟩ := id V3
      clear R B V1 gq S c0 c1
      go_wp2
      refine bodyPost_ret (v := .tuple #[.agg #[.int .i64 k, .slice va ms.length vc], .bool true]) (by simp [results, Try.results14, go_sem, z0, z1]) rfl ?_
      exact ⟨_, vs, by rw [hO.out]; rfl, RS.out, E⟩
end Go.Proofs.Ythncjdmjpglliaa
