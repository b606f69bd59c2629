/- The program's Turned: quarters of a turn. -/
import Derived.Test.YthncjdmjpglliaaChgI
import Derived.Test.YthncjdmjpglliaaGoodI
namespace Go.Proofs.Ythncjdmjpglliaa
open Go.RowKit

/-- A quarter's turn of a point. -/
def qn (p : Int × Int) : Int × Int := (wrap64 (-p.2), p.1)
def rot : Nat → Int × Int → Int × Int
  | 0, p => p
  | n + 1, p => qn (rot n p)
/-- How many quarters. -/
def tq (q : Int) : Nat := ((q.tmod 4 + 4).tmod 4).toNat
theorem tq_cases (q : Int) : (q.tmod 4 + 4).tmod 4 = tq q ∧ -3 ≤ q.tmod 4 ∧ q.tmod 4 ≤ 3 ∧ tq q < 4 := by
  have h1 : -4 < q.tmod 4 := Int.lt_tmod_of_pos q (by omega)
  have h2 : q.tmod 4 < 4 := Int.tmod_lt_of_pos q (by omega)
  have h3 : 0 ≤ (q.tmod 4 + 4).tmod 4 := Int.tmod_nonneg 4 (by omega)
  have h4 : (q.tmod 4 + 4).tmod 4 < 4 := Int.tmod_lt_of_pos _ (by omega)
  unfold tq
  omega
theorem copied1_any (x y : Int) (w : World) :
    Calls Try.prog 37 #[.agg #[.int .i64 x, .int .i64 y]] w fun e w' => e = .returned (.agg #[.int .i64 x, .int .i64 y]) ∧ Below w.heap.size w w' := by
  go_enter Try.func37, Try.ntmps37
  go_wp2
  exact bodyPost_ret (v := .agg #[.int .i64 x, .int .i64 y]) (by simp [results, Try.results37, go_sem]) rfl ⟨rfl, below2 _ _ _⟩
theorem quarterTurned_any (x y : Int) (w : World) :
    Calls Try.prog 38 #[.agg #[.int .i64 x, .int .i64 y]] w fun e w' => e = .returned (.agg #[.int .i64 (qn (x, y)).1, .int .i64 (qn (x, y)).2]) ∧ Below w.heap.size w w' := by
  unfold qn
  go_enter Try.func38, Try.ntmps38
  go_wp2
  exact bodyPost_ret (v := .agg #[.int .i64 (wrap64 (-y)), .int .i64 x]) (by simp [results, Try.results38, go_sem]) rfl ⟨rfl, below2 _ _ _⟩
set_option maxHeartbeats 1000000 in
theorem turned_any (x y q : Int) (w : World) :
    Calls Try.prog 23 #[.agg #[.int .i64 x, .int .i64 y], .int .i64 q] w fun e w' => e = .returned (.agg #[.int .i64 (rot (tq q) (x, y)).1, .int .i64 (rot (tq q) (x, y)).2]) ∧ Below w.heap.size w w' := by
  obtain ⟨h1, h2, h3, h4⟩ := tq_cases q
  obtain ⟨r, hr⟩ : ∃ r, q.tmod 4 = r := ⟨_, rfl⟩
  rw [hr] at h1 h2 h3
  have B := below2 w (.cells #[.int .i64 x, .int .i64 y] 38) (.cells #[.int .i64 0, .int .i64 0] 38)
  have V1 := (Box2.new w (lo := w.heap.size) (Nat.le_refl _) (.int .i64 x) (.int .i64 y) 38).below (below1 _ (.cells #[.int .i64 0, .int .i64 0] 38))
  have V2 := Box2.new (w.alloc (.cells #[.int .i64 x, .int .i64 y] 38)) (lo := w.heap.size) (by simp) (.int .i64 0) (.int .i64 0) 38
  rw [World.size_alloc] at V2
  obtain ⟨n, hn⟩ : ∃ n, Hid (tq q = n) := ⟨_, rfl⟩
  rw [hn.out] at h1 h4
  rw [hn.out]
  have n4 : n = 0 ∨ n = 1 ∨ n = 2 ∨ n = 3 := by omega
  rcases n4 with rfl | rfl | rfl | rfl
  · have h1' : (r + 4).tmod 4 = 0 := h1
    clear h1 h4
    clear V1 V2
    go_enter Try.func23, Try.ntmps23
    go_wp2
    exact bodyPost_ret (v := .agg #[.int .i64 x, .int .i64 y]) (by simp [results, Try.results23, go_sem]) rfl ⟨rfl, below2 _ _ _⟩
  · have h1' : (r + 4).tmod 4 = 1 := h1
    clear h1 h4
    obtain ⟨x1, hx1⟩ : ∃ z, Hid ((qn (x, y)).1 = z) := ⟨_, rfl⟩
    obtain ⟨y1, hy1⟩ : ∃ z, Hid ((qn (x, y)).2 = z) := ⟨_, rfl⟩
    have RT : Hid (rot 1 (x, y) = (x1, y1)) := by
      show _ = _
      simp only [rot]
      rw [show qn (x, y) = (x1, y1) from Prod.ext hx1.out hy1.out]
    rw [RT.out]
    go_enter Try.func23, Try.ntmps23
    go_wp2_with fail
    generalize (w.alloc (.cells #[.int .i64 x, .int .i64 y] 38)).alloc (.cells #[.int .i64 0, .int .i64 0] 38) = W0 at *
    refine (quarterTurned_any x y _).mono ?_
    rintro e w1 ⟨rfl, hb⟩
    rw [hx1.out, hy1.out]
    replace B := B.trans (hb.mono B.size)
    replace V1 := V1.below hb
    replace V2 := V2.below hb
    clear hb
    have P1 := V1.put (.int .i64 x1) (.int .i64 y1)
    have C1 := Box2.chain B V1 (.int .i64 x1) (.int .i64 y1)
    have O1 := V2.old (p := w.heap.size) (by omega) (.int .i64 x1) (.int .i64 y1)
    obtain ⟨c0, c1, cf, _⟩ := id V1
    obtain ⟨d0, d1, df, _⟩ := id O1
    obtain ⟨p0, p1, pf, _⟩ := id P1
    have E1 := Box2.chain C1 O1 (.int .i64 x1) (.int .i64 y1)
    have Z1 := O1.put (.int .i64 x1) (.int .i64 y1)
    obtain ⟨z0, z1, _, _⟩ := id Z1
    go_wp2
    exact bodyPost_ret (v := .agg #[.int .i64 x1, .int .i64 y1]) (by simp [results, Try.results23, go_sem, z0, z1]) rfl ⟨rfl, E1⟩
  · have h1' : (r + 4).tmod 4 = 2 := h1
    clear h1 h4
    obtain ⟨x1, hx1⟩ : ∃ z, Hid ((qn (x, y)).1 = z) := ⟨_, rfl⟩
    obtain ⟨y1, hy1⟩ : ∃ z, Hid ((qn (x, y)).2 = z) := ⟨_, rfl⟩
    obtain ⟨x2, hx2⟩ : ∃ z, Hid ((qn (x1, y1)).1 = z) := ⟨_, rfl⟩
    obtain ⟨y2, hy2⟩ : ∃ z, Hid ((qn (x1, y1)).2 = z) := ⟨_, rfl⟩
    have RT : Hid (rot 2 (x, y) = (x2, y2)) := by
      show _ = _
      simp only [rot]
      rw [show qn (x, y) = (x1, y1) from Prod.ext hx1.out hy1.out]
      rw [show qn (x1, y1) = (x2, y2) from Prod.ext hx2.out hy2.out]
    rw [RT.out]
    go_enter Try.func23, Try.ntmps23
    go_wp2_with fail
    generalize (w.alloc (.cells #[.int .i64 x, .int .i64 y] 38)).alloc (.cells #[.int .i64 0, .int .i64 0] 38) = W0 at *
    refine (quarterTurned_any x y _).mono ?_
    rintro e w1 ⟨rfl, hb⟩
    rw [hx1.out, hy1.out]
    replace B := B.trans (hb.mono B.size)
    replace V1 := V1.below hb
    replace V2 := V2.below hb
    clear hb
    have P1 := V1.put (.int .i64 x1) (.int .i64 y1)
    have C1 := Box2.chain B V1 (.int .i64 x1) (.int .i64 y1)
    have O1 := V2.old (p := w.heap.size) (by omega) (.int .i64 x1) (.int .i64 y1)
    obtain ⟨c0, c1, cf, _⟩ := id V1
    clear V1
    go_wp2_with fail
    generalize (w1.setCell ⟨w.heap.size, 0, none⟩ (.int .i64 x1)).setCell ⟨w.heap.size, 1, none⟩ (.int .i64 y1) = U1 at *
    clear c0 c1 cf B V2
    have B := C1
    have V1 := P1
    have V2 := O1
    clear C1 P1 O1
    refine (quarterTurned_any x1 y1 _).mono ?_
    rintro e w2 ⟨rfl, hb⟩
    rw [hx2.out, hy2.out]
    replace B := B.trans (hb.mono B.size)
    replace V1 := V1.below hb
    replace V2 := V2.below hb
    clear hb
    have P2 := V1.put (.int .i64 x2) (.int .i64 y2)
    have C2 := Box2.chain B V1 (.int .i64 x2) (.int .i64 y2)
    have O2 := V2.old (p := w.heap.size) (by omega) (.int .i64 x2) (.int .i64 y2)
    obtain ⟨c0, c1, cf, _⟩ := id V1
    obtain ⟨d0, d1, df, _⟩ := id O2
    obtain ⟨p0, p1, pf, _⟩ := id P2
    have E2 := Box2.chain C2 O2 (.int .i64 x2) (.int .i64 y2)
    have Z2 := O2.put (.int .i64 x2) (.int .i64 y2)
    obtain ⟨z0, z1, _, _⟩ := id Z2
    go_wp2
    exact bodyPost_ret (v := .agg #[.int .i64 x2, .int .i64 y2]) (by simp [results, Try.results23, go_sem, z0, z1]) rfl ⟨rfl, E2⟩
  · have h1' : (r + 4).tmod 4 = 3 := h1
    clear h1 h4
    obtain ⟨x1, hx1⟩ : ∃ z, Hid ((qn (x, y)).1 = z) := ⟨_, rfl⟩
    obtain ⟨y1, hy1⟩ : ∃ z, Hid ((qn (x, y)).2 = z) := ⟨_, rfl⟩
    obtain ⟨x2, hx2⟩ : ∃ z, Hid ((qn (x1, y1)).1 = z) := ⟨_, rfl⟩
    obtain ⟨y2, hy2⟩ : ∃ z, Hid ((qn (x1, y1)).2 = z) := ⟨_, rfl⟩
    obtain ⟨x3, hx3⟩ : ∃ z, Hid ((qn (x2, y2)).1 = z) := ⟨_, rfl⟩
    obtain ⟨y3, hy3⟩ : ∃ z, Hid ((qn (x2, y2)).2 = z) := ⟨_, rfl⟩
    have RT : Hid (rot 3 (x, y) = (x3, y3)) := by
      show _ = _
      simp only [rot]
      rw [show qn (x, y) = (x1, y1) from Prod.ext hx1.out hy1.out]
      rw [show qn (x1, y1) = (x2, y2) from Prod.ext hx2.out hy2.out]
      rw [show qn (x2, y2) = (x3, y3) from Prod.ext hx3.out hy3.out]
    rw [RT.out]
    go_enter Try.func23, Try.ntmps23
    go_wp2_with fail
    generalize (w.alloc (.cells #[.int .i64 x, .int .i64 y] 38)).alloc (.cells #[.int .i64 0, .int .i64 0] 38) = W0 at *
    refine (quarterTurned_any x y _).mono ?_
    rintro e w1 ⟨rfl, hb⟩
    rw [hx1.out, hy1.out]
    replace B := B.trans (hb.mono B.size)
    replace V1 := V1.below hb
    replace V2 := V2.below hb
    clear hb
    have P1 := V1.put (.int .i64 x1) (.int .i64 y1)
    have C1 := Box2.chain B V1 (.int .i64 x1) (.int .i64 y1)
    have O1 := V2.old (p := w.heap.size) (by omega) (.int .i64 x1) (.int .i64 y1)
    obtain ⟨c0, c1, cf, _⟩ := id V1
    clear V1
    go_wp2_with fail
    generalize (w1.setCell ⟨w.heap.size, 0, none⟩ (.int .i64 x1)).setCell ⟨w.heap.size, 1, none⟩ (.int .i64 y1) = U1 at *
    clear c0 c1 cf B V2
    have B := C1
    have V1 := P1
    have V2 := O1
    clear C1 P1 O1
    refine (quarterTurned_any x1 y1 _).mono ?_
    rintro e w2 ⟨rfl, hb⟩
    rw [hx2.out, hy2.out]
    replace B := B.trans (hb.mono B.size)
    replace V1 := V1.below hb
    replace V2 := V2.below hb
    clear hb
    have P2 := V1.put (.int .i64 x2) (.int .i64 y2)
    have C2 := Box2.chain B V1 (.int .i64 x2) (.int .i64 y2)
    have O2 := V2.old (p := w.heap.size) (by omega) (.int .i64 x2) (.int .i64 y2)
    obtain ⟨c0, c1, cf, _⟩ := id V1
    clear V1
    go_wp2_with fail
    generalize (w2.setCell ⟨w.heap.size, 0, none⟩ (.int .i64 x2)).setCell ⟨w.heap.size, 1, none⟩ (.int .i64 y2) = U2 at *
    clear c0 c1 cf B V2
    have B := C2
    have V1 := P2
    have V2 := O2
    clear C2 P2 O2
    refine (quarterTurned_any x2 y2 _).mono ?_
    rintro e w3 ⟨rfl, hb⟩
    rw [hx3.out, hy3.out]
    replace B := B.trans (hb.mono B.size)
    replace V1 := V1.below hb
    replace V2 := V2.below hb
    clear hb
    have P3 := V1.put (.int .i64 x3) (.int .i64 y3)
    have C3 := Box2.chain B V1 (.int .i64 x3) (.int .i64 y3)
    have O3 := V2.old (p := w.heap.size) (by omega) (.int .i64 x3) (.int .i64 y3)
    obtain ⟨c0, c1, cf, _⟩ := id V1
    obtain ⟨d0, d1, df, _⟩ := id O3
    obtain ⟨p0, p1, pf, _⟩ := id P3
    have E3 := Box2.chain C3 O3 (.int .i64 x3) (.int .i64 y3)
    have Z3 := O3.put (.int .i64 x3) (.int .i64 y3)
    obtain ⟨z0, z1, _, _⟩ := id Z3
    go_wp2
    exact bodyPost_ret (v := .agg #[.int .i64 x3, .int .i64 y3]) (by simp [results, Try.results23, go_sem, z0, z1]) rfl ⟨rfl, E3⟩
theorem turned1_any (x y q : Int) (p : Nat) (w : World) (h : w.cell? ⟨p, 0, none⟩ = some (.int .i64 q)) :
    Calls Try.prog 22 #[.agg #[.int .i64 x, .int .i64 y], .pointer (some ⟨p, 0, none⟩)] w fun e w' => e = .returned (.agg #[.int .i64 (rot (tq q) (x, y)).1, .int .i64 (rot (tq q) (x, y)).2]) ∧ Below w.heap.size w w' := by
  have B := below2 w (.cells #[.int .i64 x, .int .i64 y] 38) (.cells #[.int .i64 0, .int .i64 0] 38)
  have V1 := (Box2.new w (lo := w.heap.size) (Nat.le_refl _) (.int .i64 x) (.int .i64 y) 38).below (below1 _ (.cells #[.int .i64 0, .int .i64 0] 38))
  have V2 := Box2.new (w.alloc (.cells #[.int .i64 x, .int .i64 y] 38)) (lo := w.heap.size) (by simp) (.int .i64 0) (.int .i64 0) 38
  rw [World.size_alloc] at V2
  have hp := bat B h
  obtain ⟨x1, hx⟩ : ∃ z, Hid ((rot (tq q) (x, y)).1 = z) := ⟨_, rfl⟩
  obtain ⟨y1, hy⟩ : ∃ z, Hid ((rot (tq q) (x, y)).2 = z) := ⟨_, rfl⟩
  rw [hx.out, hy.out]
  obtain ⟨c0, c1, _, _⟩ := id V1
  go_enter Try.func22, Try.ntmps22
  go_wp2_with fail
  generalize (w.alloc (.cells #[.int .i64 x, .int .i64 y] 38)).alloc (.cells #[.int .i64 0, .int .i64 0] 38) = W0 at *
  refine (turned_any x y q _).mono ?_
  rintro e w1 ⟨rfl, hb⟩
  rw [hx.out, hy.out]
  replace B := B.trans (hb.mono B.size)
  replace V2 := V2.below hb
  clear hb c0 c1
  have E := Box2.chain B V2 (.int .i64 x1) (.int .i64 y1)
  have Z := V2.put (.int .i64 x1) (.int .i64 y1)
  obtain ⟨z0, z1, _, _⟩ := id Z
  obtain ⟨d0, d1, df, _⟩ := id V2
  go_wp2
  exact bodyPost_ret (v := .agg #[.int .i64 x1, .int .i64 y1]) (by simp [results, Try.results22, go_sem, z0, z1]) rfl ⟨rfl, E⟩
theorem enter_copied1 (args : Array Value) (W : World) : Sem.run Try.prog (callFunc 37 args) W = .ok (.enter 37 args) W := by kernel_rfl
theorem enter_turned1 (args : Array Value) (W : World) : Sem.run Try.prog (callFunc 22 args) W = .ok (.enter 22 args) W := by kernel_rfl
theorem map_same (rs : List (List (Int × Int))) : rs.map (·.map fun p => p) = rs := by simp

set_option maxRecDepth 20000 in
theorem copied_any (k : Int) (a : Option Addr) (c : Nat) (rs : List (List (Int × Int))) (w : World) (h : SeesS w a c rs) (hs : upto rs rs.length ≤ 1048576) :
    Calls Try.prog 20 #[.agg #[.int .i64 k, .slice a rs.length c]] w fun e w' => ∃ v vs, e = .returned (.agg #[.int .i64 k, v]) ∧ ShR w.heap.size w' v vs rs ∧ Below w.heap.size w w' := by
  have B := below2 w (.cells #[.int .i64 k, .slice a rs.length c] 28) (.cells #[.int .i64 0, .slice none 0 0] 28)
  have V2 := Box2.new (w.alloc (.cells #[.int .i64 k, .slice a rs.length c] 28)) (lo := w.heap.size) (by simp) (.int .i64 0) (.slice none 0 0) 28
  rw [World.size_alloc] at V2
  have S := h.below B
  have HS : Hid (upto rs rs.length ≤ 1048576) := hs
  have zz : ((w.alloc (.cells #[.int .i64 k, .slice a rs.length c] 28)).alloc (.cells #[.int .i64 0, .slice none 0 0] 28)).heap.size = w.heap.size + 2 := by simp
  clear h hs
  go_enter Try.func20, Try.ntmps20
  go_wp2_with fail
  generalize (w.alloc (.cells #[.int .i64 k, .slice a rs.length c] 28)).alloc (.cells #[.int .i64 0, .slice none 0 0] 28) = W0 at *
  refine (changed_any 37 [] (fun p => p) k a c rs _ S HS.out enter_copied1 (fun W x y _ => copied1_any x y W)).mono ?_
  rintro e w1 ⟨v, vs, rfl, R, hb⟩
  rw [map_same] at R
  obtain ⟨va, vc, rfl, _, _⟩ := R.shape
  have B1 := B.trans (hb.mono B.size)
  have VR := V2.below hb
  have gq : w1.grownBy ((w1.setCell ⟨w.heap.size + 1, 0, none⟩ (.int .i64 k)).setCell ⟨w.heap.size + 1, 1, none⟩ (.slice va vs.length vc)) (some (w.heap.size + 1)) := grownBy_setCell (p := ⟨w.heap.size + 1, 1, none⟩) (grownBy_setCell (p := ⟨w.heap.size + 1, 0, none⟩) (grownBy_refl _ _) rfl _) rfl _
  have RS : Hid (ShR w.heap.size ((w1.setCell ⟨w.heap.size + 1, 0, none⟩ (.int .i64 k)).setCell ⟨w.heap.size + 1, 1, none⟩ (.slice va vs.length vc)) (.slice va vs.length vc) vs rs) := (R.drawn gq (by omega)).base (by omega)
  have E := Box2.chain B1 VR (.int .i64 k) (.slice va vs.length vc)
  have Z := VR.put (.int .i64 k) (.slice va vs.length vc)
  obtain ⟨z0, z1, _, _⟩ := id Z
  obtain ⟨d0, d1, df, _⟩ := id VR
  clear R B V2 hb B1 gq S
  go_wp2
  refine bodyPost_ret (v := .agg #[.int .i64 k, .slice va vs.length vc]) (by simp [results, Try.results20, go_sem, z0, z1]) rfl ?_
  exact ⟨_, vs, rfl, RS.out, E⟩

/-- What is turned. -/
def trnV (k q : Int) (rs : List (List (Int × Int))) : List (List (Int × Int)) := if goodB k rs then rs.map (·.map (rot (tq q))) else rs
set_option maxRecDepth 20000 in
set_option maxHeartbeats 1000000 in
theorem implTurned (k q : Int) (a : Option Addr) (c : Nat) (rs : List (List (Int × Int))) (w : World) (h : SeesS w a c rs) (hs : upto rs rs.length ≤ 1048576) :
    Calls Try.prog 8 #[.agg #[.int .i64 k, .slice a rs.length c], .int .i64 q] w fun e w' => ∃ v vs, e = .returned (.agg #[.int .i64 k, v]) ∧ ShR w.heap.size w' v vs (trnV k q rs) ∧ Below w.heap.size w w' := by
  have B := below3 w (.cells #[.int .i64 k, .slice a rs.length c] 28) (.cells #[.int .i64 q] 3) (.cells #[.int .i64 0, .slice none 0 0] 28)
  have V1 := ((Box2.new w (lo := w.heap.size) (Nat.le_refl _) (.int .i64 k) (.slice a rs.length c) 28).below (below1 _ (.cells #[.int .i64 q] 3))).below (below1 _ (.cells #[.int .i64 0, .slice none 0 0] 28))
  have Q1 : (((w.alloc (.cells #[.int .i64 k, .slice a rs.length c] 28)).alloc (.cells #[.int .i64 q] 3)).alloc (.cells #[.int .i64 0, .slice none 0 0] 28)).cell? ⟨w.heap.size + 1, 0, none⟩ = some (.int .i64 q) := by
    have := bat (below1 _ (.cells #[.int .i64 0, .slice none 0 0] 28)) (cell_new (w.alloc (.cells #[.int .i64 k, .slice a rs.length c] 28)) #[.int .i64 q] 3 0 (v := .int .i64 q) rfl)
    rwa [World.size_alloc] at this
  have V2 := Box2.new ((w.alloc (.cells #[.int .i64 k, .slice a rs.length c] 28)).alloc (.cells #[.int .i64 q] 3)) (lo := w.heap.size) (by simp; omega) (.int .i64 0) (.slice none 0 0) 28
  rw [World.size_alloc, World.size_alloc] at V2
  have S := h.below B
  have HS : Hid (upto rs rs.length ≤ 1048576) := hs
  have zz : (((w.alloc (.cells #[.int .i64 k, .slice a rs.length c] 28)).alloc (.cells #[.int .i64 q] 3)).alloc (.cells #[.int .i64 0, .slice none 0 0] 28)).heap.size = w.heap.size + 3 := by simp
  have hmf : ∀ (fn : Fn) (first cap : Array Value) (w : World), (Instr.makeFunc fn first cap).run Try.prog w = .ok (.func fn first cap) w := fun _ _ _ _ => rfl
  obtain ⟨g, hg⟩ : ∃ g, Hid (goodB k rs = g) := ⟨_, rfl⟩
  obtain ⟨ts, ht⟩ : ∃ t, Hid (trnV k q rs = t) := ⟨_, rfl⟩
  rw [ht.out]
  clear h hs
  go_enter Try.func8, Try.ntmps8
  go_wp2_with fail
  generalize ((w.alloc (.cells #[.int .i64 k, .slice a rs.length c] 28)).alloc (.cells #[.int .i64 q] 3)).alloc (.cells #[.int .i64 0, .slice none 0 0] 28) = W0 at *
  refine (good_any k a c rs _ S).mono ?_
  rintro e w0 ⟨rfl, hb⟩
  rw [hg.out]
  replace B := B.trans (hb.mono B.size)
  replace V1 := V1.below hb
  replace V2 := V2.below hb
  replace S := S.below hb
  replace Q1 := bat hb Q1
  have hz0 := hb.size
  clear hb
  obtain ⟨c0, c1, _, _⟩ := id V1
  cases g
  · have HT : Hid (rs = ts) := by show _ = _; rw [← ht.out]; unfold trnV; rw [hg.out]; rfl
    clear Q1
    go_wp2_with fail
    refine (copied_any k a c rs _ S HS.out).mono ?_
    rintro e w1 ⟨v, vs, rfl, R, hb⟩
    rw [HT.out] at R
    obtain ⟨va, vc, rfl, _, _⟩ := R.shape
    have B1 := B.trans (hb.mono B.size)
    have VR := V2.below hb
    have gq : w1.grownBy ((w1.setCell ⟨w.heap.size + 2, 0, none⟩ (.int .i64 k)).setCell ⟨w.heap.size + 2, 1, none⟩ (.slice va vs.length vc)) (some (w.heap.size + 2)) := grownBy_setCell (p := ⟨w.heap.size + 2, 1, none⟩) (grownBy_setCell (p := ⟨w.heap.size + 2, 0, none⟩) (grownBy_refl _ _) rfl _) rfl _
    have RS : Hid (ShR w.heap.size ((w1.setCell ⟨w.heap.size + 2, 0, none⟩ (.int .i64 k)).setCell ⟨w.heap.size + 2, 1, none⟩ (.slice va vs.length vc)) (.slice va vs.length vc) vs ts) := (R.drawn gq (by omega)).base (by omega)
    have E := Box2.chain B1 VR (.int .i64 k) (.slice va vs.length vc)
    have Z := VR.put (.int .i64 k) (.slice va vs.length vc)
    obtain ⟨z0, z1, _, _⟩ := id Z
    obtain ⟨d0, d1, df, _⟩ := id VR
    clear R B V1 V2 hb B1 gq S c0 c1
    go_wp2
    refine bodyPost_ret (v := .agg #[.int .i64 k, .slice va vs.length vc]) (by simp [results, Try.results8, go_sem, z0, z1]) rfl ?_
    exact ⟨_, vs, rfl, RS.out, E⟩
  · have HT : Hid (rs.map (·.map (rot (tq q))) = ts) := by show _ = _; rw [← ht.out]; unfold trnV; rw [hg.out]; rfl
    go_wp2_with fail
    refine (changed_any 22 [.pointer (some ⟨w.heap.size + 1, 0, none⟩)] (rot (tq q)) k a c rs _ S HS.out enter_turned1 (fun W x y hW => turned1_any x y q _ W (bat hW Q1))).mono ?_
    rintro e w1 ⟨v, vs, rfl, R, hb⟩
    rw [HT.out] at R
    obtain ⟨va, vc, rfl, _, _⟩ := R.shape
    have B1 := B.trans (hb.mono B.size)
    have VR := V2.below hb
    have gq : w1.grownBy ((w1.setCell ⟨w.heap.size + 2, 0, none⟩ (.int .i64 k)).setCell ⟨w.heap.size + 2, 1, none⟩ (.slice va vs.length vc)) (some (w.heap.size + 2)) := grownBy_setCell (p := ⟨w.heap.size + 2, 1, none⟩) (grownBy_setCell (p := ⟨w.heap.size + 2, 0, none⟩) (grownBy_refl _ _) rfl _) rfl _
    have RS : Hid (ShR w.heap.size ((w1.setCell ⟨w.heap.size + 2, 0, none⟩ (.int .i64 k)).setCell ⟨w.heap.size + 2, 1, none⟩ (.slice va vs.length vc)) (.slice va vs.length vc) vs ts) := (R.drawn gq (by omega)).base (by omega)
    have E := Box2.chain B1 VR (.int .i64 k) (.slice va vs.length vc)
    have Z := VR.put (.int .i64 k) (.slice va vs.length vc)
    obtain ⟨z0, z1, _, _⟩ := id Z
    obtain ⟨d0, d1, df, _⟩ := id VR
    clear R B V1 V2 hb B1 gq S c0 c1
    go_wp2
    refine bodyPost_ret (v := .agg #[.int .i64 k, .slice va vs.length vc]) (by simp [results, Try.results8, go_sem, z0, z1]) rfl ?_
    exact ⟨_, vs, rfl, RS.out, E⟩
end Go.Proofs.Ythncjdmjpglliaa
