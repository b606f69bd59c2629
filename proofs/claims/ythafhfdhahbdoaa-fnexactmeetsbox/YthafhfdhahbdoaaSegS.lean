/- The segments of a shape: of the specification (l5Segs, Segments). -/
import Derived.Test.YthafhfdhahbdoaaGoodS
import Derived.Test.YthafhfdhahbdoaaGoodR
import Derived.Test.YthafhfdhahbdoaaSeg
import Derived.Test.YthafhfdhahbdoaaConQ
import Derived.Test.YthafhfdhahbdoaaFigI
import Derived.Test.YthafhfdhahbdoaaHeld
namespace Go.Proofs.Ythafhfdhahbdoaa
open Go.RowKit

/-- The segments of a row, by the shape's kind. -/
def sgR (k : Int) (ps : List (Int × Int)) : List Sg := if k ≤ 2 then ps.map (fun p => (p, p)) else if k = 5 then edL ps else (edL ps).take (ps.length - 1)
def segL (k : Int) (rs : List (List (Int × Int))) : List Sg := (rs.map (sgR k)).flatten
theorem segL_step {k : Int} {rs : List (List (Int × Int))} {j : Nat} (h : j < rs.length) : segL k (rs.take (j + 1)) = segL k (rs.take j) ++ sgR k (rowA rs j) := by
  unfold segL
  rw [List.take_add_one, List.getElem?_eq_getElem h, List.map_append, List.flatten_append]
  unfold rowA
  rw [List.getElem?_eq_getElem h]
  simp
theorem sgR_le (k : Int) (ps : List (Int × Int)) : (sgR k ps).length ≤ ps.length := by
  unfold sgR
  split
  · simp
  · split
    · rw [edL_len]; exact Nat.le_refl _
    · rw [List.length_take, edL_len]; omega
theorem segL_le {k : Int} {rs : List (List (Int × Int))} (hl : ∀ i, i < rs.length → (rowA rs i).length ≤ 60) : ∀ j, j ≤ rs.length → (segL k (rs.take j)).length ≤ 60 * j
  | 0, _ => by simp [segL]
  | j + 1, h => by
    have h1 := segL_le (k := k) hl j (by omega)
    have h2 := sgR_le k (rowA rs j)
    have h3 := hl j (by omega)
    rw [segL_step (by omega), List.length_append]
    omega
theorem take_more {es : List Sg} {i : Nat} (h : i < es.length) : es.take (i + 1) = es.take i ++ [sgA es i] := by
  rw [List.take_add_one, List.getElem?_eq_getElem h]
  unfold sgA
  rw [List.getElem?_eq_getElem h]
  rfl
theorem sgR_point {k : Int} (h : k ≤ 2) {ps : List (Int × Int)} {i : Nat} (hi : i < ps.length) : (sgR k ps).take (i + 1) = (sgR k ps).take i ++ [(ptA ps i, ptA ps i)] := by
  have e : sgR k ps = ps.map (fun p => (p, p)) := by unfold sgR; rw [if_pos h]
  rw [e, take_more (by rw [List.length_map]; exact hi)]
  congr 2
  unfold sgA ptA
  rw [List.getElem?_map, List.getElem?_eq_getElem hi]
  rfl
theorem nx_next {n i : Nat} (h : i + 1 < n) : nx n i = i + 1 := by unfold nx; exact Nat.mod_eq_of_lt h
theorem nx_last {n i : Nat} (h : i + 1 = n) : nx n i = 0 := by unfold nx; rw [h, Nat.mod_self]
theorem sgR_line {k : Int} (h : ¬ k ≤ 2) {ps : List (Int × Int)} {i : Nat} (hi : i + 1 < ps.length) : (sgR k ps).take (i + 1) = (sgR k ps).take i ++ [(ptA ps i, ptA ps (i + 1))] := by
  have e1 : (edL ps).take (i + 1) = (edL ps).take i ++ [(ptA ps i, ptA ps (i + 1))] := by rw [take_more (by rw [edL_len]; omega), edL_at (by omega), nx_next hi]
  unfold sgR
  rw [if_neg h]
  split
  · exact e1
  · rw [List.take_take, List.take_take, Nat.min_eq_left (by omega), Nat.min_eq_left (by omega)]
    exact e1
theorem sgR_last {ps : List (Int × Int)} {i : Nat} (hi : i + 1 = ps.length) : (sgR 5 ps).take (i + 1) = (sgR 5 ps).take i ++ [(ptA ps i, ptA ps 0)] := by
  have e : sgR 5 ps = edL ps := by unfold sgR; rw [if_neg (by omega), if_pos rfl]
  rw [e, take_more (by rw [edL_len]; omega), edL_at (by omega), nx_last hi]
theorem sgR_end {k : Int} (h : ¬ k ≤ 2) (h5 : k ≠ 5) {ps : List (Int × Int)} {i : Nat} (hi : i + 1 = ps.length) : (sgR k ps).take (i + 1) = (sgR k ps).take i := by
  unfold sgR
  rw [if_neg h, if_neg h5, List.take_take, List.take_take, Nat.min_eq_right (by omega), Nat.min_eq_left (by omega)]
  congr 1
  omega
theorem sg_new (w : World) (e : TypeId) (x y u v : Int) : ∀ j z, (sgC [((x, y), (u, v))])[j]? = some z → (w.alloc (.cells #[.int .i64 x, .int .i64 y, .int .i64 u, .int .i64 v] e)).cell? ((⟨w.heap.size, 0, none⟩ : Addr).add j) = some z := by
  intro j z hz
  rcases j with _ | _ | _ | _ | j
  · simp [sgC] at hz; subst hz; exact cell_new w #[.int .i64 x, .int .i64 y, .int .i64 u, .int .i64 v] e 0 rfl
  · simp [sgC] at hz; subst hz; exact cell_new w #[.int .i64 x, .int .i64 y, .int .i64 u, .int .i64 v] e 1 rfl
  · simp [sgC] at hz; subst hz; exact cell_new w #[.int .i64 x, .int .i64 y, .int .i64 u, .int .i64 v] e 2 rfl
  · simp [sgC] at hz; subst hz; exact cell_new w #[.int .i64 x, .int .i64 y, .int .i64 u, .int .i64 v] e 3 rfl
  · simp [sgC] at hz
theorem RowQ.empty (w : World) {base : Nat} (h : base ≤ w.heap.size) : RowQ base (w.alloc (.cells #[] 56)) (.slice (some ⟨w.heap.size, 0, none⟩) 0 0) [] :=
  ⟨rfl, .inr ⟨w.heap.size, 0, #[], rfl, h, heap_alloc_new _ _, Nat.le_refl _, by simp [maxLen], rfl, rfl⟩⟩

set_option maxRecDepth 20000 in
set_option maxHeartbeats 8000000 in
theorem l5Segs_any (n : Int) (a : Option Addr) (c : Nat) (rs : List (List (Int × Int))) (w : World) (h : SeesS w a c rs) (hn : rs.length ≤ 12) (hl : ∀ i, i < rs.length → 0 < (rowA rs i).length ∧ (rowA rs i).length ≤ 60) :
    Calls Try.prog 24 #[.agg #[.int .i64 n, .slice a rs.length c]] w fun e w' => ∃ v, e = .returned v ∧ RowQ w.heap.size w' v (segL n rs) ∧ Below w.heap.size w w' := by
  obtain ⟨i0, hi, hz0, hz1, hz2⟩ := info_parts infoE
  have hm := h.max
  have hf := h.fits
  unfold maxLen at hm
  have B0 := below1 w (.cells #[.int .i64 n, .slice a rs.length c] 33)
  have R0 := RowQ.empty (w.alloc (.cells #[.int .i64 n, .slice a rs.length c] 33)) (Nat.le_refl _)
  have B1 := below1 (w.alloc (.cells #[.int .i64 n, .slice a rs.length c] 33)) (.cells #[] 56)
  have VS := Box2.new w (lo := w.heap.size) (Nat.le_refl _) (.int .i64 n) (.slice a rs.length c) 33
  have SW := h.below B0
  have hW : (w.alloc (.cells #[.int .i64 n, .slice a rs.length c] 33)).heap.size = w.heap.size + 1 := by simp
  rw [show RowQ (w.alloc (.cells #[.int .i64 n, .slice a rs.length c] 33)).heap.size = RowQ (w.heap.size + 1) by rw [hW], hW] at R0
  have HL : Hid (∀ i, i < rs.length → 0 < (rowA rs i).length ∧ (rowA rs i).length ≤ 60) := hl
  have HB : Hid (∀ j, j ≤ rs.length → (segL n (rs.take j)).length ≤ 60 * j) := segL_le (fun i q => (hl i q).2)
  clear hl h
  go_enter Try.func24, Try.ntmps24
  go_wp2
  generalize w.alloc (.cells #[.int .i64 n, .slice a rs.length c] 33) = W0 at *
  generalize W0.alloc (.cells #[] 56) = W at *
  go_loopw [3, 4] (fun s3 s4 wr => ∃ j : Nat, j ≤ rs.length ∧ s4 = .int .i64 j ∧ RowQ (w.heap.size + 1) wr s3 (segL n (rs.take j)) ∧ Below W0.heap.size W0 wr) (fun _ s4 _ => rs.length - (intOf s4).toNat)
  case atStart => exact ⟨0, Nat.zero_le _, rfl, R0, B1⟩
  case round =>
    clear R0 B1
    obtain ⟨j, hj, rfl, RR, B⟩ := hrel
    rename World => wr
    obtain ⟨k0, k1, _, _⟩ := VS.below B
    by_cases hlj : j < rs.length
    · obtain ⟨b, off, rfl, hc⟩ := SW.cells (by intro e; simp [e] at hlj)
      obtain ⟨a', c', g, SP⟩ := hc j hlj
      obtain ⟨n1, n2⟩ := HL.out j hlj
      have b3 := HB.out j (by omega)
      have HST : Hid (segL n (rs.take (j + 1)) = segL n (rs.take j) ++ sgR n (rowA rs j)) := segL_step hlj
      have HLE := sgR_le n (rowA rs j)
      clear hc
      generalize rowA rs j = ps at *
      obtain ⟨L0, hL0⟩ : ∃ z, Hid (segL n (rs.take j) = z) := ⟨_, rfl⟩
      rw [hL0.out] at RR b3 HST
      clear hL0
      obtain ⟨b5, o5, rfl, pc⟩ := SP.cells (by intro e; simp [e] at n1)
      have pm := SP.max
      have pf := SP.fits
      unfold maxLen at pm
      have g1 := bat B g
      go_wp2
      clear g1 k0 k1
      go_loopw [3, 6] (fun s3 s6 wi => ∃ i : Nat, i ≤ ps.length ∧ s6 = .int .i64 i ∧ RowQ (w.heap.size + 1) wi s3 (L0 ++ (sgR n ps).take i) ∧ Below W0.heap.size W0 wi) (fun _ s6 _ => ps.length - (intOf s6).toNat)
      case atStart => exact ⟨0, Nat.zero_le _, rfl, (by rw [List.take_zero, List.append_nil]; exact RR), B⟩
      case round =>
        clear RR B
        obtain ⟨i, hi', rfl, RQ, B⟩ := hrel
        rename World => wi
        obtain ⟨k0, k1, _, _⟩ := VS.below B
        by_cases hli : i < ps.length
        · obtain ⟨t0, t1⟩ := pc i hli
          rw [show (ps[i]?.getD (0, 0)) = ptA ps i from rfl] at t0 t1
          have hLL : (L0 ++ (sgR n ps).take i).length ≤ 60 * j + 60 := by rw [List.length_append, List.length_take]; omega
          by_cases hk : n ≤ 2
          · have HX : Hid ((sgR n ps).take (i + 1) = (sgR n ps).take i ++ [(ptA ps i, ptA ps i)]) := sgR_point hk hli
            obtain ⟨L, hL⟩ : ∃ z, Hid (L0 ++ (sgR n ps).take i = z) := ⟨_, rfl⟩
            have HY : Hid (L0 ++ (sgR n ps).take (i + 1) = L ++ [(ptA ps i, ptA ps i)]) := by
              show _ = _
              rw [HX.out, ← hL.out, List.append_assoc]
            rw [hL.out] at RQ hLL
            clear HX hL
            obtain ⟨x, hx⟩ : ∃ z, Hid ((ptA ps i).1 = z) := ⟨_, rfl⟩
            obtain ⟨y, hy⟩ : ∃ z, Hid ((ptA ps i).2 = z) := ⟨_, rfl⟩
            have HZ : Hid (L0 ++ (sgR n ps).take (i + 1) = L ++ [((x, y), (x, y))]) := by
              show _ = _
              rw [HY.out, ← hx.out, ← hy.out]
            rw [hx.out] at t0
            rw [hy.out] at t1
            obtain ⟨u0, u1⟩ := And.intro t0 t1
            clear HY hx hy
            go_upto_region 10 with fail
            clear k0 k1
            have N := (B.drew : Below W0.heap.size W0 _)
            have RW := RowQ.below RQ ((Below.refl _ _).drew)
            refine wp_region_held_drew (S := Below W0.heap.size W0) (by kernel_rfl) N (fun hHeld => ?_)
            clear hHeld
            revert N RW
            generalize wi.drew = ww0
            intro N RW
            refine takeW (i := 0) (by simp only [List.getElem?_toArray, List.getElem?_cons_zero]; exact rfl) (by kernel_rfl) (by kernel_rfl) (by kernel_rfl) (by exact fun _ _ _ h => h) (by rfl) (by intro wq hSw; go_simp <;> with_reducible rfl) (by assumption) ?_
            try simp only [Act.put, List.setIfInBounds_toArray, List.set_cons_zero, List.set_cons_succ]
            refine takeW (i := 1) (by simp only [List.getElem?_toArray, List.getElem?_cons_succ, List.getElem?_cons_zero]; exact rfl) (by kernel_rfl) (by kernel_rfl) (by kernel_rfl) (by exact fun _ _ _ h => h) (by rfl) (by intro wq hSw; go_simp <;> with_reducible rfl) (by assumption) ?_
            try simp only [Act.put, List.setIfInBounds_toArray, List.set_cons_zero, List.set_cons_succ]
            refine takeW (i := 2) (by simp only [List.getElem?_toArray, List.getElem?_cons_succ, List.getElem?_cons_zero]; exact rfl) (by kernel_rfl) (by kernel_rfl) (by kernel_rfl) (by exact fun _ _ _ h => h) (by rfl) (by intro wq hSw; go_simp <;> with_reducible rfl) (by assumption) ?_
            try simp only [Act.put, List.setIfInBounds_toArray, List.set_cons_zero, List.set_cons_succ]
            refine takeW (i := 3) (by simp only [List.getElem?_toArray, List.getElem?_cons_succ, List.getElem?_cons_zero]; exact rfl) (by kernel_rfl) (by kernel_rfl) (by kernel_rfl) (by exact fun _ _ _ h => h) (by rfl) (by intro wq hSw; go_simp <;> with_reducible rfl) (by assumption) ?_
            try simp only [Act.put, List.setIfInBounds_toArray, List.set_cons_zero, List.set_cons_succ]
            refine takeW (i := 4) (by simp only [List.getElem?_toArray, List.getElem?_cons_succ, List.getElem?_cons_zero]; exact rfl) (by kernel_rfl) (by kernel_rfl) (by kernel_rfl) (by exact fun _ _ _ h => h) (by rfl) (by intro wq hSw; have z0 := bat hSw t0; have z1 := bat hSw t1; have z2 := bat hSw u0; have z3 := bat hSw u1; go_simp <;> with_reducible rfl) (by assumption) ?_
            try simp only [Act.put, List.setIfInBounds_toArray, List.set_cons_zero, List.set_cons_succ]
            refine takeW (i := 5) (by simp only [List.getElem?_toArray, List.getElem?_cons_succ, List.getElem?_cons_zero]; exact rfl) (by kernel_rfl) (by kernel_rfl) (by kernel_rfl) (by exact fun _ _ _ h => h) (by rfl) (by intro wq hSw; go_simp <;> with_reducible rfl) (by assumption) ?_
            try simp only [Act.put, List.setIfInBounds_toArray, List.set_cons_zero, List.set_cons_succ]
            refine takeW (i := 6) (by simp only [List.getElem?_toArray, List.getElem?_cons_succ, List.getElem?_cons_zero]; exact rfl) (by kernel_rfl) (by kernel_rfl) (by kernel_rfl) (by exact fun _ _ _ h => h) (by rfl) (by intro wq hSw; go_simp <;> with_reducible rfl) (by assumption) ?_
            try simp only [Act.put, List.setIfInBounds_toArray, List.set_cons_zero, List.set_cons_succ]
            refine takeW (i := 7) (by simp only [List.getElem?_toArray, List.getElem?_cons_succ, List.getElem?_cons_zero]; exact rfl) (by kernel_rfl) (by kernel_rfl) (by kernel_rfl) (by exact fun _ _ _ h => h) (by rfl) (by intro wq hSw; go_simp <;> with_reducible rfl) (by assumption) ?_
            try simp only [Act.put, List.setIfInBounds_toArray, List.set_cons_zero, List.set_cons_succ]
            refine takeW (i := 8) (by simp only [List.getElem?_toArray, List.getElem?_cons_succ, List.getElem?_cons_zero]; exact rfl) (by kernel_rfl) (by kernel_rfl) (by kernel_rfl) (by exact fun _ _ _ h => h) (by rfl) (by intro wq hSw; have z0 := bat hSw t0; have z1 := bat hSw t1; have z2 := bat hSw u0; have z3 := bat hSw u1; go_simp <;> with_reducible rfl) (by assumption) ?_
            try simp only [Act.put, List.setIfInBounds_toArray, List.set_cons_zero, List.set_cons_succ]
            refine takeW (i := 9) (by simp only [List.getElem?_toArray, List.getElem?_cons_succ, List.getElem?_cons_zero]; exact rfl) (by kernel_rfl) (by kernel_rfl) (by kernel_rfl) (by exact fun _ _ _ h => h) (by rfl) (by intro wq hSw; go_simp <;> with_reducible rfl) (by assumption) ?_
            try simp only [Act.put, List.setIfInBounds_toArray, List.set_cons_zero, List.set_cons_succ]
            refine wpAnyH_ready (rs := [10]) (by kernel_rfl) (by simp) (AllReadyH.cons (by simp only [List.getElem?_toArray, List.getElem?_cons_succ, List.getElem?_cons_zero]; exact rfl) (fun K hK => ?_) AllReadyH.nil)
            go_simp
            have bn := below1 ww0 (.cells #[.int .i64 x, .int .i64 y, .int .i64 x, .int .i64 y] 56)
            have N2 := N.trans (bn.mono N.size)
            have RW2 := RW.below bn
            have NW := sg_new ww0 56 x y x y
            have nz : w.heap.size + 1 ≤ (ww0.alloc (.cells #[.int .i64 x, .int .i64 y, .int .i64 x, .int .i64 y] 56)).heap.size := by have := N2.size; omega
            refine hK.out _ _ N2 (fun hHeld => ?_)
            clear hK K hHeld bn
            try simp only [Act.put, List.setIfInBounds_toArray, List.set_cons_zero, List.set_cons_succ]
            generalize ww0.alloc (.cells #[.int .i64 x, .int .i64 y, .int .i64 x, .int .i64 y] 56) = ww1 at *
            refine wpAnyH_ready (rs := [11]) (by kernel_rfl) (by simp) (AllReadyH.cons (by simp only [List.getElem?_toArray, List.getElem?_cons_succ, List.getElem?_cons_zero]; exact rfl) (fun K hK => ?_) AllReadyH.nil)
            refine wp_append_own _ (.tmp 30) (.tmp 40) 53 rfl (w.heap.size + 1) 56 i0 (.agg #[.int .i64 0, .int .i64 0, .int .i64 0, .int .i64 0]) 4 32 Try.underlying53 hi hz0 hz1 hz2 rfl (by decide) u3 L.length (sgC L) rfl RW2 ⟨ww0.heap.size, 0, none⟩ 1 _ (sgC [((x, y), (x, y))]) rfl rfl NW (sgC_ones _) (by unfold maxLen; omega) (by omega) nz ?_
            intro v7 w7 R7 G7 _
            have N7 : Below W0.heap.size W0 w7 := by rw [hW]; rw [hW] at N2; exact N2.grown G7 nz (fun k hk => (World.ownsRow.lt RW2 k hk).1)
            replace R7 : RowQ (w.heap.size + 1) w7 v7 (L ++ [((x, y), (x, y))]) := by unfold RowQ; rw [sgC_append, List.length_append]; exact R7
            refine hK.out _ _ N7 (fun hHeld => ?_)
            clear hK K hHeld
            try simp only [Act.put, List.setIfInBounds_toArray, List.set_cons_zero, List.set_cons_succ]
            refine takeW (i := 12) (by simp only [List.getElem?_toArray, List.getElem?_cons_succ, List.getElem?_cons_zero]; exact rfl) (by kernel_rfl) (by kernel_rfl) (by kernel_rfl) (by exact fun _ _ _ h => h) (by rfl) (by intro wq hSw; go_simp <;> with_reducible rfl) (by assumption) ?_
            try simp only [Act.put, List.setIfInBounds_toArray, List.set_cons_zero, List.set_cons_succ]
            refine wpAnyH_done (by kernel_rfl) ?_ _
            clear t0 t1 u0 u1 NW RW RW2 N N2
            go_wp2
            go_roundw
            case rel => exact ⟨i + 1, by omega, by go_num, (by rw [HZ.out]; exact R7), N7⟩
            case measure => simp [intOf]; omega
          · by_cases hlast : i + 1 < ps.length
            · have HX : Hid ((sgR n ps).take (i + 1) = (sgR n ps).take i ++ [(ptA ps i, ptA ps (i + 1))]) := sgR_line hk hlast
              obtain ⟨u0, u1⟩ := pc (i + 1) hlast
              rw [show (ps[i + 1]?.getD (0, 0)) = ptA ps (i + 1) from rfl] at u0 u1
              obtain ⟨L, hL⟩ : ∃ z, Hid (L0 ++ (sgR n ps).take i = z) := ⟨_, rfl⟩
              have HY : Hid (L0 ++ (sgR n ps).take (i + 1) = L ++ [(ptA ps i, ptA ps (i + 1))]) := by
                show _ = _
                rw [HX.out, ← hL.out, List.append_assoc]
              rw [hL.out] at RQ hLL
              clear HX hL
              obtain ⟨x, hx⟩ : ∃ z, Hid ((ptA ps i).1 = z) := ⟨_, rfl⟩
              obtain ⟨y, hy⟩ : ∃ z, Hid ((ptA ps i).2 = z) := ⟨_, rfl⟩
              obtain ⟨x', hx'⟩ : ∃ z, Hid ((ptA ps (i + 1)).1 = z) := ⟨_, rfl⟩
              obtain ⟨y', hy'⟩ : ∃ z, Hid ((ptA ps (i + 1)).2 = z) := ⟨_, rfl⟩
              have HZ : Hid (L0 ++ (sgR n ps).take (i + 1) = L ++ [((x, y), (x', y'))]) := by
                show _ = _
                rw [HY.out, ← hx.out, ← hy.out, ← hx'.out, ← hy'.out]
              rw [hx.out] at t0
              rw [hy.out] at t1
              rw [hx'.out] at u0
              rw [hy'.out] at u1
              clear HY hx hy hx' hy'
              have hi1 : (0 : Int) ≤ (i : Int) + 1 := by omega
              have hi2 : (i : Int) + 1 < (ps.length : Int) := by omega
              have hwi : IntKind.i64.wrap ((i : Int) + 1) = (i : Int) + 1 := by rw [IntKind.wrap_i64]; omega
              go_upto_region 12 with fail
              clear k0 k1
              have N := (B.drew : Below W0.heap.size W0 _)
              have RW := RowQ.below RQ ((Below.refl _ _).drew)
              refine wp_region_held_drew (S := Below W0.heap.size W0) (by kernel_rfl) N (fun hHeld => ?_)
              clear hHeld
              revert N RW
              generalize wi.drew = ww0
              intro N RW
              refine takeW (i := 0) (by simp only [List.getElem?_toArray, List.getElem?_cons_zero]; exact rfl) (by kernel_rfl) (by kernel_rfl) (by kernel_rfl) (by exact fun _ _ _ h => h) (by rfl) (by intro wq hSw; go_simp <;> with_reducible rfl) (by assumption) ?_
              try simp only [Act.put, List.setIfInBounds_toArray, List.set_cons_zero, List.set_cons_succ]
              refine takeW (i := 1) (by simp only [List.getElem?_toArray, List.getElem?_cons_succ, List.getElem?_cons_zero]; exact rfl) (by kernel_rfl) (by kernel_rfl) (by kernel_rfl) (by exact fun _ _ _ h => h) (by rfl) (by intro wq hSw; go_simp <;> with_reducible rfl) (by assumption) ?_
              try simp only [Act.put, List.setIfInBounds_toArray, List.set_cons_zero, List.set_cons_succ]
              refine takeW (i := 2) (by simp only [List.getElem?_toArray, List.getElem?_cons_succ, List.getElem?_cons_zero]; exact rfl) (by kernel_rfl) (by kernel_rfl) (by kernel_rfl) (by exact fun _ _ _ h => h) (by rfl) (by intro wq hSw; go_simp <;> with_reducible rfl) (by assumption) ?_
              try simp only [Act.put, List.setIfInBounds_toArray, List.set_cons_zero, List.set_cons_succ]
              refine takeW (i := 3) (by simp only [List.getElem?_toArray, List.getElem?_cons_succ, List.getElem?_cons_zero]; exact rfl) (by kernel_rfl) (by kernel_rfl) (by kernel_rfl) (by exact fun _ _ _ h => h) (by rfl) (by intro wq hSw; go_simp <;> with_reducible rfl) (by assumption) ?_
              try simp only [Act.put, List.setIfInBounds_toArray, List.set_cons_zero, List.set_cons_succ]
              refine takeW (i := 4) (by simp only [List.getElem?_toArray, List.getElem?_cons_succ, List.getElem?_cons_zero]; exact rfl) (by kernel_rfl) (by kernel_rfl) (by kernel_rfl) (by exact fun _ _ _ h => h) (by rfl) (by intro wq hSw; have z0 := bat hSw t0; have z1 := bat hSw t1; have z2 := bat hSw u0; have z3 := bat hSw u1; go_simp <;> with_reducible rfl) (by assumption) ?_
              try simp only [Act.put, List.setIfInBounds_toArray, List.set_cons_zero, List.set_cons_succ]
              refine takeW (i := 5) (by simp only [List.getElem?_toArray, List.getElem?_cons_succ, List.getElem?_cons_zero]; exact rfl) (by kernel_rfl) (by kernel_rfl) (by kernel_rfl) (by exact fun _ _ _ h => h) (by rfl) (by intro wq hSw; go_simp <;> with_reducible rfl) (by assumption) ?_
              try simp only [Act.put, List.setIfInBounds_toArray, List.set_cons_zero, List.set_cons_succ]
              refine takeW (i := 6) (by simp only [List.getElem?_toArray, List.getElem?_cons_succ, List.getElem?_cons_zero]; exact rfl) (by kernel_rfl) (by kernel_rfl) (by kernel_rfl) (by exact fun _ _ _ h => h) (by rfl) (by intro wq hSw; go_simp <;> with_reducible rfl) (by assumption) ?_
              try simp only [Act.put, List.setIfInBounds_toArray, List.set_cons_zero, List.set_cons_succ]
              refine takeW (i := 7) (by simp only [List.getElem?_toArray, List.getElem?_cons_succ, List.getElem?_cons_zero]; exact rfl) (by kernel_rfl) (by kernel_rfl) (by kernel_rfl) (by exact fun _ _ _ h => h) (by rfl) (by intro wq hSw; go_simp <;> with_reducible rfl) (by assumption) ?_
              try simp only [Act.put, List.setIfInBounds_toArray, List.set_cons_zero, List.set_cons_succ]
              refine takeW (i := 8) (by simp only [List.getElem?_toArray, List.getElem?_cons_succ, List.getElem?_cons_zero]; exact rfl) (by kernel_rfl) (by kernel_rfl) (by kernel_rfl) (by exact fun _ _ _ h => h) (by rfl) (by intro wq hSw; go_simp <;> with_reducible rfl) (by assumption) ?_
              try simp only [Act.put, List.setIfInBounds_toArray, List.set_cons_zero, List.set_cons_succ]
              refine takeW (i := 9) (by simp only [List.getElem?_toArray, List.getElem?_cons_succ, List.getElem?_cons_zero]; exact rfl) (by kernel_rfl) (by kernel_rfl) (by kernel_rfl) (by exact fun _ _ _ h => h) (by rfl) (by intro wq hSw; have z0 := bat hSw t0; have z1 := bat hSw t1; have z2 := bat hSw u0; have z3 := bat hSw u1; go_simp <;> with_reducible rfl) (by assumption) ?_
              try simp only [Act.put, List.setIfInBounds_toArray, List.set_cons_zero, List.set_cons_succ]
              refine takeW (i := 10) (by simp only [List.getElem?_toArray, List.getElem?_cons_succ, List.getElem?_cons_zero]; exact rfl) (by kernel_rfl) (by kernel_rfl) (by kernel_rfl) (by exact fun _ _ _ h => h) (by rfl) (by intro wq hSw; go_simp <;> with_reducible rfl) (by assumption) ?_
              try simp only [Act.put, List.setIfInBounds_toArray, List.set_cons_zero, List.set_cons_succ]
              refine wpAnyH_ready (rs := [11]) (by kernel_rfl) (by simp) (AllReadyH.cons (by simp only [List.getElem?_toArray, List.getElem?_cons_succ, List.getElem?_cons_zero]; exact rfl) (fun K hK => ?_) AllReadyH.nil)
              go_simp
              have bn := below1 ww0 (.cells #[.int .i64 x, .int .i64 y, .int .i64 x', .int .i64 y'] 56)
              have N2 := N.trans (bn.mono N.size)
              have RW2 := RW.below bn
              have NW := sg_new ww0 56 x y x' y'
              have nz : w.heap.size + 1 ≤ (ww0.alloc (.cells #[.int .i64 x, .int .i64 y, .int .i64 x', .int .i64 y'] 56)).heap.size := by have := N2.size; omega
              refine hK.out _ _ N2 (fun hHeld => ?_)
              clear hK K hHeld bn
              try simp only [Act.put, List.setIfInBounds_toArray, List.set_cons_zero, List.set_cons_succ]
              generalize ww0.alloc (.cells #[.int .i64 x, .int .i64 y, .int .i64 x', .int .i64 y'] 56) = ww1 at *
              refine wpAnyH_ready (rs := [12]) (by kernel_rfl) (by simp) (AllReadyH.cons (by simp only [List.getElem?_toArray, List.getElem?_cons_succ, List.getElem?_cons_zero]; exact rfl) (fun K hK => ?_) AllReadyH.nil)
              refine wp_append_own _ (.tmp 48) (.tmp 59) 53 rfl (w.heap.size + 1) 56 i0 (.agg #[.int .i64 0, .int .i64 0, .int .i64 0, .int .i64 0]) 4 32 Try.underlying53 hi hz0 hz1 hz2 rfl (by decide) u3 L.length (sgC L) rfl RW2 ⟨ww0.heap.size, 0, none⟩ 1 _ (sgC [((x, y), (x', y'))]) rfl rfl NW (sgC_ones _) (by unfold maxLen; omega) (by omega) nz ?_
              intro v7 w7 R7 G7 _
              have N7 : Below W0.heap.size W0 w7 := by rw [hW]; rw [hW] at N2; exact N2.grown G7 nz (fun k hk => (World.ownsRow.lt RW2 k hk).1)
              replace R7 : RowQ (w.heap.size + 1) w7 v7 (L ++ [((x, y), (x', y'))]) := by unfold RowQ; rw [sgC_append, List.length_append]; exact R7
              refine hK.out _ _ N7 (fun hHeld => ?_)
              clear hK K hHeld
              try simp only [Act.put, List.setIfInBounds_toArray, List.set_cons_zero, List.set_cons_succ]
              refine takeW (i := 13) (by simp only [List.getElem?_toArray, List.getElem?_cons_succ, List.getElem?_cons_zero]; exact rfl) (by kernel_rfl) (by kernel_rfl) (by kernel_rfl) (by exact fun _ _ _ h => h) (by rfl) (by intro wq hSw; go_simp <;> with_reducible rfl) (by assumption) ?_
              try simp only [Act.put, List.setIfInBounds_toArray, List.set_cons_zero, List.set_cons_succ]
              refine wpAnyH_done (by kernel_rfl) ?_ _
              clear t0 t1 u0 u1 NW RW RW2 N N2
              go_wp2
              go_roundw
              case rel => exact ⟨i + 1, by omega, by go_num, (by rw [HZ.out]; exact R7), N7⟩
              case measure => simp [intOf]; omega
            · have hi2 : ¬ ((i : Int) + 1 < (ps.length : Int)) := by omega
              by_cases h5 : n = 5
              · subst h5
                have HX : Hid ((sgR 5 ps).take (i + 1) = (sgR 5 ps).take i ++ [(ptA ps i, ptA ps 0)]) := sgR_last (by omega)
                obtain ⟨u0, u1⟩ := pc 0 (by omega)
                rw [show (ps[0]?.getD (0, 0)) = ptA ps 0 from rfl] at u0 u1
                simp only [Nat.zero_mul, Nat.add_zero] at u0 u1
                obtain ⟨L, hL⟩ : ∃ z, Hid (L0 ++ (sgR 5 ps).take i = z) := ⟨_, rfl⟩
                have HY : Hid (L0 ++ (sgR 5 ps).take (i + 1) = L ++ [(ptA ps i, ptA ps 0)]) := by
                  show _ = _
                  rw [HX.out, ← hL.out, List.append_assoc]
                rw [hL.out] at RQ hLL
                clear HX hL
                obtain ⟨x, hx⟩ : ∃ z, Hid ((ptA ps i).1 = z) := ⟨_, rfl⟩
                obtain ⟨y, hy⟩ : ∃ z, Hid ((ptA ps i).2 = z) := ⟨_, rfl⟩
                obtain ⟨x', hx'⟩ : ∃ z, Hid ((ptA ps 0).1 = z) := ⟨_, rfl⟩
                obtain ⟨y', hy'⟩ : ∃ z, Hid ((ptA ps 0).2 = z) := ⟨_, rfl⟩
                have HZ : Hid (L0 ++ (sgR 5 ps).take (i + 1) = L ++ [((x, y), (x', y'))]) := by
                  show _ = _
                  rw [HY.out, ← hx.out, ← hy.out, ← hx'.out, ← hy'.out]
                rw [hx.out] at t0
                rw [hy.out] at t1
                rw [hx'.out] at u0
                rw [hy'.out] at u1
                clear HY hx hy hx' hy'
                have hn0 : (0 : Int) < (ps.length : Int) := by omega
                go_upto_region 14 with fail
                clear k0 k1
                have N := (B.drew : Below W0.heap.size W0 _)
                have RW := RowQ.below RQ ((Below.refl _ _).drew)
                refine wp_region_held_drew (S := Below W0.heap.size W0) (by kernel_rfl) N (fun hHeld => ?_)
                clear hHeld
                revert N RW
                generalize wi.drew = ww0
                intro N RW
                refine takeW (i := 0) (by simp only [List.getElem?_toArray, List.getElem?_cons_zero]; exact rfl) (by kernel_rfl) (by kernel_rfl) (by kernel_rfl) (by exact fun _ _ _ h => h) (by rfl) (by intro wq hSw; go_simp <;> with_reducible rfl) (by assumption) ?_
                try simp only [Act.put, List.setIfInBounds_toArray, List.set_cons_zero, List.set_cons_succ]
                refine takeW (i := 1) (by simp only [List.getElem?_toArray, List.getElem?_cons_succ, List.getElem?_cons_zero]; exact rfl) (by kernel_rfl) (by kernel_rfl) (by kernel_rfl) (by exact fun _ _ _ h => h) (by rfl) (by intro wq hSw; go_simp <;> with_reducible rfl) (by assumption) ?_
                try simp only [Act.put, List.setIfInBounds_toArray, List.set_cons_zero, List.set_cons_succ]
                refine takeW (i := 2) (by simp only [List.getElem?_toArray, List.getElem?_cons_succ, List.getElem?_cons_zero]; exact rfl) (by kernel_rfl) (by kernel_rfl) (by kernel_rfl) (by exact fun _ _ _ h => h) (by rfl) (by intro wq hSw; go_simp <;> with_reducible rfl) (by assumption) ?_
                try simp only [Act.put, List.setIfInBounds_toArray, List.set_cons_zero, List.set_cons_succ]
                refine takeW (i := 3) (by simp only [List.getElem?_toArray, List.getElem?_cons_succ, List.getElem?_cons_zero]; exact rfl) (by kernel_rfl) (by kernel_rfl) (by kernel_rfl) (by exact fun _ _ _ h => h) (by rfl) (by intro wq hSw; go_simp <;> with_reducible rfl) (by assumption) ?_
                try simp only [Act.put, List.setIfInBounds_toArray, List.set_cons_zero, List.set_cons_succ]
                refine takeW (i := 4) (by simp only [List.getElem?_toArray, List.getElem?_cons_succ, List.getElem?_cons_zero]; exact rfl) (by kernel_rfl) (by kernel_rfl) (by kernel_rfl) (by exact fun _ _ _ h => h) (by rfl) (by intro wq hSw; have z0 := bat hSw t0; have z1 := bat hSw t1; have z2 := bat hSw u0; have z3 := bat hSw u1; go_simp <;> with_reducible rfl) (by assumption) ?_
                try simp only [Act.put, List.setIfInBounds_toArray, List.set_cons_zero, List.set_cons_succ]
                refine takeW (i := 5) (by simp only [List.getElem?_toArray, List.getElem?_cons_succ, List.getElem?_cons_zero]; exact rfl) (by kernel_rfl) (by kernel_rfl) (by kernel_rfl) (by exact fun _ _ _ h => h) (by rfl) (by intro wq hSw; go_simp <;> with_reducible rfl) (by assumption) ?_
                try simp only [Act.put, List.setIfInBounds_toArray, List.set_cons_zero, List.set_cons_succ]
                refine takeW (i := 6) (by simp only [List.getElem?_toArray, List.getElem?_cons_succ, List.getElem?_cons_zero]; exact rfl) (by kernel_rfl) (by kernel_rfl) (by kernel_rfl) (by exact fun _ _ _ h => h) (by rfl) (by intro wq hSw; go_simp <;> with_reducible rfl) (by assumption) ?_
                try simp only [Act.put, List.setIfInBounds_toArray, List.set_cons_zero, List.set_cons_succ]
                refine takeW (i := 7) (by simp only [List.getElem?_toArray, List.getElem?_cons_succ, List.getElem?_cons_zero]; exact rfl) (by kernel_rfl) (by kernel_rfl) (by kernel_rfl) (by exact fun _ _ _ h => h) (by rfl) (by intro wq hSw; have z0 := bat hSw t0; have z1 := bat hSw t1; have z2 := bat hSw u0; have z3 := bat hSw u1; go_simp <;> with_reducible rfl) (by assumption) ?_
                try simp only [Act.put, List.setIfInBounds_toArray, List.set_cons_zero, List.set_cons_succ]
                refine takeW (i := 8) (by simp only [List.getElem?_toArray, List.getElem?_cons_succ, List.getElem?_cons_zero]; exact rfl) (by kernel_rfl) (by kernel_rfl) (by kernel_rfl) (by exact fun _ _ _ h => h) (by rfl) (by intro wq hSw; go_simp <;> with_reducible rfl) (by assumption) ?_
                try simp only [Act.put, List.setIfInBounds_toArray, List.set_cons_zero, List.set_cons_succ]
                refine wpAnyH_ready (rs := [9]) (by kernel_rfl) (by simp) (AllReadyH.cons (by simp only [List.getElem?_toArray, List.getElem?_cons_succ, List.getElem?_cons_zero]; exact rfl) (fun K hK => ?_) AllReadyH.nil)
                go_simp
                have bn := below1 ww0 (.cells #[.int .i64 x, .int .i64 y, .int .i64 x', .int .i64 y'] 56)
                have N2 := N.trans (bn.mono N.size)
                have RW2 := RW.below bn
                have NW := sg_new ww0 56 x y x' y'
                have nz : w.heap.size + 1 ≤ (ww0.alloc (.cells #[.int .i64 x, .int .i64 y, .int .i64 x', .int .i64 y'] 56)).heap.size := by have := N2.size; omega
                refine hK.out _ _ N2 (fun hHeld => ?_)
                clear hK K hHeld bn
                try simp only [Act.put, List.setIfInBounds_toArray, List.set_cons_zero, List.set_cons_succ]
                generalize ww0.alloc (.cells #[.int .i64 x, .int .i64 y, .int .i64 x', .int .i64 y'] 56) = ww1 at *
                refine wpAnyH_ready (rs := [10]) (by kernel_rfl) (by simp) (AllReadyH.cons (by simp only [List.getElem?_toArray, List.getElem?_cons_succ, List.getElem?_cons_zero]; exact rfl) (fun K hK => ?_) AllReadyH.nil)
                refine wp_append_own _ (.tmp 65) (.tmp 74) 53 rfl (w.heap.size + 1) 56 i0 (.agg #[.int .i64 0, .int .i64 0, .int .i64 0, .int .i64 0]) 4 32 Try.underlying53 hi hz0 hz1 hz2 rfl (by decide) u3 L.length (sgC L) rfl RW2 ⟨ww0.heap.size, 0, none⟩ 1 _ (sgC [((x, y), (x', y'))]) rfl rfl NW (sgC_ones _) (by unfold maxLen; omega) (by omega) nz ?_
                intro v7 w7 R7 G7 _
                have N7 : Below W0.heap.size W0 w7 := by rw [hW]; rw [hW] at N2; exact N2.grown G7 nz (fun k hk => (World.ownsRow.lt RW2 k hk).1)
                replace R7 : RowQ (w.heap.size + 1) w7 v7 (L ++ [((x, y), (x', y'))]) := by unfold RowQ; rw [sgC_append, List.length_append]; exact R7
                refine hK.out _ _ N7 (fun hHeld => ?_)
                clear hK K hHeld
                try simp only [Act.put, List.setIfInBounds_toArray, List.set_cons_zero, List.set_cons_succ]
                refine takeW (i := 11) (by simp only [List.getElem?_toArray, List.getElem?_cons_succ, List.getElem?_cons_zero]; exact rfl) (by kernel_rfl) (by kernel_rfl) (by kernel_rfl) (by exact fun _ _ _ h => h) (by rfl) (by intro wq hSw; go_simp <;> with_reducible rfl) (by assumption) ?_
                try simp only [Act.put, List.setIfInBounds_toArray, List.set_cons_zero, List.set_cons_succ]
                refine wpAnyH_done (by kernel_rfl) ?_ _
                clear t0 t1 u0 u1 NW RW RW2 N N2
                go_wp2
                go_roundw
                case rel => exact ⟨i + 1, by omega, by go_num, (by rw [HZ.out]; exact R7), N7⟩
                case measure => simp [intOf]; omega
              · have b5 : (n == 5) = false := by simp [h5]
                have HX : Hid ((sgR n ps).take (i + 1) = (sgR n ps).take i) := sgR_end hk h5 (by omega)
                clear h5
                go_wp2
                go_roundw
                case rel => exact ⟨i + 1, by omega, by go_num, (by rw [HX.out]; exact RQ), B⟩
                case measure => simp [intOf]; omega
        · obtain rfl : i = ps.length := by omega
          have RQ2 : RowQ (w.heap.size + 1) wi u3 (segL n (rs.take (j + 1))) := by
            rw [HST.out]
            rw [List.take_of_length_le HLE] at RQ
            exact RQ
          clear RQ HST
          go_wp2
          go_roundw
          case rel => exact ⟨j + 1, by omega, by go_num, RQ2, B⟩
          case measure => simp [intOf]; omega
    · obtain rfl : j = rs.length := by omega
      rw [List.take_length] at RR
      go_wp2
      go_ret
      exact ⟨_, rfl, row_base RR (by omega), B0.trans (B.mono B0.size)⟩

/-- The segments of a shape. -/
def segsB (k : Int) (rs : List (List (Int × Int))) : List Sg := if goodB k rs then segL k rs else []
end Go.Proofs.Ythafhfdhahbdoaa
