/- Where a point lies by an area: of the specification (l6Area, l6Locate, Locate); and the program's Locate. -/
import Derived.Test.YthafhfdhahbdoaaLocI
namespace Go.Proofs.Ythafhfdhahbdoaa
open Go.RowKit

theorem inV_cases (q : List (Int × Int)) (px py : Int) : inV q px py = 0 ∨ inV q px py = 1 ∨ inV q px py = 2 := by
  unfold inV
  split
  · exact .inr (.inl rfl)
  · split
    · exact .inr (.inr rfl)
    · exact .inl rfl
theorem keepL5 {W W' : World} {p q : Nat} {b off : Nat} {v0 v1 v2 v3 v4 : Value} (k : W.cell? ⟨p, 0, none⟩ = some v0 ∧ W.cell? ⟨p, 1, none⟩ = some v1 ∧ W.cell? ⟨q, 0, none⟩ = some v2 ∧ W.cell? ⟨q, 1, none⟩ = some v3 ∧ W.cell? ⟨b, off, none⟩ = some v4) (hb : Below W.heap.size W W') :
    W'.cell? ⟨p, 0, none⟩ = some v0 ∧ W'.cell? ⟨p, 1, none⟩ = some v1 ∧ W'.cell? ⟨q, 0, none⟩ = some v2 ∧ W'.cell? ⟨q, 1, none⟩ = some v3 ∧ W'.cell? ⟨b, off, none⟩ = some v4 :=
  ⟨bat hb k.1, bat hb k.2.1, bat hb k.2.2.1, bat hb k.2.2.2.1, bat hb k.2.2.2.2⟩

set_option maxRecDepth 20000 in
set_option maxHeartbeats 2000000 in
theorem l6Locate_any (n : Int) (a : Option Addr) (c : Nat) (rs : List (List (Int × Int))) (px py : Int) (w : World) (h : SeesS w a c rs) (h0 : 0 < rs.length) (ok : ∀ i, i < rs.length → okL (rowA rs i) = true) (cx : Crd px) (cy : Crd py) :
    Calls Try.prog 27 #[.agg #[.int .i64 n, .slice a rs.length c], .agg #[.int .i64 px, .int .i64 py]] w fun e w' => e = .returned (.int .i64 (lcS rs (px, py) (rs.length - 1))) ∧ Below w.heap.size w w' := by
  have hm := h.max
  have hf := h.fits
  unfold maxLen at hm
  have B0 := below2 w (.cells #[.int .i64 n, .slice a rs.length c] 33) (.cells #[.int .i64 px, .int .i64 py] 35)
  have V1 := (Box2.new w (lo := w.heap.size) (Nat.le_refl _) (.int .i64 n) (.slice a rs.length c) 33).below (below1 _ (.cells #[.int .i64 px, .int .i64 py] 35))
  have V2 := Box2.new (w.alloc (.cells #[.int .i64 n, .slice a rs.length c] 33)) (lo := w.heap.size) (by simp) (.int .i64 px) (.int .i64 py) 35
  rw [World.size_alloc] at V2
  have SW := h.below B0
  obtain ⟨b, off, rfl, hc⟩ := SW.cells (by intro e; simp [e] at h0)
  obtain ⟨a0, c0, g0, P0⟩ := hc 0 h0
  rw [Nat.add_zero] at g0
  have O0 := ok 0 h0
  have HST : Hid (∀ j, lcS rs (px, py) j ≠ 2 → j ≤ rs.length - 1 → lcS rs (px, py) (rs.length - 1) = lcS rs (px, py) j) := fun j q hj => lcS_stay q _ hj
  have HI : Hid (lcS rs (px, py) 0 = inV (rowA rs 0) px py) := (rfl : lcS rs (px, py) 0 = _)
  have hrl : (0 : Int) < rs.length := by omega
  clear h
  go_enter Try.func27, Try.ntmps27
  go_wp2_with fail
  generalize (w.alloc (.cells #[.int .i64 n, .slice (some ⟨b, off, none⟩) rs.length c] 33)).alloc (.cells #[.int .i64 px, .int .i64 py] 35) = W at *
  have K0 : W.cell? ⟨w.heap.size, 0, none⟩ = some (.int .i64 n) ∧ W.cell? ⟨w.heap.size, 1, none⟩ = some (.slice (some ⟨b, off, none⟩) rs.length c) ∧ W.cell? ⟨w.heap.size + 1, 0, none⟩ = some (.int .i64 px) ∧ W.cell? ⟨w.heap.size + 1, 1, none⟩ = some (.int .i64 py) ∧ W.cell? ⟨b, off, none⟩ = some (.slice a0 (rowA rs 0).length c0) := ⟨V1.c0, V1.c1, V2.c0, V2.c1, g0⟩
  generalize rowA rs 0 = p0 at *
  go_region_held3 (fun w' => w'.cell? ⟨w.heap.size, 0, none⟩ = some (.int .i64 n) ∧ w'.cell? ⟨w.heap.size, 1, none⟩ = some (.slice (some ⟨b, off, none⟩) rs.length c) ∧ w'.cell? ⟨w.heap.size + 1, 0, none⟩ = some (.int .i64 px) ∧ w'.cell? ⟨w.heap.size + 1, 1, none⟩ = some (.int .i64 py) ∧ w'.cell? ⟨b, off, none⟩ = some (.slice a0 p0.length c0))
    (first | exact K0 | exact m1)
    ((go_at_call 40; refine (l5In_any a0 c0 p0 px py _ (P0.below (Below.refl _ _).drew) O0 cx cy).mono ?_; rintro e x1 ⟨rfl, hb⟩; have N1 := (Below.refl W.heap.size W).drew.trans (hb.mono (by simp)); have m1 := keepL5 K0 N1; clear hb))
  all_goals
    rw [← HI.out]
    clear m1 K0 g0 P0 O0
    go_wp2
    go_loopw [5, 6] (fun s5 s6 wr => ∃ j : Nat, 1 ≤ j ∧ j ≤ rs.length ∧ s6 = .int .i64 j ∧ s5 = .int .i64 (lcS rs (px, py) (j - 1)) ∧ Below W.heap.size W wr) (fun _ s6 _ => rs.length - (intOf s6).toNat)
    case atStart => exact ⟨1, by omega, by omega, rfl, rfl, N1⟩
    case round =>
      clear N1
      obtain ⟨j, j1, hj, rfl, rfl, N⟩ := hrel
      rename World => wr
      obtain ⟨i, rfl⟩ : ∃ i, j = i + 1 := ⟨j - 1, by omega⟩
      rw [Nat.add_sub_cancel] at *
      obtain ⟨k0, k1, _, _⟩ := V1.below N
      by_cases hlt : i + 1 < rs.length
      · have hlt2 : ((i : Int) + 1) < (rs.length : Int) := by omega
        obtain ⟨lc, HLC⟩ : ∃ z, Hid (lcS rs (px, py) i = z) := ⟨_, rfl⟩
        rw [HLC.out]
        by_cases h2 : lc = 2
        · subst h2
          obtain ⟨a3, c3, g3, O⟩ := hc (i + 1) hlt
          have OK := ok (i + 1) hlt
          have HN : Hid (lcS rs (px, py) (i + 1) = 2 - inV (rowA rs (i + 1)) px py) := by
            show (if lcS rs (px, py) i = 2 then _ else _) = _
            rw [HLC.out, if_pos rfl]
          have hiv := inV_cases (rowA rs (i + 1)) px py
          have g4 := bat N g3
          rw [show off + (i + 1) = off + i + 1 by omega] at g4 g3
          have K0 : wr.cell? ⟨w.heap.size, 0, none⟩ = some (.int .i64 n) ∧ wr.cell? ⟨w.heap.size, 1, none⟩ = some (.slice (some ⟨b, off, none⟩) rs.length c) ∧ wr.cell? ⟨w.heap.size + 1, 0, none⟩ = some (.int .i64 px) ∧ wr.cell? ⟨w.heap.size + 1, 1, none⟩ = some (.int .i64 py) ∧ wr.cell? ⟨b, off + (i + 1), none⟩ = some (.slice a3 (rowA rs (i + 1)).length c3) := ⟨k0, k1, (V2.below N).c0, (V2.below N).c1, g4⟩
          replace O := O.below N
          generalize rowA rs (i + 1) = ps at *
          obtain ⟨iv, HIV⟩ : ∃ z, Hid (inV ps px py = z) := ⟨_, rfl⟩
          rw [HIV.out] at hiv HN
          have hi1 : (0 : Int) ≤ (i : Int) + 1 := by omega
          have hwv : IntKind.i64.wrap (2 - iv) = 2 - iv := by rw [IntKind.wrap_i64]; omega
          clear g3 g4
          go_wp2_with fail
          clear k0 k1
          go_region_held3 (fun w' => w'.cell? ⟨w.heap.size, 0, none⟩ = some (.int .i64 n) ∧ w'.cell? ⟨w.heap.size, 1, none⟩ = some (.slice (some ⟨b, off, none⟩) rs.length c) ∧ w'.cell? ⟨w.heap.size + 1, 0, none⟩ = some (.int .i64 px) ∧ w'.cell? ⟨w.heap.size + 1, 1, none⟩ = some (.int .i64 py) ∧ w'.cell? ⟨b, off + (i + 1), none⟩ = some (.slice a3 ps.length c3))
            (first | exact K0 | exact m1)
            ((go_at_call 40; refine (l5In_any a3 c3 ps px py _ (O.below (Below.refl _ _).drew) OK cx cy).mono ?_; rintro e x1 ⟨rfl, hb⟩; have N1 := (Below.refl wr.heap.size wr).drew.trans (hb.mono (by simp)); have m1 := keepL5 K0 N1; rw [HIV.out]; clear hb))
          all_goals
            have N2 := N.trans (N1.mono N.size)
            clear K0 m1 N1
            go_wp2
            go_roundw
            case rel => exact ⟨i + 2, by omega, by omega, by go_num, (by rw [show i + 2 - 1 = i + 1 by omega, HN.out]), N2⟩
            case measure => simp [intOf]; omega
        · have b2 : (lc == 2) = false := by simp [h2]
          have F : Hid (lcS rs (px, py) (rs.length - 1) = lc) := by
            show _ = _
            rw [HST.out i (by rw [HLC.out]; exact h2) (by omega), HLC.out]
          go_wp2
          go_ret
          exact ⟨by rw [F.out]; rfl, B0.trans (N.mono B0.size)⟩
      · have hie : Hid (rs.length - 1 = i) := (by omega : rs.length - 1 = i)
        have hlt2 : ¬ ((i : Int) + 1) < (rs.length : Int) := by omega
        go_wp2
        go_ret
        exact ⟨by rw [hie.out]; rfl, B0.trans (N.mono B0.size)⟩

/-- Where a point lies by a shape; 0 by one that is no good area, and for a point out of the bounds. -/
def locV (n : Int) (rs : List (List (Int × Int))) (px py : Int) : Int := if ptOk px py && (decide (n = 5) && goodB n rs) then locI rs (px, py) else 0
theorem keepL4 {W W' : World} {p q : Nat} {v0 v1 v2 v3 : Value} (k : W.cell? ⟨p, 0, none⟩ = some v0 ∧ W.cell? ⟨p, 1, none⟩ = some v1 ∧ W.cell? ⟨q, 0, none⟩ = some v2 ∧ W.cell? ⟨q, 1, none⟩ = some v3) (hb : Below W.heap.size W W') :
    W'.cell? ⟨p, 0, none⟩ = some v0 ∧ W'.cell? ⟨p, 1, none⟩ = some v1 ∧ W'.cell? ⟨q, 0, none⟩ = some v2 ∧ W'.cell? ⟨q, 1, none⟩ = some v3 :=
  ⟨bat hb k.1, bat hb k.2.1, bat hb k.2.2.1, bat hb k.2.2.2⟩
theorem ptOk_crd {x y : Int} (h : ptOk x y = true) : Crd x ∧ Crd y := by
  unfold ptOk at h
  rw [Bool.and_eq_true, inB_true, inB_true] at h
  exact h
theorem goodA_rows {rs : List (List (Int × Int))} (h : goodB 5 rs = true) : ∀ i, i < rs.length → okL (rowA rs i) = true := by
  have hf : formB 5 rs = true := by
    unfold goodB goodTo at h
    rw [Bool.and_eq_true] at h
    exact h.1
  exact fun i hi => (area_row hf i hi).1

end Go.Proofs.Ythafhfdhahbdoaa
