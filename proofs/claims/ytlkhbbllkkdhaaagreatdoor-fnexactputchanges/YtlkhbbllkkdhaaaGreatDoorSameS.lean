/- Whether two shapes are the same: of the program and of the specification. -/
import Derived.Test.YtlkhbbllkkdhaaaGreatDoorPtsL
import Derived.BigRegion
namespace Go.Proofs.YtlkhbbllkkdhaaaGreatDoor
open Go.RowKit

/-- Whether two rows of points are the same. -/
def psB (ps qs : List (Int × Int)) : Bool := decide (ps = qs)
theorem psB_len {ps qs : List (Int × Int)} (h : ps.length ≠ qs.length) : psB ps qs = false := decide_eq_false (fun e => h (by rw [e]))
theorem psB_at {ps qs : List (Int × Int)} {j : Nat} (h : ps[j]?.getD (0, 0) ≠ qs[j]?.getD (0, 0)) : psB ps qs = false := decide_eq_false (fun e => h (by rw [e]))
theorem take_step {α : Type} {xs ys : List α} {d : α} {j : Nat} (hx : j < xs.length) (hy : j < ys.length) (h : xs.take j = ys.take j) (e : xs[j]?.getD d = ys[j]?.getD d) : xs.take (j + 1) = ys.take (j + 1) := by
  rw [List.take_succ_eq_append_getElem hx, List.take_succ_eq_append_getElem hy, h]
  rw [List.getElem?_eq_getElem hx, List.getElem?_eq_getElem hy] at e
  simp only [Option.getD_some] at e
  rw [e]

set_option maxRecDepth 20000 in
set_option maxHeartbeats 1000000 in
theorem equalPts (a b : Option Addr) (c d : Nat) (ps qs : List (Int × Int)) (w : World) (h : SeesP w a c ps) (k : SeesP w b d qs) :
    Calls Tryz.prog 60 #[.slice a ps.length c, .slice b qs.length d] w fun e w' => e = .returned (.bool (psB ps qs)) ∧ Below w.heap.size w w' := by
  have hm := h.max
  have hf := h.fits
  unfold maxLen at hm
  have km := k.max
  have kf := k.fits
  unfold maxLen at km
  by_cases hl : ps.length = qs.length
  · have hne : ((ps.length : Int) != (qs.length : Int)) = false := by rw [hl]; simp
    have HL : Hid (ps.length = qs.length) := hl
    have hjq : ∀ j : Nat, j < ps.length → j < qs.length := fun j hj => by omega
    clear hl
    go_enter Tryz.func60, Tryz.ntmps60
    go_wp2
    go_loopw [13] (fun i wr => ∃ j : Nat, j ≤ ps.length ∧ i = .int .i64 j ∧ Hid (ps.take j = qs.take j) ∧ Below w.heap.size w wr) (fun i _ => ps.length - (intOf i).toNat)
    case atStart => exact ⟨0, Nat.zero_le _, rfl, rfl, Below.refl _ _⟩
    case round =>
      obtain ⟨j, hj, rfl, ht, B⟩ := hrel
      rename World => wr
      by_cases hlt : j < ps.length
      · have hlq : j < qs.length := hjq j hlt
        obtain ⟨b1, o1, rfl, hc⟩ := (h.below B).cells (by intro e; simp [e] at hlt)
        obtain ⟨b2, o2, rfl, hd⟩ := (k.below B).cells (by intro e; simp [e] at hlq)
        obtain ⟨g1, g2⟩ := hc j hlt
        obtain ⟨g3, g4⟩ := hd j hlq
        clear hc hd hjq
        by_cases hq : ps[j]?.getD (0, 0) = qs[j]?.getD (0, 0)
        · have HT : Hid (ps.take (j + 1) = qs.take (j + 1)) := take_step hlt hlq ht.out hq
          rw [hq] at g1 g2
          clear ht hq
          generalize (qs[j]?.getD (0, 0)).1 = x at *
          generalize (qs[j]?.getD (0, 0)).2 = y at *
          go_wp2_with fail
          go_region
          replace B := B.drew
          go_wp2
          go_roundw
          case rel => exact ⟨j + 1, by omega, by go_num, HT, B⟩
          case measure => simp [intOf]; omega
        · have E : Hid (psB ps qs = false) := psB_at hq
          generalize ps[j]?.getD (0, 0) = p at *
          generalize qs[j]?.getD (0, 0) = q at *
          obtain ⟨x, y⟩ := p
          obtain ⟨u, v⟩ := q
          dsimp only at g1 g2 g3 g4
          by_cases hxu : x = u
          · subst hxu
            have hyv : (y == v) = false := by rw [beq_eq_false_iff_ne]; intro e; exact hq (by rw [e])
            clear hq ht
            go_wp2_with fail
            go_region
            replace B := B.drew
            go_wp2
            go_ret
            exact ⟨by rw [E.out]; rfl, B⟩
          · have hxb : (x == u) = false := by rw [beq_eq_false_iff_ne]; exact hxu
            clear hq ht
            go_wp2_with fail
            go_region
            replace B := B.drew
            go_wp2
            go_ret
            exact ⟨by rw [E.out]; rfl, B⟩
      · obtain rfl : j = ps.length := by omega
        have E : Hid (psB ps qs = true) := by
          have := ht.out
          rw [List.take_length, HL.out, List.take_length] at this
          exact decide_eq_true this
        clear ht
        go_wp2
        go_ret
        exact ⟨by rw [E.out]; rfl, B⟩
  · have hne : ((ps.length : Int) != (qs.length : Int)) = true := by rw [bne_iff_ne]; omega
    have E : Hid (psB ps qs = false) := psB_len hl
    go_enter Tryz.func60, Tryz.ntmps60
    go_wp2
    go_ret
    exact ⟨by rw [E.out]; rfl, Below.refl _ _⟩

/-- Whether two lists of rows are the same. -/
def rsB (rs ts : List (List (Int × Int))) : Bool := decide (rs = ts)
theorem rsB_len {rs ts : List (List (Int × Int))} (h : rs.length ≠ ts.length) : rsB rs ts = false := decide_eq_false (fun e => h (by rw [e]))
theorem rsB_at {rs ts : List (List (Int × Int))} {j : Nat} (h : psB (rowA rs j) (rowA ts j) = false) : rsB rs ts = false := decide_eq_false (fun e => by rw [e] at h; simp [psB] at h)

set_option maxRecDepth 20000 in
set_option maxHeartbeats 1000000 in
theorem equalRows (a b : Option Addr) (c d : Nat) (rs ts : List (List (Int × Int))) (w : World) (h : SeesS w a c rs) (k : SeesS w b d ts) :
    Calls Tryz.prog 59 #[.slice a rs.length c, .slice b ts.length d, .func (.func 60) #[] #[]] w fun e w' => e = .returned (.bool (rsB rs ts)) ∧ Below w.heap.size w w' := by
  have hm := h.max
  have hf := h.fits
  unfold maxLen at hm
  have km := k.max
  have kf := k.fits
  unfold maxLen at km
  by_cases hl : rs.length = ts.length
  · have hne : ((rs.length : Int) != (ts.length : Int)) = false := by rw [hl]; simp
    have HL : Hid (rs.length = ts.length) := hl
    have hjq : ∀ j : Nat, j < rs.length → j < ts.length := fun j hj => by omega
    clear hl
    go_enter Tryz.func59, Tryz.ntmps59
    go_wp2
    go_loopw [17] (fun i wr => ∃ j : Nat, j ≤ rs.length ∧ i = .int .i64 j ∧ Hid (rs.take j = ts.take j) ∧ Below w.heap.size w wr) (fun i _ => rs.length - (intOf i).toNat)
    case atStart => exact ⟨0, Nat.zero_le _, rfl, rfl, Below.refl _ _⟩
    case round =>
      obtain ⟨j, hj, rfl, ht, B⟩ := hrel
      rename World => wr
      by_cases hlt : j < rs.length
      · have hlq : j < ts.length := hjq j hlt
        obtain ⟨b1, o1, rfl, hc⟩ := (h.below B).cells (by intro e; simp [e] at hlt)
        obtain ⟨b2, o2, rfl, hd⟩ := (k.below B).cells (by intro e; simp [e] at hlq)
        obtain ⟨a3, c3, g1, p1⟩ := hc j hlt
        obtain ⟨a4, c4, g2, p2⟩ := hd j hlq
        clear hc hd hjq
        cases hq : psB (rowA rs j) (rowA ts j)
        · have E : Hid (rsB rs ts = false) := rsB_at hq
          clear ht
          go_wp2_with (go_at_call 60; refine (equalPts a3 a4 c3 c4 _ _ _ p1 p2).mono ?_; rintro e w2 ⟨rfl, hb⟩; rw [hq]; replace B := B.trans (hb.mono B.size); clear hb)
          go_ret
          exact ⟨by rw [E.out]; rfl, B⟩
        · have HT : Hid (rs.take (j + 1) = ts.take (j + 1)) := take_step (d := []) hlt hlq ht.out (of_decide_eq_true hq)
          clear ht
          go_wp2_with (go_at_call 60; refine (equalPts a3 a4 c3 c4 _ _ _ p1 p2).mono ?_; rintro e w2 ⟨rfl, hb⟩; rw [hq]; replace B := B.trans (hb.mono B.size); clear hb)
          go_roundw
          case rel => exact ⟨j + 1, by omega, by go_num, HT, B⟩
          case measure => simp [intOf]; omega
      · obtain rfl : j = rs.length := by omega
        have E : Hid (rsB rs ts = true) := by
          have := ht.out
          rw [List.take_length, HL.out, List.take_length] at this
          exact decide_eq_true this
        clear ht
        go_wp2
        go_ret
        exact ⟨by rw [E.out]; rfl, B⟩
  · have hne : ((rs.length : Int) != (ts.length : Int)) = true := by rw [bne_iff_ne]; omega
    have E : Hid (rsB rs ts = false) := rsB_len hl
    go_enter Tryz.func59, Tryz.ntmps59
    go_wp2
    go_ret
    exact ⟨by rw [E.out]; rfl, Below.refl _ _⟩

/-- Whether two shapes are the same. -/
def shB (n m : Int) (rs ts : List (List (Int × Int))) : Bool := (n == m) && rsB rs ts

set_option maxRecDepth 20000 in
set_option maxHeartbeats 1000000 in
theorem implSame (n m : Int) (a b : Option Addr) (c d : Nat) (rs ts : List (List (Int × Int))) (w : World) (h : SeesS w a c rs) (k : SeesS w b d ts) :
    Calls Tryz.prog 44 #[.agg #[.int .i64 n, .slice a rs.length c], .agg #[.int .i64 m, .slice b ts.length d]] w fun e w' => e = .returned (.bool (shB n m rs ts)) ∧ Below w.heap.size w w' := by
  have B := below2 w (.cells #[.int .i64 n, .slice a rs.length c] 42) (.cells #[.int .i64 m, .slice b ts.length d] 42)
  by_cases hnm : n = m
  · have hb0 : (n == m) = true := by rw [beq_iff_eq]; exact hnm
    have E : Hid (shB n m rs ts = rsB rs ts) := by show _ = _; unfold shB; rw [hb0]; rfl
    clear hnm
    go_enter Tryz.func44, Tryz.ntmps44
    go_wp2_with (go_at_call 59; refine (equalRows a b c d rs ts _ (h.below B) (k.below B)).mono ?_; rintro e w2 ⟨rfl, hb⟩; replace B := B.trans (hb.mono B.size); clear hb)
    go_ret
    exact ⟨by rw [E.out]; rfl, B⟩
  · have hb0 : (n == m) = false := by rw [beq_eq_false_iff_ne]; exact hnm
    have E : Hid (shB n m rs ts = false) := by show _ = _; unfold shB; rw [hb0]; rfl
    clear hnm
    go_enter Tryz.func44, Tryz.ntmps44
    go_wp2
    go_ret
    exact ⟨by rw [E.out]; rfl, B⟩
end Go.Proofs.YtlkhbbllkkdhaaaGreatDoor
