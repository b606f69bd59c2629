/- Whether two shapes are the same: of the specification. -/
import Derived.Test.YtfddiojcahbkfanSameS
namespace Go.Proofs.Ytfddiojcahbkfan
open Go.RowKit

set_option maxRecDepth 20000 in
set_option maxHeartbeats 2000000 in
theorem specSame (n m : Int) (a b : Option Addr) (c d : Nat) (rs ts : List (List (Int × Int))) (w : World) (h : SeesS w a c rs) (k : SeesS w b d ts) :
    Calls Try.prog 28 #[.agg #[.int .i64 n, .slice a rs.length c], .agg #[.int .i64 m, .slice b ts.length d]] w fun e w' => e = .returned (.bool (shB n m rs ts)) ∧ Below w.heap.size w w' := by
  have hm := h.max
  have hf := h.fits
  unfold maxLen at hm
  have km := k.max
  have kf := k.fits
  unfold maxLen at km
  have B0 := below2 w (.cells #[.int .i64 n, .slice a rs.length c] 43) (.cells #[.int .i64 m, .slice b ts.length d] 43)
  by_cases hnm : n = m
  · by_cases hl : rs.length = ts.length
    · have hb0 : (n != m) = false := by rw [hnm]; simp
      have hne : ((rs.length : Int) != (ts.length : Int)) = false := by rw [hl]; simp
      have E : Hid (shB n m rs ts = rsB rs ts) := by show _ = _; unfold shB; rw [hnm]; simp
      have HL : Hid (rs.length = ts.length) := hl
      have hjq : ∀ j : Nat, j < rs.length → j < ts.length := fun j hj => by omega
      have V1 : Box2 0 ((w.alloc (.cells #[.int .i64 n, .slice a rs.length c] 43)).alloc (.cells #[.int .i64 m, .slice b ts.length d] 43)) w.heap.size (.int .i64 n) (.slice a rs.length c) := (Box2.new w (lo := 0) (by omega) _ _ _).below (below1 _ _)
      have V2 : Box2 0 ((w.alloc (.cells #[.int .i64 n, .slice a rs.length c] 43)).alloc (.cells #[.int .i64 m, .slice b ts.length d] 43)) (w.heap.size + 1) (.int .i64 m) (.slice b ts.length d) := by have := Box2.new (w.alloc (.cells #[.int .i64 n, .slice a rs.length c] 43)) (lo := 0) (by omega) (.int .i64 m) (.slice b ts.length d) 43; simpa using this
      have S1 := h.below B0
      have S2 := k.below B0
      clear hl hnm h k
      go_enter Try.func28, Try.ntmps28
      go_wp2
      generalize (w.alloc (.cells #[.int .i64 n, .slice a rs.length c] 43)).alloc (.cells #[.int .i64 m, .slice b ts.length d] 43) = W at *
      go_loopw [5] (fun s5 wr => ∃ j : Nat, j ≤ rs.length ∧ s5 = .int .i64 j ∧ Hid (rs.take j = ts.take j) ∧ Below W.heap.size W wr) (fun s5 _ => rs.length - (intOf s5).toNat)
      case atStart => exact ⟨0, Nat.zero_le _, rfl, rfl, Below.refl _ _⟩
      case round =>
        obtain ⟨j, hj, rfl, ht, B⟩ := hrel
        rename World => wr
        obtain ⟨_, k1, _, _⟩ := V1.below B
        obtain ⟨_, k2, _, _⟩ := V2.below B
        by_cases hlt : j < rs.length
        · have hlq : j < ts.length := hjq j hlt
          obtain ⟨b1, o1, rfl, hc⟩ := (S1.below B).cells (by intro e; simp [e] at hlt)
          obtain ⟨b2, o2, rfl, hd⟩ := (S2.below B).cells (by intro e; simp [e] at hlq)
          obtain ⟨a3, c3, g1, p1⟩ := hc j hlt
          obtain ⟨a4, c4, g2, p2⟩ := hd j hlq
          clear hc hd
          have p1m := p1.max
          have p1f := p1.fits
          unfold maxLen at p1m
          have p2m := p2.max
          have p2f := p2.fits
          unfold maxLen at p2m
          have HP : Hid (psB (rowA rs j) (rowA ts j) = false → rsB rs ts = false) := fun q => rsB_at q
          have HQ : Hid (psB (rowA rs j) (rowA ts j) = true → rs.take (j + 1) = ts.take (j + 1)) := fun q => take_step (d := []) hlt hlq ht.out (of_decide_eq_true q)
          clear ht
          generalize rowA rs j = ps at *
          generalize rowA ts j = qs at *
          by_cases hpl : ps.length = qs.length
          · have hpn : ((ps.length : Int) != (qs.length : Int)) = false := by rw [hpl]; simp
            have HPL : Hid (ps.length = qs.length) := hpl
            have hiq : ∀ j : Nat, j < ps.length → j < qs.length := fun j hj => by omega
            clear hpl
            go_wp2_with fail
            go_region
            replace B := B.drew
            replace k1 := bat (Below.refl wr.heap.size wr).drew k1
            replace k2 := bat (Below.refl wr.heap.size wr).drew k2
            replace g1 := bat (Below.refl wr.heap.size wr).drew g1
            replace g2 := bat (Below.refl wr.heap.size wr).drew g2
            replace p1 := p1.below (Below.refl wr.heap.size wr).drew
            replace p2 := p2.below (Below.refl wr.heap.size wr).drew
            generalize wr.drew = W1 at *
            go_wp2_with fail
            go_loopw [6] (fun s6 wi => ∃ i : Nat, i ≤ ps.length ∧ s6 = .int .i64 i ∧ Hid (ps.take i = qs.take i) ∧ Below W1.heap.size W1 wi) (fun s6 _ => ps.length - (intOf s6).toNat)
            case atStart => exact ⟨0, Nat.zero_le _, rfl, rfl, Below.refl _ _⟩
            case round =>
              obtain ⟨i, hi, rfl, hti, Bi⟩ := hrel
              rename World => wi
              replace k1 := bat Bi k1
              replace k2 := bat Bi k2
              replace g1 := bat Bi g1
              replace g2 := bat Bi g2
              by_cases hli : i < ps.length
              · have hliq : i < qs.length := hiq i hli
                obtain ⟨b3, o3, rfl, hc⟩ := (p1.below Bi).cells (by intro e; simp [e] at hli)
                obtain ⟨b4, o4, rfl, hd⟩ := (p2.below Bi).cells (by intro e; simp [e] at hliq)
                obtain ⟨x1, x2⟩ := hc i hli
                obtain ⟨x3, x4⟩ := hd i hliq
                clear hc hd
                by_cases hq : ps[i]?.getD (0, 0) = qs[i]?.getD (0, 0)
                · have HT : Hid (ps.take (i + 1) = qs.take (i + 1)) := take_step hli hliq hti.out hq
                  rw [hq] at x1 x2
                  clear hti hq
                  generalize (qs[i]?.getD (0, 0)).1 = x at *
                  generalize (qs[i]?.getD (0, 0)).2 = y at *
                  go_wp2_with fail
                  go_region
                  replace Bi := Bi.drew
                  go_wp2
                  go_roundw
                  case rel => exact ⟨i + 1, by omega, by go_num, HT, Bi⟩
                  case measure => simp [intOf]; omega
                · have EF : Hid (rsB rs ts = false) := HP.out (psB_at hq)
                  generalize ps[i]?.getD (0, 0) = p at *
                  generalize qs[i]?.getD (0, 0) = q at *
                  obtain ⟨x, y⟩ := p
                  obtain ⟨u, v⟩ := q
                  dsimp only at x1 x2 x3 x4
                  by_cases hxu : x = u
                  · subst hxu
                    have hyv : (y == v) = false := by rw [beq_eq_false_iff_ne]; intro e; exact hq (by rw [e])
                    clear hq hti HP HQ
                    go_wp2_with fail
                    go_region
                    replace Bi := Bi.drew
                    go_wp2
                    go_ret
                    exact ⟨by rw [E.out, EF.out]; rfl, (B0.trans (B.mono B0.size)).trans (Bi.mono (Nat.le_trans B0.size B.size))⟩
                  · have hxb : (x == u) = false := by rw [beq_eq_false_iff_ne]; exact hxu
                    clear hq hti HP HQ
                    go_wp2_with fail
                    go_region
                    replace Bi := Bi.drew
                    go_wp2
                    go_ret
                    exact ⟨by rw [E.out, EF.out]; rfl, (B0.trans (B.mono B0.size)).trans (Bi.mono (Nat.le_trans B0.size B.size))⟩
              · obtain rfl : i = ps.length := by omega
                have HT : Hid (rs.take (j + 1) = ts.take (j + 1)) := HQ.out (by
                  have := hti.out
                  rw [List.take_length, HPL.out, List.take_length] at this
                  exact decide_eq_true this)
                clear hti HP HQ
                go_wp2
                go_roundw
                case rel => exact ⟨j + 1, by omega, by go_num, HT, B.trans (Bi.mono B.size)⟩
                case measure => simp [intOf]; omega
          · have hpn : ((ps.length : Int) != (qs.length : Int)) = true := by rw [bne_iff_ne]; omega
            have EF : Hid (rsB rs ts = false) := HP.out (psB_len hpl)
            clear HP HQ
            go_wp2_with fail
            go_region
            replace B := B.drew
            go_wp2
            go_ret
            exact ⟨by rw [E.out, EF.out]; rfl, B0.trans (B.mono B0.size)⟩
        · obtain rfl : j = rs.length := by omega
          have EF : Hid (rsB rs ts = true) := by
            have := ht.out
            rw [List.take_length, HL.out, List.take_length] at this
            exact decide_eq_true this
          clear ht
          go_wp2
          go_ret
          exact ⟨by rw [E.out, EF.out]; rfl, B0.trans (B.mono B0.size)⟩
    · have hb0 : (n != m) = false := by rw [hnm]; simp
      have hne : ((rs.length : Int) != (ts.length : Int)) = true := by rw [bne_iff_ne]; omega
      have E : Hid (shB n m rs ts = false) := by show _ = _; unfold shB; rw [rsB_len hl]; simp
      clear hnm hl
      go_enter Try.func28, Try.ntmps28
      go_wp2
      go_ret
      exact ⟨by rw [E.out]; rfl, B0⟩
  · have hb0 : (n != m) = true := by rw [bne_iff_ne]; exact hnm
    have E : Hid (shB n m rs ts = false) := by
      show _ = _
      unfold shB
      rw [show (n == m) = false by rw [beq_eq_false_iff_ne]; exact hnm]
      rfl
    clear hnm
    go_enter Try.func28, Try.ntmps28
    go_wp2
    go_ret
    exact ⟨by rw [E.out]; rfl, B0⟩
end Go.Proofs.Ytfddiojcahbkfan
