/- The program's ParseNum. -/
import Derived.Test.YtccdihglpobnmaaDoorCutp
import Derived.Test.YtccdihglpobnmaaDoorTrim
import Derived.Test.YtccdihglpobnmaaDoorTree
import Derived.Lib.OthersKept
namespace Go.Proofs.YtccdihglpobnmaaDoor
open Go.RowKit

theorem Box2.rowKept {lo q : Nat} {w w' : World} {x0 x1 : Value} {row : Option Nat} (h : Box2 lo w q x0 x1) (g : w.grownBy w' row) (ne : row ≠ some q) : Box2 lo w' q x0 x1 := by
  have hb := g.block q h.lt (fun e => ne e.symm)
  exact ⟨(World.cell?_of_block hb).trans h.c0, (World.cell?_of_block hb).trans h.c1, fun o => (World.frozen?_of_block (a := ⟨q, o, none⟩) hb).trans (h.fr o), h.lo⟩

set_option maxRecDepth 20000 in
set_option maxHeartbeats 1000000 in
theorem implParse (s : ByteArray) (w : World) (hs : s.size ≤ 1048576) :
    Calls Tryd.prog 14 #[.string s] w fun e w' => ∃ v, e = .returned (.tuple #[v, .bool (pOk (mnB s) (pd s))]) ∧ IsNum w.heap.size w' v (pZ (mnB s) (pd s)) ∧ Below w.heap.size w w' := by
  have HS : Hid (s.size ≤ 1048576) := hs
  have hts : (tl s).size ≤ 1048576 := by
    rw [← bl_len, bl_tl]
    unfold pd
    split
    · rw [List.length_drop, bl_len]; omega
    · rw [bl_len]; exact hs
  rw [← bl_tl]
  obtain ⟨t, ht⟩ : ∃ t, Hid (tl s = t) := ⟨_, rfl⟩
  obtain ⟨g, hg⟩ : ∃ g, Hid (mnB s = g) := ⟨_, rfl⟩
  rw [ht.out] at hts ⊢
  rw [hg.out]
  have hlen := bl_len t
  clear hs
  have R0 := Box2.new w (Nat.le_refl _) (.bool false) (.slice none 0 0) 26
  have B0 := below1 w (.cells #[.bool false, .slice none 0 0] 26)
  obtain ⟨r0, r1, rf, _⟩ := id R0
  by_cases hl : t.size = 0 ∨ 300 < t.size
  · have E : Hid (pOk g (bl t) = false) := by
      show _ = _
      unfold pOk
      rw [hlen]
      rcases hl with h | h
      · rw [decide_eq_false (by omega)]; rfl
      · rw [decide_eq_false (show ¬ t.size ≤ 300 by omega)]; simp
    have EZ : Hid (pZ g (bl t) = 0) := pZ_bad E.out
    rw [E.out, EZ.out]
    rcases hl with h | h
    · have h0 : ((t.size : Int) == 0) = true := by rw [beq_iff_eq]; omega
      clear h hlen
      go_enter Tryd.func14, Tryd.ntmps14
      go_wp2_with fail
      refine (cutMinus s _ HS.out).mono ?_
      rintro e w1 ⟨rfl, rfl⟩
      rw [ht.out, hg.out]
      go_wp2
      exact bodyPost_ret (v := .tuple #[.agg #[.bool false, .slice none 0 0], .bool false]) (by simp [results, Tryd.results14, go_sem]) rfl ⟨_, rfl, ⟨none, 0, [], rfl, Own.nil _ _, trivial, rfl⟩, B0⟩
    · have h0 : ((t.size : Int) == 0) = false := by rw [beq_eq_false_iff_ne]; omega
      clear hlen
      go_enter Tryd.func14, Tryd.ntmps14
      go_wp2_with fail
      refine (cutMinus s _ HS.out).mono ?_
      rintro e w1 ⟨rfl, rfl⟩
      rw [ht.out, hg.out]
      go_wp2
      exact bodyPost_ret (v := .tuple #[.agg #[.bool false, .slice none 0 0], .bool false]) (by simp [results, Tryd.results14, go_sem]) rfl ⟨_, rfl, ⟨none, 0, [], rfl, Own.nil _ _, trivial, rfl⟩, B0⟩
  · have hl0 : 0 < t.size := by omega
    have hl1 : t.size ≤ 300 := by omega
    have h0 : ((t.size : Int) == 0) = false := by rw [beq_eq_false_iff_ne]; omega
    have b0 := bl_at hl0
    clear hl
    generalize hc0 : (t[0].toNat : Int) = c0 at *
    by_cases hz : c0 = 48 ∧ (g = true ∨ 1 < t.size)
    · have E : Hid (pOk g (bl t) = false) := by
        show _ = _
        unfold pOk
        rw [hlen, b0, hz.1]
        rcases hz.2 with h | h
        · rw [h]; simp
        · rw [decide_eq_true h]; simp
      have EZ : Hid (pZ g (bl t) = 0) := pZ_bad E.out
      rw [E.out, EZ.out]
      obtain ⟨rfl, hz2⟩ := hz
      have h48 : ((48 : Int) == 48) = true := rfl
      cases g
      · have h1 : 1 < t.size := by simpa using hz2
        clear hz2 hlen b0
        go_enter Tryd.func14, Tryd.ntmps14
        go_wp2_with fail
        refine (cutMinus s _ HS.out).mono ?_
        rintro e w1 ⟨rfl, rfl⟩
        rw [ht.out, hg.out]
        go_wp2
        exact bodyPost_ret (v := .tuple #[.agg #[.bool false, .slice none 0 0], .bool false]) (by simp [results, Tryd.results14, go_sem]) rfl ⟨_, rfl, ⟨none, 0, [], rfl, Own.nil _ _, trivial, rfl⟩, B0⟩
      · clear hz2 hlen b0
        go_enter Tryd.func14, Tryd.ntmps14
        go_wp2_with fail
        refine (cutMinus s _ HS.out).mono ?_
        rintro e w1 ⟨rfl, rfl⟩
        rw [ht.out, hg.out]
        go_wp2
        exact bodyPost_ret (v := .tuple #[.agg #[.bool false, .slice none 0 0], .bool false]) (by simp [results, Tryd.results14, go_sem]) rfl ⟨_, rfl, ⟨none, 0, [], rfl, Own.nil _ _, trivial, rfl⟩, B0⟩
    · have HZ : Hid (¬ (c0 = 48 ∧ (g = true ∨ 1 < t.size))) := hz
      have E1 : Hid ((bl t).all isD = true → pOk g (bl t) = true) := by
        intro hall
        unfold pOk
        rw [hlen, hall, b0, decide_eq_true (show t.size ≠ 0 by omega), decide_eq_true (show t.size ≤ 300 by omega)]
        by_cases hc : c0 = 48
        · have hg0 : g = false := by
            cases g
            · rfl
            · exact absurd ⟨hc, .inl rfl⟩ hz
          have hn1 : ¬ 1 < t.size := fun h => hz ⟨hc, .inr h⟩
          rw [hg0, decide_eq_false hn1]; simp
        · rw [decide_eq_false hc]; simp
      obtain ⟨bz, hbz⟩ : ∃ bz, Hid (pOk g (bl t) = bz) := ⟨_, rfl⟩
      obtain ⟨zz, hzz⟩ : ∃ zz, Hid (pZ g (bl t) = zz) := ⟨_, rfl⟩
      rw [hbz.out, hzz.out]
      have HLEN : Hid ((bl t).length = t.size) := hlen
      clear hlen b0
      -- the test on a first nought is false
      have hfirst : (c0 == 48) = false ∨ ((c0 == 48) = true ∧ g = false ∧ ¬ 1 < t.size) := by
        by_cases hc : c0 = 48
        · refine .inr ⟨by rw [beq_iff_eq]; exact hc, ?_, fun h => hz ⟨hc, .inr h⟩⟩
          cases g
          · rfl
          · exact absurd ⟨hc, .inl rfl⟩ hz
        · exact .inl (by rw [beq_eq_false_iff_ne]; exact hc)
      clear hz
      have hit0 : ((w.alloc (.cells #[.bool false, .slice none 0 0] 26)).iter t 0).heap[w.heap.size + 1]? = some (.stringIter t 0) := by
        have := World.iter_heap (w.alloc (.cells #[.bool false, .slice none 0 0] 26)) t 0
        simpa using this
      have R1 := R0.below (below1 _ (.stringIter t 0))
      have B1 := B0.trans ((below1 (w.alloc (.cells #[.bool false, .slice none 0 0] 26)) (.stringIter t 0)).mono B0.size)
      clear R0 B0 r0 r1 rf
      rcases hfirst with hf | ⟨hf, hgf, hf2⟩
      all_goals
        go_enter Tryd.func14, Tryd.ntmps14
        go_wp2_with fail
        refine (cutMinus s _ HS.out).mono ?_
        rintro e w1 ⟨rfl, rfl⟩
        rw [ht.out, hg.out]
        go_wp2
        go_loopw [6] (fun s6 wr => ∃ (pos : Nat) (xs : List Int) (v6 : Value), v6 = s6 ∧ pos ≤ t.size ∧ wr.heap[w.heap.size + 1]? = some (.stringIter t pos) ∧ RowU (w.heap.size + 2) wr v6 xs ∧ Hid (Lim xs ∧ val xs = pv (bl t) pos ∧ xs.length ≤ pos ∧ dOk (bl t) pos = true) ∧ Box2 w.heap.size wr w.heap.size (.bool false) (.slice none 0 0) ∧ Below w.heap.size w wr) (fun _ wr => t.size - wr.iterPos (w.heap.size + 1))
        case atStart => exact ⟨0, [], _, rfl, Nat.zero_le _, hit0, World.ownsRow_nil _ _ _ _, ⟨Lim.nil, rfl, Nat.le_refl _, dOk_zero _⟩, R1, B1⟩
        case round =>
          obtain ⟨pos, xs, v6, rfl, hpos, hit, hR, hI, R, B⟩ := hrel
          clear hit0 R1 B1
          have hsz : w.heap.size + 1 < wr.heap.size := (Array.getElem?_eq_some_iff.1 hit).1
          obtain ⟨r0, r1, rf, _⟩ := id R
          have HP : Hid (wr.iterPos (w.heap.size + 1) = pos) := by show _ = _; simp only [World.iterPos, hit]
          by_cases hp : pos < t.size
          · have bp := bl_at hp
            by_cases ha : t[pos].toNat < 128
            · have hnx : ∀ ty, (Instr.next (.pointer (some ⟨w.heap.size + 1, 0, none⟩)) true ty).run Tryd.prog wr = _ := fun ty => Lib.run_next_ascii_at wr (w.heap.size + 1) t pos ty hit hp ha
              have hit2 := Lib.iterAt_heap wr (w.heap.size + 1) t pos (pos + 1) hit
              have B2 := Lib.below_iterAt B (k := w.heap.size + 1) (by omega) t (pos + 1)
              have G2 : wr.grownBy (wr.iterAt (w.heap.size + 1) t (pos + 1)) (some (w.heap.size + 1)) := ⟨rfl, rfl, rfl, by rw [Lib.iterAt_size]; exact Nat.le_refl _, fun i hi hn => Lib.iterAt_other wr _ i t _ (fun e => hn (by rw [e]))⟩
              have R2 := R.rowKept G2 (by intro e; injection e with e; omega)
              have hR2 : RowU (w.heap.size + 2) (wr.iterAt (w.heap.size + 1) t (pos + 1)) v6 xs := ownsRow_iterAt hR (by omega) t (pos + 1)
              have sz2 : w.heap.size + 2 ≤ (wr.iterAt (w.heap.size + 1) t (pos + 1)).heap.size := by rw [Lib.iterAt_size]; omega
              obtain ⟨x, hx⟩ : ∃ x : Int, Hid ((t[pos].toNat : Int) = x) := ⟨(t[pos].toNat : Int), (rfl : (t[pos].toNat : Int) = (t[pos].toNat : Int))⟩
              rw [hx.out] at hnx bp
              have hx0 : 0 ≤ x := by rw [← hx.out]; omega
              have hx1 : x < 128 := by rw [← hx.out]; omega
              cases hd : isD x
              · have EB : Hid (bz = false) := by
                  show _ = _
                  rw [← hbz.out]
                  exact pOk_bad (j := pos) (by rw [HLEN.out]; exact hp) (by rw [bp]; exact hd)
                have EZ : Hid (zz = 0) := by
                  show _ = _
                  rw [← hzz.out]
                  exact pZ_bad (by rw [hbz.out]; exact EB.out)
                obtain ⟨q0, q1, qf, _⟩ := id R2
                have hbad : x < 48 ∨ 57 < x := by
                  unfold isD at hd
                  simp at hd
                  omega
                clear r0 r1 rf R hR hR2 hI ha hit hx bp hd
                rcases hbad with hb | hb
                all_goals
                  go_wp2
                  refine bodyPost_ret (v := .tuple #[.agg #[.bool false, .slice none 0 0], .bool false]) (by simp [results, Tryd.results14, go_sem, q0, q1]) rfl ⟨_, by rw [EB.out], ⟨none, 0, [], by rw [EZ.out]; rfl, Own.nil _ _, trivial, by rw [EZ.out]; rfl⟩, below_put' B2 (Nat.le_refl _) _ _⟩
              · obtain ⟨d0, d1⟩ := isD_true hd
                have hI2 : Hid (dOk (bl t) (pos + 1) = true ∧ pv (bl t) (pos + 1) = pv (bl t) pos * 10 + (x - 48)) := ⟨dOk_step hI.out.2.2.2 (by rw [HLEN.out]; exact hp) (by rw [bp]; exact hd), by simp only [pv]; rw [bp]⟩
                clear r0 r1 rf R hR ha hit hx bp hd
                go_wp2_with fail
                refine (tenfoldC (w.heap.size + 2) v6 xs (x - 48) _ hR2 hI.out.1 (by have := hI.out.2.2.1; omega) (by omega) (by omega) sz2).mono ?_
                rintro e w3 ⟨v7, rfl, ⟨zs, hR3, lz, vz, sz⟩, g3⟩
                have hob : ∀ k, v6.ownBlock = some k → w.heap.size + 2 ≤ k := fun k hk => (hR2.lt k hk).1
                have it3 : w3.heap[w.heap.size + 1]? = some (.stringIter t (pos + 1)) := (g3.block _ (by omega) (fun e => by have := hob _ e.symm; omega)).trans hit2
                have R3 := R2.rowKept g3 (fun e => by have := hob _ e; omega)
                have B3 := B2.grown g3 (by omega) (fun k hk => by have := hob k hk; omega)
                have HI3 : Hid (Lim zs ∧ val zs = pv (bl t) (pos + 1) ∧ zs.length ≤ pos + 1 ∧ dOk (bl t) (pos + 1) = true) := ⟨lz, by rw [vz, hI2.out.2, hI.out.2.1]; omega, by have := hI.out.2.2.1; omega, hI2.out.1⟩
                have HM : Hid (wr.iterPos (w.heap.size + 1) = pos ∧ w3.iterPos (w.heap.size + 1) = pos + 1) := ⟨HP.out, by simp only [World.iterPos, it3]⟩
                clear g3 hR2 R2 B2 hit2 lz vz sz hI hI2 hob
                go_wp2
                go_roundw
                case rel => exact ⟨pos + 1, zs, v7, rfl, by omega, it3, hR3, HI3, R3, B3⟩
                case measure => have := HM.out; rw [this.1, this.2]; omega
            · have hnx : ∀ ty, (Instr.next (.pointer (some ⟨w.heap.size + 1, 0, none⟩)) true ty).run Tryd.prog wr = _ := fun ty => Lib.run_next_any_at wr (w.heap.size + 1) t pos ty hit hp
              obtain ⟨hr1, _⟩ := decode_high t pos hp (by omega)
              have hr2 := decode_le t pos
              have B2 := Lib.below_iterAt B (k := w.heap.size + 1) (by omega) t (pos + (Utf8.decode t pos).2)
              have G2 : wr.grownBy (wr.iterAt (w.heap.size + 1) t (pos + (Utf8.decode t pos).2)) (some (w.heap.size + 1)) := ⟨rfl, rfl, rfl, by rw [Lib.iterAt_size]; exact Nat.le_refl _, fun i hi hn => Lib.iterAt_other wr _ i t _ (fun e => hn (by rw [e]))⟩
              have R2 := R.rowKept G2 (by intro e; injection e with e; omega)
              have EB : Hid (bz = false) := by
                show _ = _
                rw [← hbz.out]
                refine pOk_bad (j := pos) (by rw [HLEN.out]; exact hp) ?_
                rw [bp]
                unfold isD
                rw [decide_eq_false (show ¬ (t[pos].toNat : Int) ≤ 57 by omega)]
                simp
              have EZ : Hid (zz = 0) := by
                show _ = _
                rw [← hzz.out]
                exact pZ_bad (by rw [hbz.out]; exact EB.out)
              obtain ⟨q0, q1, qf, _⟩ := id R2
              clear r0 r1 rf R hR hI ha hit bp
              generalize (Utf8.decode t pos).1 = r at *
              generalize (Utf8.decode t pos).2 = k at *
              have hr3 : (57 : Int) < r := by omega
              go_wp2
              refine bodyPost_ret (v := .tuple #[.agg #[.bool false, .slice none 0 0], .bool false]) (by simp [results, Tryd.results14, go_sem, q0, q1]) rfl ⟨_, by rw [EB.out], ⟨none, 0, [], by rw [EZ.out]; rfl, Own.nil _ _, trivial, by rw [EZ.out]; rfl⟩, below_put' B2 (Nat.le_refl _) _ _⟩
          · have hnx : ∀ ty, (Instr.next (.pointer (some ⟨w.heap.size + 1, 0, none⟩)) true ty).run Tryd.prog wr = _ := fun ty => Lib.run_next_end_at wr (w.heap.size + 1) t pos ty hit hp
            obtain rfl : pos = t.size := by omega
            obtain ⟨a6, c6, rfl, o6⟩ := Own.of_owns hR hI.out.1
            have EB : Hid (bz = true) := by
              show _ = _
              rw [← hbz.out]
              exact E1.out (dOk_all (by rw [HLEN.out]; exact hI.out.2.2.2))
            have EZ : Hid (zz = sg g (val xs)) := by
              show _ = _
              rw [← hzz.out]
              unfold pZ
              rw [hbz.out, EB.out, if_pos rfl, HLEN.out, hI.out.2.1]
            first
            | (have EZ2 : Hid (zz = sg false (val xs)) := by show _ = _; rw [EZ.out, hgf])
            | skip
            clear hit hI hR r0 r1 rf
            go_wp2_with fail
            refine (signedC (w.heap.size + 2) _ a6 c6 xs _ o6).mono ?_
            rintro e w3 ⟨u, rfl, hN, hb⟩
            obtain ⟨a7, c7, us, rfl, o7, n7, v7⟩ := hN
            replace B := B.trans (hb.mono B.size)
            replace R := R.below hb
            clear hb o6
            obtain ⟨q0, q1, qf, _⟩ := id R
            generalize hgz : decide (sg _ (val xs) < 0) = gz at *
            go_wp2
            refine bodyPost_ret (v := .tuple #[.agg #[.bool gz, .slice a7 us.length c7], .bool true]) (by simp [results, Tryd.results14, go_sem, q0, q1]) rfl ⟨_, by rw [EB.out], ⟨a7, c7, us, by first | rw [EZ2.out, hgz] | rw [EZ.out, hgz], ((o7.setCell (p := ⟨w.heap.size, 0, none⟩) (by dsimp only; omega) _).setCell (p := ⟨w.heap.size, 1, none⟩) (by dsimp only; omega) _).base_le (by omega), n7, by first | (rw [EZ2.out]; exact v7) | (rw [EZ.out]; exact v7)⟩, below_put' B (Nat.le_refl _) _ _⟩
end Go.Proofs.YtccdihglpobnmaaDoor
