/- The law on LogWrites: at every argument the program's LogWrites is the specification's; it writes into no argument; its answer owns its memory. -/
import Derived.Test.YtbgpkajgnappiaaLwJ
import Derived.Test.YtbgpkajgnappiaaLgT
namespace Go.Proofs.Ytbgpkajgnappiaa
open Go.RowKit

theorem Box4.underW {lo q n : Nat} {w w' : World} {x0 x1 x2 x3 : Value} (h : Box4 lo w q x0 x1 x2 x3) (hb : Below n w w') (hq : q < n) : Box4 lo w' q x0 x1 x2 x3 :=
  ⟨(hb.cell (p := ⟨q, 0, none⟩) hq).trans h.c0, (hb.cell (p := ⟨q, 1, none⟩) hq).trans h.c1, (hb.cell (p := ⟨q, 2, none⟩) hq).trans h.c2, (hb.cell (p := ⟨q, 3, none⟩) hq).trans h.c3, fun o => (hb.frozen (p := ⟨q, o, none⟩) hq).trans (h.fr o), h.lo⟩
theorem lgWs_at {F X E : Int} {rs : List Int} {j i : Nat} (h : i < j) : (wrN (lgWs F X E rs j) i).2.length = 64 := by
  unfold wrN lgWs
  rw [List.getElem?_map, List.getElem?_range h]
  exact lgSec_len (lgP_len rs i)
theorem lgWs_upto {F X E : Int} {rs : List Int} {m : Nat} : ∀ j, j ≤ m → uptoQ (lgWs F X E rs m) j = j * 65
  | 0, _ => rfl
  | j + 1, h => by
    simp only [uptoQ]
    rw [lgWs_upto j (by omega), lgWs_at (by omega)]
    omega
theorem LwRes.size {F L X E : Int} {rs : List Int} {qs : List Wr} (h : LwRes F L X E rs qs) : uptoQ qs qs.length ≤ 30000 := by
  rcases h with ⟨a, b⟩ | ⟨_, b⟩
  · subst b
    rw [lgWs_len, lgWs_upto _ (Nat.le_refl _)]
    obtain ⟨⟨g1, g2, g3, g4, g5, _⟩, _, k⟩ := a
    omega
  · subst b; simp [uptoQ]

set_option maxRecDepth 20000 in
set_option maxHeartbeats 4000000 in
theorem lawLogWrites (F L X E : Int) (a : Option Addr) (c : Nat) (rs : List Int) (w : World) (h : SeesB w a c rs) (h8 : ∀ x ∈ rs, 0 ≤ x ∧ x < 256) :
    Calls Try.prog 3 #[.agg #[.int .i64 F, .int .i64 L, .int .i64 X, .int .i64 E], .slice a rs.length c] w fun e w' => e = .returned (.bool true) ∧ Below w.heap.size w w' := by
  have hm := h.max
  have hf := h.fits
  unfold maxLen at hm
  have HS : Hid (SeesB w a c rs) := h
  have H8 : Hid (∀ x ∈ rs, 0 ≤ x ∧ x < 256) := h8
  have B := below1 w (.cells #[.int .i64 F, .int .i64 L, .int .i64 X, .int .i64 E] 23)
  have V := Box4.new w (lo := w.heap.size) (Nat.le_refl _) (.int .i64 F) (.int .i64 L) (.int .i64 X) (.int .i64 E) 23
  clear h h8
  by_cases hy : 1048576 < rs.length
  · go_enter Try.func3, Try.ntmps3
    go_wp2
    go_ret
    exact ⟨rfl, B⟩
  · have LY : Hid (rs.length ≤ 1048576) := by show _ ≤ _; omega
    have MY : Hid (rs.length ≤ 2000000) := by show _ ≤ _; omega
    go_enter Try.func3, Try.ntmps3
    go_upto_region 1 with fail
    generalize w.alloc (.cells #[.int .i64 F, .int .i64 L, .int .i64 X, .int .i64 E] 23) = W0 at *
    obtain ⟨v0, v1, v2, v3, vf, _⟩ := id V
    go_wp2_with fail
    refine (toLog_any F L X E _).mono ?_
    rintro e w1 ⟨rfl, hb⟩
    replace V := V.below hb
    replace B := B.trans (hb.mono B.size)
    clear hb v0 v1 v2 v3 vf
    go_wp2_with fail
    refine (toBytes a c rs _ (HS.out.below B) LY.out).mono ?_
    rintro e w2 ⟨rfl, RY, hb⟩
    replace V := V.below hb
    replace B := B.trans (hb.mono B.size)
    clear hb
    go_wp2_with fail
    refine (specLogWrites F L X E w1.heap.size 0 rs.length rs _ RY.seesB LY.out H8.out).mono ?_
    rintro e w3 ⟨u0, vs0, qs, rfl, LR0, Q0, hb⟩
    have LR : Hid (LwRes F L X E rs qs) := LR0
    have M3 : Hid (uptoQ qs qs.length ≤ 2000000) := Nat.le_trans LR0.size (by omega)
    obtain ⟨a0, c0, rfl, -, -⟩ := Q0.shape
    have T0 := Q0.lts
    replace V := V.below hb
    replace B := B.trans (hb.mono B.size)
    have VL0 := V.lt
    clear hb RY LR0
    go_wp2_with fail
    refine (toBytes a c rs _ (HS.out.below B) LY.out).mono ?_
    rintro e w4 ⟨rfl, RX, hb⟩
    have s4 : w3.heap.size < w4.heap.size := (World.ownsRow.lt RX w3.heap.size rfl).2
    replace V := V.below hb
    replace Q0 := Q0.below hb
    replace B := B.trans (hb.mono B.size)
    clear hb
    obtain ⟨v0, v1, v2, v3, vf, _⟩ := id V
    go_wp2_with fail
    refine (toLog_any F L X E _).mono ?_
    rintro e w5 ⟨rfl, hb⟩
    have s5 := hb.size
    replace V := V.below hb
    replace Q0 := Q0.below hb
    replace RX := RX.below hb
    replace B := B.trans (hb.mono B.size)
    clear hb v0 v1 v2 v3 vf
    go_wp2_with fail
    refine (implLogWrites F L X E w3.heap.size 0 rs.length rs _ RX.seesB LY.out H8.out).mono ?_
    rintro e w6 ⟨u5, vs5, qs5, rfl, LR5, Qg, hb⟩
    obtain rfl := LR5.one LR.out
    obtain ⟨a5, c5, rfl, -, -⟩ := Qg.shape
    have s6 := hb.size
    replace V := V.below hb
    replace Q0 := Q0.below hb
    replace RX := RX.below hb
    replace B := B.trans (hb.mono B.size)
    clear hb LR5
    generalize hp1 : w3.heap.size = p1 at *
    generalize hp5 : w5.heap.size = p5 at *
    go_wp2_with fail
    refine (eqWritesX (t := 45) a5 a0 c5 c0 vs5 vs0 qs5 _ Qg Q0).mono ?_
    rintro e w7 ⟨rfl, hb⟩
    have s7 := hb.size
    replace V := V.below hb
    replace Q0 := Q0.below hb
    replace Qg := Qg.below hb
    replace RX := RX.below hb
    replace B := B.trans (hb.mono B.size)
    clear hb
    go_wp2_with fail
    refine (toBytes a c rs _ (HS.out.below B) LY.out).mono ?_
    rintro e w8 ⟨rfl, RZ, hb⟩
    have s8 := hb.size
    replace V := V.below hb
    replace Q0 := Q0.below hb
    replace Qg := Qg.below hb
    replace RX := RX.below hb
    replace B := B.trans (hb.mono B.size)
    clear hb
    go_wp2_with fail
    refine (eqBy (some ⟨p1, 0, none⟩) (some ⟨w7.heap.size, 0, none⟩) rs.length rs.length rs _ RX RZ).mono ?_
    rintro e w9 ⟨rfl, hb⟩
    have s9 := hb.size
    replace V := V.below hb
    replace Q0 := Q0.below hb
    replace Qg := Qg.below hb
    replace RX := RX.below hb
    replace B := B.trans (hb.mono B.size)
    clear hb RZ
    go_wp2_with fail
    refine (markBy (some ⟨p1, 0, none⟩) rs.length 1 rs _ RX MY.out (by omega) (by omega)).mono ?_
    rintro e w10 ⟨rfl, -, G⟩
    have s10 := G.size
    have TG := Qg.lts
    replace G : w9.grownBy w10 (some p1) := G
    replace V := V.grownW G (fun e => by injection e with e; omega)
    replace Q0 := Q0.kept G (fun k hk e => by have := (T0.1 k hk).2; injection e with e; omega) (fun u hu k hk e => by have := (T0.2 u hu k hk).2; injection e with e; omega)
    replace Qg := Qg.kept G (fun k hk e => by have := (TG.1 k hk).1; injection e with e; omega) (fun u hu k hk e => by have := (TG.2 u hu k hk).1; injection e with e; omega)
    replace B := B.grown G B.size (fun k hk => by injection hk with hk; omega)
    obtain ⟨k8, hk8⟩ : ∃ k, Hid (1 + (rs.length : Int) = k) := ⟨_, rfl⟩
    have k8p : 0 ≤ k8 := by rw [← hk8.out]; omega
    rw [hk8.out]
    clear G RX TG
    go_wp2_with fail
    refine (eqWritesX (t := 45) a5 a0 c5 c0 vs5 vs0 qs5 _ Qg Q0).mono ?_
    rintro e w11 ⟨rfl, hb⟩
    have s11 := hb.size
    replace V := V.below hb
    replace Q0 := Q0.below hb
    replace Qg := Qg.below hb
    replace B := B.trans (hb.mono B.size)
    clear hb
    go_wp2_with fail
    refine (markWritesX (t := 45) a5 c5 1 vs5 qs5 _ Qg M3.out (by omega) (by omega)).mono ?_
    rintro e w12 ⟨rfl, Qm0, hb, KK⟩
    have Qm : Hid (QuX 45 p5 w12 (.slice a5 qs5.length c5) vs5 (mkQs 1 qs5 qs5.length)) := Qm0
    have s12 := KK.1
    replace Q0 := Q0.under hb (fun k hk => by have := (T0.1 k hk).2; omega) (fun u hu k hk => by have := (T0.2 u hu k hk).2; omega)
    replace V := V.underW hb (by omega)
    replace B := B.trans (hb.mono (by omega))
    obtain ⟨k9, hk9⟩ : ∃ k, Hid (1 + ((uptoQ qs5 qs5.length : Nat) : Int) = k) := ⟨_, rfl⟩
    have kp : 0 ≤ k9 := by rw [← hk9.out]; omega
    have hk9n : (k9 != k9) = false := by simp
    rw [hk9.out]
    clear hb KK Qm0 Qg
    go_wp2_with fail
    refine (heldWritesX (t := 45) a5 c5 1 vs5 qs5 _ Qm.out M3.out (by omega) (by omega)).mono ?_
    rintro e w13 ⟨rfl, rfl⟩
    rw [hk9.out]
    obtain ⟨v0, v1, v2, v3, vf, _⟩ := id V
    go_wp2_with fail
    refine (toLog_any F L X E _).mono ?_
    rintro e w14 ⟨rfl, hb⟩
    replace Q0 := Q0.below hb
    have Qn : Hid (QuX 45 p5 w14 (.slice a5 qs5.length c5) vs5 (mkQs 1 qs5 qs5.length)) := Qm.out.below hb
    replace B := B.trans (hb.mono B.size)
    clear hb v0 v1 v2 v3 vf V Qm
    go_wp2_with fail
    refine (toBytes a c rs _ (HS.out.below B) LY.out).mono ?_
    rintro e w15 ⟨rfl, RW, hb⟩
    replace Q0 := Q0.below hb
    have Qm : Hid (QuX 45 p5 w15 (.slice a5 qs5.length c5) vs5 (mkQs 1 qs5 qs5.length)) := Qn.out.below hb
    replace B := B.trans (hb.mono B.size)
    clear hb Qn
    go_wp2_with fail
    refine (implLogWrites F L X E w14.heap.size 0 rs.length rs _ RW.seesB LY.out H8.out).mono ?_
    rintro e w16 ⟨u8, vs8, qs8, rfl, LR8, Qh, hb⟩
    obtain rfl := LR8.one LR.out
    obtain ⟨a8, c8, rfl, -, -⟩ := Qh.shape
    replace Q0 := Q0.below hb
    have Qn : Hid (QuX 45 p5 w16 (.slice a5 qs8.length c5) vs5 (mkQs 1 qs8 qs8.length)) := Qm.out.below hb
    replace B := B.trans (hb.mono B.size)
    clear hb Qm LR8 RW
    go_wp2_with fail
    refine (eqWritesX (t := 45) a8 a0 c8 c0 vs8 vs0 qs8 _ Qh Q0).mono ?_
    rintro e w17 ⟨rfl, hb⟩
    have Qm : Hid (QuX 45 p5 w17 (.slice a5 qs8.length c5) vs5 (mkQs 1 qs8 qs8.length)) := Qn.out.below hb
    replace B := B.trans (hb.mono B.size)
    clear hb Qn Qh Q0
    go_wp2_with fail
    refine (heldWritesX (t := 45) a5 c5 1 vs5 qs8 _ Qm.out M3.out (by omega) (by omega)).mono ?_
    rintro e w18 ⟨rfl, rfl⟩
    rw [hk9.out]
    go_wp2
    go_ret
    exact ⟨rfl, B⟩
end Go.Proofs.Ytbgpkajgnappiaa
