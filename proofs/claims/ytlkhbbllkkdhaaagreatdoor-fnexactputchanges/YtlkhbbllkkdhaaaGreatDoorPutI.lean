/- The bytes of a shape, of the program: putPoint, putMany, putLine. -/
import Derived.Test.YtlkhbbllkkdhaaaGreatDoorPutU
namespace Go.Proofs.YtlkhbbllkkdhaaaGreatDoor
open Go.RowKit

def ptF (p : Int × Int) : List Int := ptB p.1 p.2
theorem ptF_len (p : Int × Int) : (ptF p).length = 16 := ptB_len _ _
theorem ptP_len (p : Int × Int) : (ptP p).length = 21 := by unfold ptP; rw [List.length_append, hdB_len, ptB_len]
theorem wrap64_bd (x : Int) : 0 ≤ IntKind.u64.wrap x ∧ IntKind.u64.wrap x ≤ 18446744073709551615 := by rw [IntKind.wrap_u64]; omega

set_option maxRecDepth 20000 in
set_option maxHeartbeats 2000000 in
theorem putPoint_any (base : Nat) (v : Value) (bs : List Int) (x y : Int) (w : World) (h : RowB base w v bs) (hb : base ≤ w.heap.size) (hl : bs.length ≤ 900000) :
    Calls Tryz.prog 52 #[v, .agg #[.int .i64 x, .int .i64 y]] w fun e w' => ∃ v', e = .returned v' ∧ RowB base w' v' (bs ++ ptB x y) ∧ Ext w v w' v' := by
  have B0 := below1 w (.cells #[.int .i64 x, .int .i64 y] 59)
  have V0 := Box2.new w (lo := w.heap.size) (Nat.le_refl _) (.int .i64 x) (.int .i64 y) 59
  have X0 := Ext.of_below v B0
  have R0 := h.below B0
  have ne := h.own_ne (k := w.heap.size) (Nat.le_refl _)
  obtain ⟨n1, n2⟩ := wrap64_bd (flt x)
  obtain ⟨m1, m2⟩ := wrap64_bd (flt y)
  have hb0 : base ≤ (w.alloc (.cells #[.int .i64 x, .int .i64 y] 59)).heap.size := Nat.le_trans hb B0.size
  unfold ptB
  go_enter Tryz.func52, Tryz.ntmps52
  go_upto_region 1 with fail
  generalize w.alloc (.cells #[.int .i64 x, .int .i64 y] 59) = W0 at *
  obtain ⟨t0, t1, _, _⟩ := id V0
  go_wp2_with fail
  refine (implFloat x _).mono ?_
  rintro e w1 ⟨rfl, rfl⟩
  go_wp2_with fail
  refine (putNumber64 base v bs (IntKind.u64.wrap (flt x)) _ R0 hb0 (by omega) n1 n2).mono ?_
  rintro e w2 ⟨v2, rfl, R2, X2⟩
  have V2 := X2.box V0 ne
  have X3 := X0.trans X2
  have hb2 := Nat.le_trans hb0 X2.size
  have L8 := leB_len 8 (IntKind.u64.wrap (flt x))
  have LL : (bs ++ leB 8 (IntKind.u64.wrap (flt x))).length ≤ 900008 := by rw [List.length_append]; omega
  generalize HQ : bs ++ leB 8 (IntKind.u64.wrap (flt x)) = L at *
  clear L8 t0 t1
  obtain ⟨t0, t1, _, _⟩ := id V2
  go_wp2_with fail
  refine (implFloat y _).mono ?_
  rintro e w1 ⟨rfl, rfl⟩
  go_wp2_with fail
  refine (putNumber64 base v2 L (IntKind.u64.wrap (flt y)) _ R2 hb2 (by omega) m1 m2).mono ?_
  rintro e w4 ⟨v4, rfl, R4, X4⟩
  go_wp2
  go_ret
  exact ⟨_, rfl, by rw [← List.append_assoc, HQ]; exact R4, X3.trans X4⟩

set_option maxRecDepth 20000 in
set_option maxHeartbeats 4000000 in
theorem putMany_pt (base : Nat) (v : Value) (bs : List Int) (a : Option Addr) (c : Nat) (ps : List (Int × Int)) (w : World) (h : RowB base w v bs) (hb : base ≤ w.heap.size) (hl : bs.length ≤ 100000) (hp : ps.length ≤ 61) (hS : Stays w v (fun W => SeesP W a c ps)) :
    Calls Tryz.prog 46 #[v, .slice a ps.length c, .func (Fn.func 52) #[] #[]] w fun e w' => ∃ v', e = .returned v' ∧ RowB base w' v' (bs ++ (leB 4 ps.length ++ ps.flatMap ptF)) ∧ Ext w v w' v' := by
  have hm := hS.now.max
  have hf := hS.now.fits
  unfold maxLen at hm
  have FL : Hid (∀ j, j ≤ ps.length → ((ps.take j).flatMap ptF).length ≤ 16 * j) := flat_le ptF 16 (fun i hi => by rw [ptF_len]; omega)
  have WL : IntKind.u32.wrap (ps.length : Int) = ps.length := by rw [IntKind.wrap_u32']; omega
  have HST : Hid (Stays w v (fun W => SeesP W a c ps)) := hS
  clear hS
  go_enter Tryz.func46, Tryz.ntmps46
  go_wp2_with fail
  refine (putNumber32 base v bs (ps.length : Int) _ h hb (by omega) (by omega) (by omega)).mono ?_
  rintro e w1 ⟨v1, rfl, R1, X1⟩
  have L4 := leB_len 4 (ps.length : Int)
  have LL0 : (bs ++ leB 4 (ps.length : Int)).length ≤ 100004 := by rw [List.length_append]; omega
  generalize HQ : bs ++ leB 4 (ps.length : Int) = L0 at *
  clear L4 WL h
  go_wp2
  go_loopw [0, 16] (fun s0 s16 wr => ∃ j : Nat, j ≤ ps.length ∧ s16 = .int .i64 j ∧ RowB base wr s0 (L0 ++ (ps.take j).flatMap ptF) ∧ Ext w v wr s0) (fun _ s16 _ => ps.length - (intOf s16).toNat)
  case atStart => exact ⟨0, Nat.zero_le _, rfl, by simpa using R1, X1⟩
  case round =>
    clear R1 X1
    obtain ⟨j, hj, rfl, RR, X⟩ := hrel
    rename World => wr
    by_cases hlt : j < ps.length
    · obtain ⟨b, off, rfl, hc⟩ := (HST.out _ _ X).cells (by intro e; simp [e] at hlt)
      obtain ⟨g1, g2⟩ := hc j hlt
      have FS := flat_step ptF hlt
      rw [ptA_at hlt] at FS
      unfold ptA at FS
      have LL := FL.out j (by omega)
      have LL2 : (L0 ++ (ps.take j).flatMap ptF).length ≤ 800000 := by rw [List.length_append]; omega
      have hbr := Nat.le_trans hb X.size
      clear hc LL
      generalize hpp : (ps[j]?.getD (0, 0)) = p at *
      obtain ⟨x, y⟩ := p
      simp only at g1 g2
      generalize HLL : L0 ++ (ps.take j).flatMap ptF = L at *
      have bn := below1 wr (.cells #[.int .i64 x, .int .i64 y] 59)
      have RR2 := RR.below bn
      have X2 := X.trans (Ext.of_below u0 bn)
      have hb2 := Nat.le_trans hbr bn.size
      have k0 := cell_new wr #[.int .i64 x, .int .i64 y] 59 0 rfl
      have k1 := cell_new wr #[.int .i64 x, .int .i64 y] 59 1 rfl
      go_upto_region 5 with fail
      skip
      generalize wr.alloc (.cells #[.int .i64 x, .int .i64 y] 59) = W1 at *
      go_wp2_with fail
      refine (putPoint_any base u0 L x y _ RR2 hb2 (by omega)).mono ?_
      rintro e w4 ⟨v4, rfl, R4, X4⟩
      have X5 := X2.trans X4
      go_wp2
      go_roundw
      case rel => exact ⟨j + 1, by omega, by go_num, (by rw [FS, ← List.append_assoc, HLL]; exact R4), X5⟩
      case measure => simp [intOf]; omega
    · obtain rfl : j = ps.length := by omega
      rw [List.take_length] at RR
      go_wp2
      go_ret
      exact ⟨_, rfl, by rw [← List.append_assoc, HQ]; exact RR, X⟩

theorem putLine_any (base : Nat) (v : Value) (bs : List Int) (a : Option Addr) (c : Nat) (ps : List (Int × Int)) (w : World) (h : RowB base w v bs) (hb : base ≤ w.heap.size) (hl : bs.length ≤ 100000) (hp : ps.length ≤ 61) (hS : Stays w v (fun W => SeesP W a c ps)) :
    Calls Tryz.prog 48 #[v, .slice a ps.length c] w fun e w' => ∃ v', e = .returned v' ∧ RowB base w' v' (bs ++ lnB ps) ∧ Ext w v w' v' := by
  go_enter Tryz.func48, Tryz.ntmps48
  go_wp2_with fail
  refine (putMany_pt base v bs a c ps _ h hb hl hp hS).mono ?_
  rintro e w4 ⟨v4, rfl, R4, X4⟩
  go_wp2
  go_ret
  exact ⟨_, rfl, R4, X4⟩
end Go.Proofs.YtlkhbbllkkdhaaaGreatDoor
