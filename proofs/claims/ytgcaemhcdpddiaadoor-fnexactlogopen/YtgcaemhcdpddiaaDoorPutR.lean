/- Rows of bytes that grow at their end; a number's bytes, lowest first: impl.putNumber of both sizes, spec.l8Bytes. -/
import Derived.Test.YtgcaemhcdpddiaaDoorBoxP
import Derived.Test.YtgcaemhcdpddiaaDoorBase
import Derived.Test.YtgcaemhcdpddiaaDoorFltM
import Derived.Maps.AppendAt
namespace Go.Proofs.YtgcaemhcdpddiaaDoor
open Go.RowKit

/-- Of a world and a row came others: nothing but the row's block was written, and the row lies there or in a new block. -/
structure Ext (w : World) (v : Value) (w' : World) (v' : Value) : Prop where
  g : w.grownBy w' v.ownBlock
  b : v'.ownBlock = v.ownBlock ∨ ∃ k, v'.ownBlock = some k ∧ w.heap.size ≤ k
theorem Ext.refl (w : World) (v : Value) : Ext w v w v := ⟨grownBy_refl _ _, .inl rfl⟩
theorem Ext.trans {w w1 w2 : World} {v v1 v2 : Value} (h : Ext w v w1 v1) (k : Ext w1 v1 w2 v2) : Ext w v w2 v2 := by
  refine ⟨⟨k.g.os.trans h.g.os, k.g.tape.trans h.g.tape, k.g.output.trans h.g.output, Nat.le_trans h.g.size k.g.size, fun i hi hr => ?_⟩, ?_⟩
  · refine (k.g.block i (Nat.lt_of_lt_of_le hi h.g.size) ?_).trans (h.g.block i hi hr)
    rcases h.b with e | ⟨q, e, hq⟩
    · rw [e]; exact hr
    · rw [e]; intro x; injection x with x; omega
  · rcases k.b with e | ⟨q, e, hq⟩
    · rw [e]
      rcases h.b with e2 | ⟨q2, e2, hq2⟩
      · exact .inl e2
      · exact .inr ⟨q2, e2, hq2⟩
    · exact .inr ⟨q, e, Nat.le_trans h.g.size hq⟩
theorem Ext.of_below {w w' : World} (v : Value) (h : Below w.heap.size w w') : Ext w v w' v :=
  ⟨⟨h.os, h.tape, h.output, h.size, fun i hi _ => h.block i hi⟩, .inl rfl⟩
theorem Ext.of_at {w w' : World} {v v' : Value} (g : w.grownBy w' v.ownBlock) (b : v'.ownBlock = v.ownBlock ∨ v'.ownBlock = some w.heap.size) : Ext w v w' v' :=
  ⟨g, b.elim .inl (fun e => .inr ⟨_, e, Nat.le_refl _⟩)⟩
theorem Ext.size {w w' : World} {v v' : Value} (h : Ext w v w' v') : w.heap.size ≤ w'.heap.size := h.g.size
/-- What lies in another block stays. -/
theorem Ext.cell {w w' : World} {v v' : Value} (h : Ext w v w' v') {b o : Nat} {u : Value} (c : w.cell? ⟨b, o, none⟩ = some u) (ne : v.ownBlock ≠ some b) : w'.cell? ⟨b, o, none⟩ = some u := by
  have hl := World.block_lt_of_cell? _ _ c
  exact (World.cell?_of_block (a := ⟨b, o, none⟩) (h.g.block b hl (fun e => ne e.symm))).trans c
theorem Ext.box {lo p : Nat} {w w' : World} {v v' x0 x1 : Value} (h : Ext w v w' v') (B : Box2 lo w p x0 x1) (ne : v.ownBlock ≠ some p) : Box2 lo w' p x0 x1 := by
  have hb := h.g.block p B.lt (fun e => ne e.symm)
  exact ⟨(World.cell?_of_block hb).trans B.c0, (World.cell?_of_block hb).trans B.c1, fun o => (World.frozen?_of_block (a := ⟨p, o, none⟩) hb).trans (B.fr o), B.lo⟩
/-- With no row ahead, nothing that was there is written. -/
theorem Ext.below {w w' : World} {v v' : Value} (h : Ext w v w' v') (e : v.ownBlock = none) : Below w.heap.size w w' :=
  (Below.refl _ _).grown h.g (Nat.le_refl _) (fun k hk => by rw [e] at hk; cases hk)
theorem Ext.belowOf {b : Nat} {w0 w w' : World} {v v' : Value} (B : Below b w0 w) (h : Ext w v w' v') (hb : b ≤ w.heap.size) (e : ∀ k, v.ownBlock = some k → b ≤ k) : Below b w0 w' := B.grown h.g hb e

/-- What stays as long as nothing but the row is written. -/
def Stays (w : World) (v : Value) (P : World → Prop) : Prop := ∀ w' v', Ext w v w' v' → P w'
theorem Stays.now {w : World} {v : Value} {P : World → Prop} (h : Stays w v P) : P w := h w v (Ext.refl _ _)
theorem Stays.step {w w1 : World} {v v1 : Value} {P : World → Prop} (h : Stays w v P) (x : Ext w v w1 v1) : Stays w1 v1 P := fun w' v' k => h w' v' (x.trans k)

/-- A row that is not empty, as what is put behind another one. -/
theorem RowB.news {base q cap : Nat} {w : World} {ds : List Int} (h : RowB base w (.slice (some ⟨q, 0, none⟩) ds.length cap) ds) : ∀ j u, (ds.map (Value.int .u8))[j]? = some u → w.cell? ((⟨q, 0, none⟩ : Addr).add j) = some u := by
  intro j u hu
  have hj : j < ds.length := by
    have := (List.getElem?_eq_some_iff.mp hu).1
    simpa using this
  have e := h.at' hj
  have ea : (⟨q, 0, none⟩ : Addr).add j = ⟨q, j, none⟩ := by simp [Addr.add]; intro h; exact h.symm
  rw [ea, e]
  rw [List.getElem?_map, List.getElem?_eq_getElem hj] at hu
  rw [List.getElem?_eq_getElem hj]
  simpa using hu
theorem RowB.own_ne {base : Nat} {w : World} {v : Value} {ds : List Int} (h : RowB base w v ds) {k : Nat} (hk : w.heap.size ≤ k) : v.ownBlock ≠ some k := fun e => by
  have := (World.ownsRow.lt h k e).2
  omega
theorem RowB.lo {base : Nat} {w : World} {v : Value} {ds : List Int} (h : RowB base w v ds) : ∀ k, v.ownBlock = some k → base ≤ k := fun k e => (World.ownsRow.lt h k e).1

set_option maxRecDepth 20000 in
theorem size32 (w : World) : Calls Tryd.prog 59 #[] w fun e w' => e = .returned (.int .i64 4) ∧ w' = w := by
  have E : IntKind.u64.wrap (bits BinOp.xor IntKind.u32 IntKind.u32.max 0) = 4294967295 := by decide
  have L : Lib.bitLen (4294967295 : Int).toNat = 32 := by decide +kernel
  go_enter Tryd.func59, Tryd.ntmps59
  go_wp2_with fail
  refine (len64C 4294967295 _ (by decide) (by decide)).mono ?_
  rintro e w' ⟨rfl, rfl⟩
  rw [L]
  go_wp2
  go_ret
  exact ⟨rfl, rfl⟩

set_option maxRecDepth 20000 in
set_option maxHeartbeats 2000000 in
theorem putNumber32 (base : Nat) (v : Value) (bs : List Int) (n : Int) (w : World) (h : RowB base w v bs) (hb : base ≤ w.heap.size) (hl : bs.length ≤ 1000000) (n0 : 0 ≤ n) (n1 : n ≤ 4294967295) :
    Calls Tryd.prog 61 #[v, .int .u32 n] w fun e w' => ∃ v', e = .returned v' ∧ RowB base w' v' (bs ++ leB 4 n) ∧ Ext w v w' v' := by
  obtain ⟨i8, hi8, hy0, hy1, hy2⟩ := info_parts infoB
  have HN : Hid (0 ≤ n ∧ n ≤ 4294967295) := ⟨n0, n1⟩
  clear n0 n1
  go_enter Tryd.func61, Tryd.ntmps61
  go_wp2_with fail
  refine (size32 _).mono ?_
  rintro e w' ⟨rfl, rfl⟩
  go_wp2
  go_loopw [0, 1, 6] (fun s0 s1 s6 wr => ∃ j : Nat, j ≤ 4 ∧ s6 = .int .i64 j ∧ s1 = .int .u32 (n / 256 ^ j) ∧ RowB base wr s0 (bs ++ leB j n) ∧ Ext w' v wr s0) (fun _ _ s6 _ => 4 - (intOf s6).toNat)
  case atStart => exact ⟨0, by omega, rfl, by simp, by simpa [leB] using h, Ext.refl _ _⟩
  case round =>
    obtain ⟨j, hj, rfl, rfl, R, X⟩ := hrel
    rename World => wr
    by_cases hlt : j < 4
    · obtain ⟨d0, d1⟩ := div_bd (k := j) HN.out.1 HN.out.2
      have DS := div_step j n
      have LS := leB_step j n
      have LL : (bs ++ leB j n).length ≤ 1000010 := by rw [List.length_append, leB_len]; omega
      generalize n / 256 ^ j = q at *
      have bn := below1 wr (.cells #[.int .u8 (q % 256)] 5)
      have NW := one_new8 wr 5 (q % 256)
      have R2 := R.below bn
      have hb2 : base ≤ (wr.alloc (.cells #[.int .u8 (q % 256)] 5)).heap.size := by have := X.size; have := bn.size; omega
      have X2 := X.trans (Ext.of_below u0 bn)
      generalize HLL : bs ++ leB j n = L at *
      go_wp2_with (at_builtin; refine wpList_append_own_at _ rfl (.tmp 8) (.tmp 11) 22 rfl base 5 i8 (.int .u8 0) 1 1 Tryd.underlying22 hi8 hy0 hy1 hy2 rfl (by decide) u0 L.length (L.map (Value.int .u8)) rfl R2 ⟨wr.heap.size, 0, none⟩ 1 _ ([q % 256].map (Value.int .u8)) rfl rfl NW (ones8 _) (by unfold maxLen; omega) (by omega) hb2 ?_; intro v7 w7 R7 G7 _ A7; have X7 := X2.trans (Ext.of_at G7 A7); replace R7 : RowB base w7 v7 (L ++ [q % 256]) := RowB.app R7; clear G7 A7)
      go_roundw
      case rel => exact ⟨j + 1, by omega, by go_num, by rw [← DS], by rw [LS, ← List.append_assoc, HLL]; exact R7, X7⟩
      case measure => simp [intOf]; omega
    · obtain rfl : j = 4 := by omega
      go_wp2
      go_ret
      exact ⟨_, rfl, R, X⟩
end Go.Proofs.YtgcaemhcdpddiaaDoor
