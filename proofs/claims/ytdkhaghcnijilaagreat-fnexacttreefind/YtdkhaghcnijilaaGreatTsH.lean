/- The law's marks on a tree: what they change. -/
import Derived.Test.YtdkhaghcnijilaaGreatTrL
import Derived.Test.YtdkhaghcnijilaaGreatTrC
import Derived.Test.YtdkhaghcnijilaaGreatIntsL
namespace Go.Proofs.YtdkhaghcnijilaaGreat
open Go.RowKit

/-- Only numbers were changed, to numbers, in the blocks from lo on and below hi. -/
structure IW (lo hi : Nat) (ws w : World) : Prop where
  os : w.os = ws.os
  tape : w.tape = ws.tape
  output : w.output = ws.output
  size : ws.heap.size ≤ w.heap.size
  blk : ∀ k, k < ws.heap.size → (k < lo ∨ hi ≤ k) → w.heap[k]? = ws.heap[k]?
  int : ∀ b k n, ws.cell? ⟨b, k, none⟩ = some (.int .i64 n) → ∃ n', w.cell? ⟨b, k, none⟩ = some (.int .i64 n')
  oth : ∀ b k v, ws.cell? ⟨b, k, none⟩ = some v → (∀ n, v ≠ .int .i64 n) → w.cell? ⟨b, k, none⟩ = some v
  fr : ∀ b o, b < ws.heap.size → w.frozen? ⟨b, o, none⟩ = ws.frozen? ⟨b, o, none⟩
theorem IW.refl (lo hi : Nat) (w : World) : IW lo hi w w := ⟨rfl, rfl, rfl, Nat.le_refl _, fun _ _ _ => rfl, fun _ _ n h => ⟨n, h⟩, fun _ _ _ h _ => h, fun _ _ _ => rfl⟩
theorem IW.put {lo hi : Nat} {ws w : World} (h : IW lo hi ws w) {b k : Nat} {n0 : Int} (hb : lo ≤ b) (hh : b < hi) (hc : w.cell? ⟨b, k, none⟩ = some (.int .i64 n0)) (n : Int) : IW lo hi ws (w.setCell ⟨b, k, none⟩ (.int .i64 n)) := by
  refine ⟨h.os, h.tape, h.output, by simpa [World.setCell] using h.size, fun q hq hr => (Below.heap_setCell _ _ _ _ (by show q ≠ b; omega)).trans (h.blk q hq hr), fun b' k' m e => ?_, fun b' k' v e nv => ?_, fun b' o hb' => by rw [World.frozen?_setCell]; exact h.fr b' o hb'⟩
  · by_cases q : b ≠ b' ∨ k ≠ k'
    · obtain ⟨n', e'⟩ := h.int b' k' m e
      exact ⟨n', (cell_other q _).trans e'⟩
    · have e1 : b = b' := by by_cases e : b = b'; · exact e
                             · exact absurd (.inl e) q
      have e2 : k = k' := by by_cases e : k = k'; · exact e
                             · exact absurd (.inr e) q
      subst e1 e2
      exact ⟨n, cell_same hc _⟩
  · have e' := h.oth b' k' v e nv
    by_cases q : b ≠ b' ∨ k ≠ k'
    · exact (cell_other q _).trans e'
    · have e1 : b = b' := by by_cases e : b = b'; · exact e
                             · exact absurd (.inl e) q
      have e2 : k = k' := by by_cases e : k = k'; · exact e
                             · exact absurd (.inr e) q
      subst e1 e2
      rw [hc] at e'
      injection e' with e'
      exact absurd e'.symm (nv n0)
theorem IW.at {w0 ws w : World} {lo hi : Nat} (h : IW lo hi ws w) (B : Below w0.heap.size w0 ws) {b k : Nat} {n : Int} (e : w0.cell? ⟨b, k, none⟩ = some (.int .i64 n)) : ∃ n', w.cell? ⟨b, k, none⟩ = some (.int .i64 n') := h.int b k n (bat B e)
theorem IW.sl {w0 ws w : World} {lo hi : Nat} (h : IW lo hi ws w) (B : Below w0.heap.size w0 ws) {b k : Nat} {a : Option Addr} {n c : Nat} (e : w0.cell? ⟨b, k, none⟩ = some (.slice a n c)) : w.cell? ⟨b, k, none⟩ = some (.slice a n c) := h.oth b k _ (bat B e) (fun _ e => by cases e)
theorem IW.fz {w0 ws w : World} {lo hi n : Nat} {a : Option Addr} (h : IW lo hi ws w) (B : Below w0.heap.size w0 ws) (z : Fz w0 n a) {b off : Nat} (e : a = some ⟨b, off, none⟩) (hn : 0 < n) (o : Nat) : w.frozen? ⟨b, o, none⟩ = false := by
  obtain ⟨h1, h2⟩ := z b off e hn
  exact ((h.fr b o (Nat.lt_of_lt_of_le h1 B.size)).trans (World.frozen?_of_block (a := ⟨b, o, none⟩) (B.block b h1))).trans (h2 o)
theorem IW.more {lo hi : Nat} {ws w w' : World} (h : IW lo hi ws w) (hb : Below w.heap.size w w') : IW lo hi ws w' :=
  ⟨hb.os.trans h.os, hb.tape.trans h.tape, hb.output.trans h.output, Nat.le_trans h.size hb.size, fun k hk hr => (hb.block k (Nat.lt_of_lt_of_le hk h.size)).trans (h.blk k hk hr), fun b k n e => by
    obtain ⟨n', e'⟩ := h.int b k n e
    exact ⟨n', bat hb e'⟩, fun b k v e nv => bat hb (h.oth b k v e nv), fun b o hb' => (World.frozen?_of_block (a := ⟨b, o, none⟩) (hb.block b (Nat.lt_of_lt_of_le hb' h.size))).trans (h.fr b o hb')⟩
theorem IW.from {lo hi : Nat} {ws wx w : World} (h : IW lo hi wx w) (hb : Below ws.heap.size ws wx) : IW lo hi ws w :=
  ⟨h.os.trans hb.os, h.tape.trans hb.tape, h.output.trans hb.output, Nat.le_trans hb.size h.size, fun k hk hr => (h.blk k (Nat.lt_of_lt_of_le hk hb.size) hr).trans (hb.block k hk), fun b k n e => h.int b k n (bat hb e), fun b k v e nv => h.oth b k v (bat hb e) nv, fun b o hb' => (h.fr b o (Nat.lt_of_lt_of_le hb' hb.size)).trans (World.frozen?_of_block (a := ⟨b, o, none⟩) (hb.block b hb'))⟩
theorem RowI.iw {base lo hi : Nat} {ws w : World} {v : Value} {ds : List Int} (h : RowI base ws v ds) (I : IW lo hi ws w) (hr : ∀ k, v.ownBlock = some k → k < lo ∨ hi ≤ k) : RowI base w v ds := by
  rcases h.2 with ⟨hv, h0⟩ | ⟨g, cap', cur, hv, hb, hh, r⟩
  · exact ⟨h.1, .inl ⟨hv, h0⟩⟩
  · refine ⟨h.1, .inr ⟨g, cap', cur, hv, hb, ?_, r⟩⟩
    rw [I.blk g (Array.getElem?_eq_some_iff.1 hh).1 (hr g (by rw [hv]; rfl))]
    exact hh
theorem Sev.grownT {w w' : World} {p o : Nat} {x : Bx} {v1 v2 v3 : Value} {row : Option Nat} (h : Sev w p o x v1 v2 v3) (g : w.grownBy w' row) (ne : some p ≠ row) : Sev w' p o x v1 v2 v3 := by
  obtain ⟨⟨f0, f1, f2, f3⟩, f4, f5, f6⟩ := h
  have q : ∀ k, w'.cell? ⟨p, k, none⟩ = w.cell? ⟨p, k, none⟩ := fun k => World.cell?_of_block (a := ⟨p, k, none⟩) (g.block p (World.block_lt_of_cell? w _ f6) ne)
  exact ⟨⟨(q _).trans f0, (q _).trans f1, (q _).trans f2, (q _).trans f3⟩, (q _).trans f4, (q _).trans f5, (q _).trans f6⟩
theorem IW.bel {lo hi : Nat} {ws w : World} (h : IW lo hi ws w) (hl : lo ≤ ws.heap.size) : Below lo ws w := ⟨h.os, h.tape, h.output, h.size, fun k hk => h.blk k (by omega) (.inl hk)⟩

set_option maxRecDepth 20000 in
set_option maxHeartbeats 1000000 in
theorem markBoxs_any {w0 ws : World} {lo : Nat} (a : Option Addr) (c : Nat) (bs : List Bx) (k : Int) (w : World) (S : SeesX w0 a c bs) (F : From lo bs.length a) (Z : Fz w0 bs.length a) (B : Below w0.heap.size w0 ws) (I : IW lo w0.heap.size ws w) (hl : bs.length ≤ 25000000) (h0 : 0 ≤ k) (hk : k ≤ 100000000) :
    Calls Tryz.prog 23 #[.slice a bs.length c, .int .i64 k] w fun e w' => e = .returned (.int .i64 (k + 4 * bs.length)) ∧ IW lo w0.heap.size ws w' := by
  have hm := S.max
  have hf := S.fits
  unfold maxLen at hm
  go_enter Tryz.func23, Tryz.ntmps23
  go_wp2
  go_loopw [1, 5] (fun s1 i wr => ∃ j : Nat, j ≤ bs.length ∧ i = .int .i64 j ∧ s1 = .int .i64 (k + 4 * (j : Int)) ∧ Hid (IW lo w0.heap.size ws wr)) (fun _ i _ => bs.length - (intOf i).toNat)
  case atStart => exact ⟨0, Nat.zero_le _, rfl, by simp, I⟩
  case round =>
    clear I
    obtain ⟨j, hj, rfl, rfl, I⟩ := hrel
    rename World => wr
    by_cases hlt : j < bs.length
    · obtain ⟨b, off, ea, hc⟩ := S.cells (by intro e; simp [e] at hlt)
      obtain ⟨f0, f1, f2, f3⟩ := hc j hlt
      have lb := F b off ea (by omega)
      obtain ⟨ub, _⟩ := Z b off ea (by omega)
      have cf := I.out.fz B Z ea (by omega)
      subst ea
      obtain ⟨n0, c0⟩ := I.out.at B f0
      obtain ⟨n1, c1⟩ := I.out.at B f1
      obtain ⟨n2, c2⟩ := I.out.at B f2
      obtain ⟨n3, c3⟩ := I.out.at B f3
      have I1 := I.out.put lb ub c0 (k + 4 * (j : Int))
      have I2 := I1.put lb ub ((cell_other (.inr (by omega)) _).trans c1) (k + 4 * (j : Int) + 1)
      have I3 := I2.put lb ub ((cell_other (.inr (by omega)) _).trans ((cell_other (.inr (by omega)) _).trans c2)) (k + 4 * (j : Int) + 1 + 1)
      have I4 : Hid (IW lo w0.heap.size ws _) := I3.put lb ub ((cell_other (.inr (by omega)) _).trans ((cell_other (.inr (by omega)) _).trans ((cell_other (.inr (by omega)) _).trans c3))) (k + 4 * (j : Int) + 1 + 1 + 1)
      clear I I1 I2 I3 f0 f1 f2 f3 hc
      go_wp2
      go_roundw
      case rel => exact ⟨j + 1, by omega, by go_num, by go_num, I4⟩
      case measure => simp [intOf]; omega
    · obtain rfl : j = bs.length := by omega
      go_wp2
      go_ret
      exact ⟨rfl, I.out⟩

set_option maxRecDepth 20000 in
set_option maxHeartbeats 1000000 in
theorem markInts_any {w0 ws : World} {lo : Nat} (a : Option Addr) (c : Nat) (is : List Int) (k : Int) (w : World) (S : SeesI w0 a c is) (F : From lo is.length a) (Z : Fz w0 is.length a) (B : Below w0.heap.size w0 ws) (I : IW lo w0.heap.size ws w) (hl : is.length ≤ 25000000) (h0 : 0 ≤ k) (hk : k ≤ 100000000) :
    Calls Tryz.prog 15 #[.slice a is.length c, .int .i64 k] w fun e w' => e = .returned (.int .i64 (k + is.length)) ∧ IW lo w0.heap.size ws w' := by
  have hm := S.max
  have hf := S.fits
  unfold maxLen at hm
  go_enter Tryz.func15, Tryz.ntmps15
  go_wp2
  go_loopw [1, 5] (fun s1 i wr => ∃ j : Nat, j ≤ is.length ∧ i = .int .i64 j ∧ s1 = .int .i64 (k + (j : Int)) ∧ Hid (IW lo w0.heap.size ws wr)) (fun _ i _ => is.length - (intOf i).toNat)
  case atStart => exact ⟨0, Nat.zero_le _, rfl, by simp, I⟩
  case round =>
    clear I
    obtain ⟨j, hj, rfl, rfl, I⟩ := hrel
    rename World => wr
    by_cases hlt : j < is.length
    · obtain ⟨b, off, ea, hc⟩ := S.cells (by intro e; simp [e] at hlt)
      have f0 := hc j hlt
      have lb := F b off ea (by omega)
      obtain ⟨ub, _⟩ := Z b off ea (by omega)
      have cf := I.out.fz B Z ea (by omega)
      subst ea
      obtain ⟨n0, c0⟩ := I.out.at B f0
      have I1 : Hid (IW lo w0.heap.size ws _) := I.out.put lb ub c0 (k + (j : Int))
      clear I f0 hc
      go_wp2
      go_roundw
      case rel => exact ⟨j + 1, by omega, by go_num, by go_num, I1⟩
      case measure => simp [intOf]; omega
    · obtain rfl : j = is.length := by omega
      go_wp2
      go_ret
      exact ⟨rfl, I.out⟩
def MksC (ks : List Nd) : Prop := ∀ {w0 ws : World} (lo lo' : Nat) (a : Option Addr) (c : Nat) (k : Int) (w : World), NdsUp w0 lo' a c ks → lo ≤ lo' → Below w0.heap.size w0 ws → IW lo w0.heap.size ws w → 0 ≤ k → k + 4 * ((ks.length + ndSz.ndsSz ks : Nat) : Int) ≤ 100000000 →
  Calls Tryz.prog 41 #[.slice a ks.length c, .int .i64 k] w fun e w' => ∃ z : Int, e = .returned (.int .i64 z) ∧ k ≤ z ∧ z ≤ k + 4 * ((ks.length + ndSz.ndsSz ks : Nat) : Int) ∧ IW lo w0.heap.size ws w'

set_option maxRecDepth 20000 in
set_option maxHeartbeats 4000000 in
theorem markNodeS_step {ks : List Nd} (ih : ∀ t ∈ ks, MksC t.ks) : MksC ks := by
  intro w0 ws lo lo' a c k w N hlo B I h0 hk
  have IH : Hid (∀ t ∈ ks, MksC t.ks) := ih
  have hm := N.max
  have hf := N.fits
  unfold maxLen at hm
  have HSZ : Hid (∀ j, j ≤ ks.length → ndSz.ndsSz (ks.take j) ≤ ndSz.ndsSz ks) := fun j hj => by
    have h2 := sz_app (ks.take j) (ks.drop j)
    rw [List.take_append_drop] at h2
    omega
  clear ih
  go_enter Tryz.func41, Tryz.ntmps41
  go_wp2
  go_loopw [1, 5] (fun s1 i wr => ∃ (j : Nat) (z : Int), j ≤ ks.length ∧ i = .int .i64 j ∧ s1 = .int .i64 z ∧ Hid (k ≤ z ∧ z ≤ k + 4 * ((j + ndSz.ndsSz (ks.take j) : Nat) : Int)) ∧ Hid (IW lo w0.heap.size ws wr)) (fun _ i _ => ks.length - (intOf i).toNat)
  case atStart => exact ⟨0, k, Nat.zero_le _, rfl, rfl, ⟨Int.le_refl _, by simp [ndSz.ndsSz]⟩, I⟩
  case round =>
    clear I
    obtain ⟨j, z, hj, rfl, rfl, HZ, I⟩ := hrel
    rename World => wr
    by_cases hlt : j < ks.length
    · obtain ⟨p, o, ea, hp, hcell⟩ := N.cells (by intro e; simp [e] at hlt)
      obtain ⟨v1, v2, v3, ⟨⟨f0, f1, f2, f3⟩, f4, f5, f6⟩, NU⟩ := hcell j hlt
      obtain ⟨b1, d1, b2, d2, b3, d3, rfl, rfl, rfl, s1, r1, s2, r2, NK, zz1, zz2⟩ := NU.open2
      have lb := N.frm p o ea (by omega)
      have ub := hp.lt
      have cf : ∀ q, wr.frozen? ⟨p, q, none⟩ = false := fun q => by
        rw [I.out.fr p q (Nat.lt_of_lt_of_le ub B.size), World.frozen?_of_block (a := ⟨p, q, none⟩) (B.block p ub)]
        obtain ⟨cs, T, e⟩ := hp
        unfold World.frozen?
        rw [e]
        simp
      subst ea
      obtain ⟨n0, c0⟩ := I.out.at B f0
      obtain ⟨n1, c1⟩ := I.out.at B f1
      obtain ⟨n2, c2⟩ := I.out.at B f2
      obtain ⟨n3, c3⟩ := I.out.at B f3
      have hsz : Hid (ndSz.ndsSz (ks.take (j + 1)) = ndSz.ndsSz (ks.take j) + ndSz (ndA ks j)) := ndsSz_at hlt
      have hs1 := HSZ.out (j + 1) (by omega)
      have hsn : Hid (ndSz (ndA ks j) = (ndA ks j).bs.length + (ndA ks j).is.length + (ndA ks j).ks.length + ndSz.ndsSz (ndA ks j).ks) := by show _ = _; cases ndA ks j; rfl
      have hs2 : ndSz.ndsSz (ks.take j) + ((ndA ks j).bs.length + (ndA ks j).is.length + (ndA ks j).ks.length + ndSz.ndsSz (ndA ks j).ks) ≤ ndSz.ndsSz ks := by rw [← hsn.out, ← hsz.out]; exact hs1
      have HZ2 : Hid (ndSz.ndsSz (ks.take (j + 1)) = ndSz.ndsSz (ks.take j) + ((ndA ks j).bs.length + (ndA ks j).is.length + (ndA ks j).ks.length + ndSz.ndsSz (ndA ks j).ks)) := by show _ = _; rw [hsz.out, hsn.out]
      have CK : MksC (ndA ks j).ks := IH.out _ (ndA_mem hlt)
      unfold MksC at CK
      obtain ⟨hz1, hz2⟩ := HZ.out
      have hzb : z ≤ 100000000 - 4 * (((ndA ks j).bs.length + (ndA ks j).is.length + (ndA ks j).ks.length + ndSz.ndsSz (ndA ks j).ks : Nat) : Int) - 4 := by omega
      have I1 := I.out.put (by omega) ub c0 z
      have I2 := I1.put (by omega) ub ((cell_other (.inr (by omega)) _).trans c1) (z + 1)
      have I3 := I2.put (by omega) ub ((cell_other (.inr (by omega)) _).trans ((cell_other (.inr (by omega)) _).trans c2)) (z + 1 + 1)
      have I4 : Hid (IW lo w0.heap.size ws _) := I3.put (by omega) ub ((cell_other (.inr (by omega)) _).trans ((cell_other (.inr (by omega)) _).trans ((cell_other (.inr (by omega)) _).trans c3))) (z + 1 + 1 + 1)
      clear I I1 I2 I3 f0 f1 f2 f3 hcell NU hsz hs1 hsn
      generalize ndA ks j = t at *
      go_upto_region 12 with fail
      generalize (((wr.setCell ⟨p, o + j * 7, none⟩ (.int .i64 z)).setCell ⟨p, o + j * 7 + 1, none⟩ (.int .i64 (z + 1))).setCell ⟨p, o + j * 7 + 2, none⟩ (.int .i64 (z + 1 + 1))).setCell ⟨p, o + j * 7 + 3, none⟩ (.int .i64 (z + 1 + 1 + 1)) = wx at *
      have e4 := I4.out.sl B f4
      clear c0 c1 c2 c3 cf
      go_wp2_with fail
      refine (markBoxs_any b1 d1 t.bs _ wx s1 (r1.lower (by omega)) zz1 B I4.out (by omega) (by omega) (by omega)).mono ?_
      rintro e w5 ⟨rfl, I5⟩
      have HI5 : Hid (IW lo w0.heap.size ws w5) := I5
      have e5 := I5.sl B f5
      clear I4 I5 e4
      go_wp2_with fail
      refine (markInts_any b2 d2 t.is _ w5 s2 (r2.lower (by omega)) zz2 B HI5.out (by omega) (by omega) (by omega)).mono ?_
      rintro e w6 ⟨rfl, I6⟩
      have HI6 : Hid (IW lo w0.heap.size ws w6) := I6
      have e6 := I6.sl B f6
      clear HI5 I6 e5
      go_wp2_with fail
      refine (CK lo (p + 1) b3 d3 _ w6 NK (by omega) B HI6.out (by omega) (by omega)).mono ?_
      rintro e w7 ⟨z7, rfl, h71, h72, I7⟩
      have HI7 : Hid (IW lo w0.heap.size ws w7) := I7
      have HN : Hid (k ≤ z7 ∧ z7 ≤ k + 4 * ((j + 1 + ndSz.ndsSz (ks.take (j + 1)) : Nat) : Int)) := ⟨by omega, by rw [HZ2.out]; omega⟩
      clear HI6 I7 e6 h71 h72 CK HZ HZ2
      go_wp2
      go_roundw
      case rel => exact ⟨j + 1, z7, by omega, by go_num, rfl, HN, HI7⟩
      case measure => simp [intOf]; omega
    · obtain rfl : j = ks.length := by omega
      have F : Hid (k ≤ z ∧ z ≤ k + 4 * ((ks.length + ndSz.ndsSz ks : Nat) : Int)) := by have := HZ.out; rw [List.take_length] at this; exact this
      clear HZ
      go_wp2
      go_ret
      exact ⟨z, rfl, F.out.1, F.out.2, I.out⟩
theorem markNodeS_any : ∀ ks : List Nd, MksC ks := by
  have key : ∀ t : Nd, MksC t.ks := Nd.ind (fun _ _ _ ks ih => markNodeS_step ih)
  exact fun ks => key (.mk (0, 0, 0, 0) [] [] ks)

set_option maxRecDepth 20000 in
set_option maxHeartbeats 4000000 in
theorem markNode_any {w0 : World} (lo : Nat) (t : Nd) (v1 v2 v3 : Value) (w : World) (N : NdUp w0 lo t v1 v2 v3) (B : Below w0.heap.size w0 w) (hs : ndSz t ≤ 1048576) :
    Calls Tryz.prog 14 #[ndV t v1 v2 v3, .int .i64 1] w fun e w' => ∃ z : Int, e = .returned (.int .i64 z) ∧ 1 ≤ z ∧ IW lo w0.heap.size w w' := by
  obtain ⟨b1, d1, b2, d2, b3, d3, rfl, rfl, rfl, s1, r1, s2, r2, NK, z1, z2⟩ := N.open2
  have hsn : Hid (ndSz t = t.bs.length + t.is.length + t.ks.length + ndSz.ndsSz t.ks) := by show _ = _; cases t; rfl
  have hs2 : t.bs.length + t.is.length + t.ks.length + ndSz.ndsSz t.ks ≤ 1048576 := by rw [← hsn.out]; exact hs
  have CK : MksC t.ks := markNodeS_any t.ks
  unfold MksC at CK
  unfold ndV
  obtain ⟨⟨x1, x2, x3, x4⟩, ux⟩ : ∃ x, Hid (t.b = x) := ⟨_, rfl⟩
  rw [ux.out]
  dsimp only
  have h1 := s1.max
  have h1' := s1.fits
  have h2 := s2.max
  have h2' := s2.fits
  have h3 := NK.max
  have h3' := NK.fits
  unfold maxLen at h1 h2 h3
  have V := Sev.new w x1 x2 x3 x4 (.slice b1 t.bs.length d1) (.slice b2 t.is.length d2) (.slice b3 t.ks.length d3) 39
  have bn := below1 w (.cells #[.int .i64 x1, .int .i64 x2, .int .i64 x3, .int .i64 x4, .slice b1 t.bs.length d1, .slice b2 t.is.length d2, .slice b3 t.ks.length d3] 39)
  have BX := B.trans (bn.mono B.size)
  clear N hs hsn
  go_enter Tryz.func14, Tryz.ntmps14
  go_upto_region 1 with fail
  generalize w.alloc (.cells #[.int .i64 x1, .int .i64 x2, .int .i64 x3, .int .i64 x4, .slice b1 t.bs.length d1, .slice b2 t.is.length d2, .slice b3 t.ks.length d3] 39) = wx at *
  obtain ⟨_, k4, k5, k6⟩ := id V
  simp only [Nat.zero_add] at k4 k5 k6
  have kx6 : Hid (wx.cell? ⟨w.heap.size, 6, none⟩ = some (.slice b3 t.ks.length d3)) := k6
  clear V
  go_wp2_with fail
  refine (markBoxs_any b1 d1 t.bs 1 wx s1 r1 z1 BX (IW.refl _ _ _) (by omega) (by omega) (by omega)).mono ?_
  rintro e w5 ⟨rfl, I5⟩
  have HI5 : Hid (IW lo w0.heap.size wx w5) := I5
  replace k5 := I5.oth _ _ _ k5 (fun _ e => by cases e)
  replace k6 := I5.oth _ _ _ k6 (fun _ e => by cases e)
  clear I5 k4
  go_wp2_with fail
  refine (markInts_any b2 d2 t.is _ w5 s2 r2 z2 BX HI5.out (by omega) (by omega) (by omega)).mono ?_
  rintro e w6 ⟨rfl, I6⟩
  have HI6 : Hid (IW lo w0.heap.size wx w6) := I6
  replace k6 := I6.oth _ _ _ kx6.out (fun _ e => by cases e)
  clear I6 k5 HI5
  go_wp2_with fail
  refine (CK lo lo b3 d3 _ w6 NK (Nat.le_refl _) BX HI6.out (by omega) (by omega)).mono ?_
  rintro e w7 ⟨z7, rfl, h71, h72, I7⟩
  have HI7 : Hid (IW lo w0.heap.size w w7) := I7.from bn
  have hz7 : 1 ≤ z7 := by omega
  clear HI6 I7 k6 CK h72
  go_wp2
  go_ret
  exact ⟨z7, rfl, hz7, HI7.out⟩
end Go.Proofs.YtdkhaghcnijilaaGreat
