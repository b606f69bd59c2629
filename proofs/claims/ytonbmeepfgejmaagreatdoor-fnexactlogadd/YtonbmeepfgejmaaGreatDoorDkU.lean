import Derived.Test.YtonbmeepfgejmaaGreatDoorQuR
import Derived.Test.YtonbmeepfgejmaaGreatDoorBase
import Derived.Test.YtonbmeepfgejmaaGreatDoorProg
import Derived.Deep.RegionHeld3
import Derived.Test.YtonbmeepfgejmaaGreatDoorDkS
/- Disks and boxes stay where but others were written. -/
namespace Go.Proofs.YtonbmeepfgejmaaGreatDoor
open Go.RowKit

theorem owns_under {lo b e size n : Nat} {w w' : World} {u : Value} {xs : List Value} (h : w.ownsRow lo e size u n xs) (hb : Below b w w') (nu : ∀ k, u.ownBlock = some k → k < b) : w'.ownsRow lo e size u n xs := by
  refine ⟨h.1, ?_⟩
  rcases h.2 with q2 | ⟨g, cap, cur, hv, q3, q4, q5⟩
  · exact .inl q2
  · exact .inr ⟨g, cap, cur, hv, q3, (hb.block g (nu g (by rw [hv]; rfl))).trans q4, q5⟩
theorem DkR.under {lo b : Nat} {w w' : World} {bv qv : Value} {vs : List Value} {bs : List Int} {qs : List Wr} (h : DkR lo w bv qv vs bs qs) (hb : Below b w w') (hs : Hid ((∀ k, bv.ownBlock = some k → k < b) ∧ (∀ k, qv.ownBlock = some k → k < b) ∧ ∀ u ∈ vs, ∀ k, u.ownBlock = some k → k < b)) : DkR lo w' bv qv vs bs qs :=
  ⟨owns_under h.row hb hs.out.1, h.que.under hb hs.out.2.1 hs.out.2.2, h.ap⟩
theorem DkR.tops {lo b : Nat} {w : World} {bv qv : Value} {vs : List Value} {bs : List Int} {qs : List Wr} (h : DkR lo w bv qv vs bs qs) (hb : w.heap.size ≤ b) : Hid ((∀ k, bv.ownBlock = some k → k < b) ∧ (∀ k, qv.ownBlock = some k → k < b) ∧ ∀ u ∈ vs, ∀ k, u.ownBlock = some k → k < b) :=
  ⟨fun k hk => Nat.lt_of_lt_of_le (h.lts.1 k hk).2 hb, fun k hk => Nat.lt_of_lt_of_le (h.lts.2.1 k hk).2 hb, fun u hu k hk => Nat.lt_of_lt_of_le (h.lts.2.2 u hu k hk).2 hb⟩
theorem Box2.underB {lo p b : Nat} {w w' : World} {x0 x1 : Value} (h : Box2 lo w p x0 x1) (hb : Below b w w') (hp : p < b) : Box2 lo w' p x0 x1 := by
  have e := hb.block p hp
  exact ⟨(World.cell?_of_block (a := ⟨p, 0, none⟩) e).trans h.c0, (World.cell?_of_block (a := ⟨p, 1, none⟩) e).trans h.c1, fun o => (World.frozen?_of_block (a := ⟨p, o, none⟩) e).trans (h.fr o), h.lo⟩
theorem Box2.butQ {lo p : Nat} {w w' : World} {x0 x1 : Value} {us : List Value} (h : Box2 lo w p x0 x1) (hb : ButQ us w w') (ne : ∀ u ∈ us, u.ownBlock ≠ some p) : Box2 lo w' p x0 x1 := by
  have e := hb.2 p h.lt ne
  exact ⟨(World.cell?_of_block (a := ⟨p, 0, none⟩) e).trans h.c0, (World.cell?_of_block (a := ⟨p, 1, none⟩) e).trans h.c1, fun o => (World.frozen?_of_block (a := ⟨p, o, none⟩) e).trans (h.fr o), h.lo⟩
/-- No block of a disk is one from b on. -/
theorem DkR.nots {lo p : Nat} {w : World} {bv qv : Value} {vs : List Value} {bs : List Int} {qs : List Wr} (h : DkR lo w bv qv vs bs qs) (hp : w.heap.size ≤ p ∨ p < lo) : Hid (∀ u ∈ (bv :: qv :: vs), u.ownBlock ≠ some p) := by
  intro u hu e
  have := h.lts
  rcases List.mem_cons.1 hu with rfl | hu
  · have := this.1 p e; omega
  · rcases List.mem_cons.1 hu with rfl | hu
    · have := this.2.1 p e; omega
    · have := this.2.2 u hu p e; omega
end Go.Proofs.YtonbmeepfgejmaaGreatDoor

/- The cursor of a draw: a byte of it, a number below a most. -/
namespace Go.Proofs.YtonbmeepfgejmaaGreatDoor
open Go.RowKit

/-- n bytes that can be read. -/
def Byt (w : World) (a : Option Addr) (n : Nat) : Prop := ∀ j, j < n → ∃ b off, a = some ⟨b, off, none⟩ ∧ ∃ y : Int, 0 ≤ y ∧ y < 256 ∧ w.cell? ⟨b, off + j, none⟩ = some (.int .u8 y)
/-- A cursor over them, in block p. -/
structure Cur (w : World) (p : Nat) (a : Option Addr) (n cap : Nat) : Prop where
  c0 : w.cell? ⟨p, 0, none⟩ = some (.slice a n cap)
  c1 : ∃ i : Nat, i ≤ n ∧ w.cell? ⟨p, 1, none⟩ = some (.int .i64 i)
  c2 : ∃ h : Int, w.cell? ⟨p, 2, none⟩ = some (.int .i64 h)
  fr : ∀ o, w.frozen? ⟨p, o, none⟩ = false
  byt : Byt w a n
  apart : ∀ b off, a = some ⟨b, off, none⟩ → 0 < n → b ≠ p
  most : n ≤ 1048576

theorem and255 (n : Int) : 0 ≤ bits .and .i64 n 255 ∧ bits .and .i64 n 255 < 256 := by
  have e : (BitVec.ofInt 64 255).toNat = 255 := by decide
  have h : (BitVec.ofInt 64 n &&& BitVec.ofInt 64 255).toNat ≤ 255 := by
    rw [BitVec.toNat_and, e]
    exact Nat.and_le_right
  show 0 ≤ IntKind.i64.wrap ((BitVec.ofInt 64 n &&& BitVec.ofInt 64 255).toNat : Nat) ∧ IntKind.i64.wrap ((BitVec.ofInt 64 n &&& BitVec.ofInt 64 255).toNat : Nat) < 256
  rw [IntKind.wrap_i64]
  omega
theorem grownBy_drew {w w' : World} {row : Option Nat} (h : w.grownBy w' row) : w.grownBy w'.drew row := grownBy_drewN h 1
theorem Byt.kept {w w' : World} {a : Option Addr} {n p : Nat} (h : Byt w a n) (g : w.grownBy w' (some p)) (ap : ∀ b off, a = some ⟨b, off, none⟩ → 0 < n → b ≠ p) : Byt w' a n := by
  intro j hj
  obtain ⟨b, off, e, y, y0, y1, hc⟩ := h j hj
  refine ⟨b, off, e, y, y0, y1, ?_⟩
  rw [← hc]
  exact World.cell?_of_block (g.block b (World.block_lt_of_cell? _ _ hc) (fun q => ap b off e (by omega) (by simpa using q)))

end Go.Proofs.YtonbmeepfgejmaaGreatDoor

/- A new cursor; what stays of a cursor and of variables beside it. -/
namespace Go.Proofs.YtonbmeepfgejmaaGreatDoor
open Go.RowKit

theorem Byt.below {w w' : World} {a : Option Addr} {n : Nat} (h : Byt w a n) (hb : Below w.heap.size w w') : Byt w' a n := by
  intro j hj
  obtain ⟨b, off, e, y, y0, y1, hc⟩ := h j hj
  exact ⟨b, off, e, y, y0, y1, bat hb hc⟩
theorem Byt.apart {w : World} {a : Option Addr} {n : Nat} (h : Byt w a n) : ∀ b off, a = some ⟨b, off, none⟩ → 0 < n → b ≠ w.heap.size := by
  intro b off ea hn
  obtain ⟨b', off', ea', y, _, _, hc⟩ := h 0 hn
  have hl : b' < w.heap.size := World.block_lt_of_cell? _ _ hc
  rw [ea] at ea'
  simp only [Option.some.injEq, Addr.mk.injEq] at ea'
  omega
theorem Cur.lt {w : World} {p n cap : Nat} {a : Option Addr} (h : Cur w p a n cap) : p < w.heap.size := World.block_lt_of_cell? _ _ h.c0
theorem Cur.below {w w' : World} {p n cap : Nat} {a : Option Addr} (h : Cur w p a n cap) (hb : Below w.heap.size w w') : Cur w' p a n cap := by
  have hl : p < w.heap.size := h.lt
  obtain ⟨c0, ⟨i, hi, c1⟩, ⟨h0, c2⟩, fr, byt, ap, mo⟩ := h
  exact ⟨bat hb c0, ⟨i, hi, bat hb c1⟩, ⟨h0, bat hb c2⟩, fun o => (hb.frozen (p := ⟨p, o, none⟩) hl).trans (fr o), byt.below hb, ap, mo⟩
theorem grown_alloc {w w1 : World} {row : Option Nat} (h : w.grownBy w1 row) (o : Obj) : w.grownBy (w1.alloc o) row := grownBy_trans h (World.grownBy_alloc _ _ _)
theorem grown_new {w w1 : World} {row : Option Nat} (h : w.grownBy w1 row) {q : Nat} (hq : w.heap.size ≤ q) (o : Nat) (u : Value) : w.grownBy (w1.setCell ⟨q, o, none⟩ u) row :=
  ⟨h.os, h.tape, h.output, by simpa using h.size, fun i hi hr => (Below.heap_setCell _ _ _ _ (by show i ≠ q; omega)).trans (h.block i hi hr)⟩
theorem Box2.grown {lo p q : Nat} {w w' : World} {x0 x1 : Value} (h : Box2 lo w q x0 x1) (g : w.grownBy w' (some p)) (ne : q ≠ p) : Box2 lo w' q x0 x1 := by
  have hb := g.block q h.lt (fun e => ne (by simpa using e))
  exact ⟨(World.cell?_of_block hb).trans h.c0, (World.cell?_of_block hb).trans h.c1, fun o => (World.frozen?_of_block (a := ⟨q, o, none⟩) hb).trans (h.fr o), h.lo⟩
/-- A cell elsewhere is set. -/
theorem Cur.put {w : World} {p n cap q : Nat} {a : Option Addr} (h : Cur w p a n cap) (hq : q ≠ p) (hb : ∀ b off, a = some ⟨b, off, none⟩ → 0 < n → b ≠ q) (o : Nat) (u : Value) : Cur (w.setCell ⟨q, o, none⟩ u) p a n cap := by
  obtain ⟨c0, ⟨i, hi, c1⟩, ⟨h0, c2⟩, fr, byt, ap, mo⟩ := h
  have e : ∀ j, (w.setCell ⟨q, o, none⟩ u).cell? ⟨p, j, none⟩ = w.cell? ⟨p, j, none⟩ := fun j => cell_other (.inl hq) u
  refine ⟨(e 0).trans c0, ⟨i, hi, (e 1).trans c1⟩, ⟨h0, (e 2).trans c2⟩, fun j => (World.frozen?_setCell ..).trans (fr j), ?_, ap, mo⟩
  intro j hj
  obtain ⟨b, off, ea, y, y0, y1, hc⟩ := byt j hj
  exact ⟨b, off, ea, y, y0, y1, (cell_other (.inl (Ne.symm (hb b off ea (by omega)))) u).trans hc⟩

end Go.Proofs.YtonbmeepfgejmaaGreatDoor

/- The specification's copy of a disk: l11Copy, with what stands in it. -/
namespace Go.Proofs.YtonbmeepfgejmaaGreatDoor
open Go.RowKit

theorem cell_drawnD {w w' : World} {p b o : Nat} {u : Value} (g : w.grownBy w' (some p)) (c : w.cell? ⟨b, o, none⟩ = some u) (ne : b ≠ p) : w'.cell? ⟨b, o, none⟩ = some u :=
  (World.cell?_of_block (a := ⟨b, o, none⟩) (g.block b (World.block_lt_of_cell? _ _ c) (fun e => ne (by simpa using e)))).trans c
theorem SeesB.newsA {w : World} {ad : Addr} {cap : Nat} {bs : List Int} (h : SeesB w (some ad) cap bs) : ∀ j u, (bs.map (Value.int .u8))[j]? = some u → w.cell? (ad.add j) = some u := by
  by_cases e : bs = []
  · subst e
    intro j u hu
    simp at hu
  · obtain ⟨b, off, q, _⟩ := h.cells e
    injection q with q
    subst q
    exact h.newsB

theorem RowB.someOf {base k : Nat} {w : World} {v : Value} {bs : List Int} (h : RowB base w v bs) (hk : v.ownBlock = some k) : ∃ c, v = .slice (some ⟨k, 0, none⟩) bs.length c := by
  rcases h.2 with ⟨hv, _⟩ | ⟨q, cap, cur, hv, _⟩
  · rw [hv] at hk; cases hk
  · rw [hv] at hk
    injection hk with hk
    dsimp only at hk
    subst hk
    exact ⟨cap, hv⟩
theorem two_newW (w : World) (e : TypeId) (x y : Value) : ∀ j u, ([x, y])[j]? = some u → (w.alloc (.cells #[x, y] e)).cell? ((⟨w.heap.size, 0, none⟩ : Addr).add j) = some u := by
  intro j u hu
  match j, hu with
  | 0, hu => simp at hu; subst hu; exact cell_new w #[x, y] e 0 rfl
  | 1, hu => simp at hu; subst hu; exact cell_new w #[x, y] e 1 rfl
  | j + 2, hu => simp at hu
theorem SomeV.snoc {vs : List Value} {u : Value} (h : SomeV vs) (hu : ∃ ad l c, u = .slice (some ad) l c) : SomeV (vs ++ [u]) := by
  intro x hx
  rcases List.mem_append.1 hx with hx | hx
  · exact h x hx
  · simp at hx
    subst hx
    exact hu
theorem Box2.set1D {lo p : Nat} {w : World} {x0 x1 : Value} (h : Box2 lo w p x0 x1) (u : Value) : Box2 lo (w.setCell ⟨p, 1, none⟩ u) p x0 u :=
  ⟨(cell_other (.inr (by simp)) u).trans h.c0, cell_same h.c1 u, fun o => (World.frozen?_setCell ..).trans (h.fr o), h.lo⟩
theorem Ext2.boxD {lo p : Nat} {w w' : World} {v x0 x1 : Value} (g : w.grownBy w' v.ownBlock) (B : Box2 lo w p x0 x1) (ne : v.ownBlock ≠ some p) : Box2 lo w' p x0 x1 := by
  have hb := g.block p B.lt (fun e => ne e.symm)
  exact ⟨(World.cell?_of_block hb).trans B.c0, (World.cell?_of_block hb).trans B.c1, fun o => (World.frozen?_of_block (a := ⟨p, o, none⟩) hb).trans (B.fr o), B.lo⟩

set_option maxRecDepth 20000 in
set_option maxHeartbeats 4000000 in
theorem l11CopyR {lo : Nat} (ad : Addr) (a2 : Option Addr) (c c2 : Nat) (vs0 : List Value) (bs : List Int) (qs : List Wr) (w : World) (h : DkR lo w (.slice (some ad) bs.length c) (.slice a2 qs.length c2) vs0 bs qs) (hv0 : SomeV vs0) (hb0 : bs.length ≤ 2000000) (hs : uptoQ qs qs.length ≤ 2000000) :
    Calls Tryz.prog 18 #[.agg #[.slice (some ad) bs.length c, .slice a2 qs.length c2]] w fun e w' => ∃ ad' c' b' d' vs, e = .returned (.agg #[.slice (some ad') bs.length c', .slice b' qs.length d']) ∧ DkR w.heap.size w' (.slice (some ad') bs.length c') (.slice b' qs.length d') vs bs qs ∧ SomeV vs ∧ Below w.heap.size w w' := by
  obtain ⟨i8, hi8, hy0, hy1, hy2⟩ := info_parts infoB
  obtain ⟨iW, hiW, hW0, hW1, hW2⟩ := info_parts infoW
  obtain ⟨hf, hm⟩ := h.row.caps
  obtain ⟨-, hf2, hm2⟩ := h.que.caps
  unfold maxLen at hm hm2
  have hn : qs.length ≤ 2000000 := by have := uptoQ_mono qs (Nat.zero_le qs.length); simp only [uptoQ] at this; omega
  have HS : Hid (uptoQ qs qs.length ≤ 2000000) := hs
  have HM : Hid (SomeV vs0) := hv0
  have HQ : Hid (QuR lo w (.slice a2 qs.length c2) vs0 qs) := h.que
  have HR : Hid (RowB lo w (.slice (some ad) bs.length c) bs) := h.row
  have b1 := below1 w (.cells #[.slice (some ad) bs.length c, .slice a2 qs.length c2] 31)
  have V1 := Box2.new w (lo := w.heap.size) (Nat.le_refl _) (.slice (some ad) bs.length c) (.slice a2 qs.length c2) 31
  have b2 := below1 (w.alloc (.cells #[.slice (some ad) bs.length c, .slice a2 qs.length c2] 31)) (.cells #[.slice none 0 0, .slice none 0 0] 31)
  have V2 := Box2.new (w.alloc (.cells #[.slice (some ad) bs.length c, .slice a2 qs.length c2] 31)) (lo := w.heap.size) (by simp) (.slice none 0 0) (.slice none 0 0) 31
  rw [World.size_alloc] at V2
  have z2 : ((w.alloc (.cells #[.slice (some ad) bs.length c, .slice a2 qs.length c2] 31)).alloc (.cells #[.slice none 0 0, .slice none 0 0] 31)).heap.size = w.heap.size + 2 := by simp
  have B2 := b1.trans (b2.mono b1.size)
  replace V1 := V1.below b2
  clear b1 b2 hs hv0 h
  go_enter Tryz.func18, Tryz.ntmps18
  go_upto_region 1 with fail
  generalize (w.alloc (.cells #[.slice (some ad) bs.length c, .slice a2 qs.length c2] 31)).alloc (.cells #[.slice none 0 0, .slice none 0 0] 31) = W0 at *
  have b3 := below1 W0 (.cells #[] 5)
  have RE : RowB (w.heap.size + 2) (W0.alloc (.cells #[] 5)) (.slice (some ⟨W0.heap.size, 0, none⟩) 0 0) [] := RowB.empty W0 (by omega)
  have B3 := B2.trans (b3.mono B2.size)
  replace V1 := V1.below b3
  replace V2 := V2.below b3
  have NW := (HR.out.below B3).seesB.newsA
  obtain ⟨t0, t1, _, _⟩ := id V1
  have HB : w.heap.size + 2 ≤ (W0.alloc (.cells #[] 5)).heap.size := by rw [World.size_alloc, z2]; omega
  rw [z2] at RE
  clear b3
  go_wp2_with (at_builtin; refine wpList_append_own_at _ rfl (.tmp 5) (.tmp 7) 22 rfl (w.heap.size + 2) 5 i8 (.int .u8 0) 1 1 Tryz.underlying22 hi8 hy0 hy1 hy2 rfl (by decide) (.slice (some ⟨w.heap.size + 2, 0, none⟩) 0 0) 0 [] (by rw [← z2]; rfl) RE ad bs.length _ (bs.map (Value.int .u8)) rfl (by simp) NW (ones8 _) (by unfold maxLen; omega) (by omega) HB ?_; intro v7 w7 R7 G7 _ A7; rw [Nat.zero_add, List.nil_append] at R7; obtain ⟨g7, hg7, hgl⟩ : ∃ g, v7.ownBlock = some g ∧ w.heap.size + 2 ≤ g := (A7.elim (fun e => ⟨_, e, Nat.le_refl _⟩) (fun e => ⟨_, e, HB⟩)); obtain ⟨c7, rfl⟩ := RowB.someOf (bs := bs) R7 hg7)
  have R8 : RowB (w.heap.size + 2) w7 (.slice (some ⟨g7, 0, none⟩) bs.length c7) bs := R7
  have G8 : (W0.alloc (.cells #[] 5)).grownBy w7 (some (w.heap.size + 2)) := G7
  have V3 := Box2.new w7 (lo := w.heap.size) (Nat.le_trans B3.size G8.size) (.slice (some ⟨g7, 0, none⟩) bs.length c7) (.slice none 0 0) 31
  have b8 := below1 w7 (.cells #[.slice (some ⟨g7, 0, none⟩) bs.length c7, .slice none 0 0] 31)
  replace V1 := (V1.grown G8 (by omega)).below b8
  replace V2 := (V2.grown G8 (by omega)).below b8
  have g7l : g7 < w7.heap.size := (World.ownsRow.lt R8 g7 rfl).2
  replace R8 := R8.below b8
  have B4 : Below w.heap.size w (w7.alloc (.cells #[.slice (some ⟨g7, 0, none⟩) bs.length c7, .slice none 0 0] 31)) := (B3.grown G8 B3.size (fun k hk => by injection hk with hk; omega)).trans (b8.mono (Nat.le_trans B3.size G8.size))
  have z3 : (w7.alloc (.cells #[.slice (some ⟨g7, 0, none⟩) bs.length c7, .slice none 0 0] 31)).heap.size = w7.heap.size + 1 := by simp
  have hp3 : w.heap.size + 2 ≤ w7.heap.size := Nat.le_trans HB G8.size
  clear b8 G8 R7 G7 A7 hg7 RE NW t0 t1 B3 B2 HB z2
  generalize hp : w7.heap.size = p3 at *
  generalize w7.alloc (.cells #[.slice (some ⟨g7, 0, none⟩) bs.length c7, .slice none 0 0] 31) = W1 at *
  have R0 := QuR.nil W1.heap.size W1
  have HV : Hid (SomeV []) := fun u hu => by cases hu
  go_loopw [4] (fun s4 wr => ∃ (j : Nat) (v : Value) (vs : List Value), j ≤ qs.length ∧ s4 = .int .i64 j ∧ QuR W1.heap.size wr v vs (qs.take j) ∧ Hid (SomeV vs) ∧ Box2 w.heap.size wr p3 (.slice (some ⟨g7, 0, none⟩) bs.length c7) v ∧ W1.grownBy wr (some p3)) (fun s4 _ => qs.length - (intOf s4).toNat)
  case atStart => exact ⟨0, _, [], Nat.zero_le _, rfl, R0, HV, V3, grownBy_refl _ _⟩
  case round =>
    clear R0 V3 HV
    obtain ⟨j, v, vs, hj, rfl, RR, SV, VV, G⟩ := hrel
    rename World => wr
    have t1 := cell_drawnD G V1.c1 (by omega)
    have hzr : W1.heap.size ≤ wr.heap.size := G.size
    by_cases hlt : j < qs.length
    · obtain ⟨b, cq, a', c', e, hvj, g0, g1, PP, _⟩ := HQ.out.at' hlt
      injection e with e1 e2 e3
      subst e1
      obtain ⟨ad3, e8⟩ : ∃ ad, a' = some ad := by
        obtain ⟨ad', l, c9, q⟩ := HM.out _ (List.mem_of_getElem? hvj)
        injection q with q
        exact ⟨ad', q⟩
      subst e8
      have hvl : Hid (vs.length = j) := by have := RR.len.out; rw [List.length_take] at this; show _ = _; omega
      have hle := uptoQ_row qs hlt
      have l1 : (wrN qs j).2.length ≤ 2000000 := by have := HS.out; omega
      have TK : Hid (qs.take (j + 1) = qs.take j ++ [wrN qs j]) := wrN_take hlt
      have hbl : b < w.heap.size := World.block_lt_of_cell? w ⟨b, j * 2, none⟩ g0
      have t2 := cell_drawnD G (bat B4 g0) (by omega)
      have t3 := cell_drawnD G (bat B4 g1) (by omega)
      have P3 : RowB lo wr (.slice (some ad3) (wrN qs j).2.length c') (wrN qs j).2 := owns_kept' (PP.below B4) G (fun k hk e => by have := (World.ownsRow.lt PP k hk).2; injection e with e; omega)
      obtain ⟨PF, PM⟩ := PP.caps
      unfold maxLen at PM
      obtain ⟨va, vc, rfl, vf, vm⟩ := RR.shape
      obtain ⟨y0, y1, yf, _⟩ := id VV
      have hlq : Hid ((qs.take j).length = j) := by show _ = _; rw [List.length_take]; omega
      rw [hlq.out] at RR VV y1 vf
      clear hvj PP g0 g1 hle e2 e3
      generalize wrN qs j = q9 at *
      obtain ⟨x, ds⟩ := q9
      dsimp only at t2 t3 P3 l1 PF
      go_wp2_with fail
      have bd := ((Below.refl wr.heap.size wr).drew : Below wr.heap.size wr _)
      have N : wr.drew.cell? ⟨w.heap.size, 1, none⟩ = some (.slice (some ⟨b, 0, none⟩) qs.length c2) ∧ wr.drew.cell? ⟨b, j * 2, none⟩ = some (.int .i64 x) ∧ wr.drew.cell? ⟨b, j * 2 + 1, none⟩ = some (.slice (some ad3) ds.length c') := ⟨t1, t2, t3⟩
      replace RR := RR.below bd
      replace VV := VV.below bd
      replace P3 := P3.below bd
      replace G := grownBy_drew G
      clear bd y0 y1 yf t1 t2 t3
      refine wp_region_held_drew (S := fun W => W.cell? ⟨w.heap.size, 1, none⟩ = some (.slice (some ⟨b, 0, none⟩) qs.length c2) ∧ W.cell? ⟨b, j * 2, none⟩ = some (.int .i64 x) ∧ W.cell? ⟨b, j * 2 + 1, none⟩ = some (.slice (some ad3) ds.length c')) (by kernel_rfl) N (fun hHeld => ?_)
      clear hHeld
      have hzd : W1.heap.size ≤ wr.drew.heap.size := G.size
      revert N RR VV P3 G hzd
      generalize wr.drew = ww0
      intro N RR VV P3 G hzd
      refine takeW (i := 0) (by simp only [List.getElem?_toArray, List.getElem?_cons_zero]; exact rfl) (by kernel_rfl) (by kernel_rfl) (by kernel_rfl) (by exact fun _ _ _ h => h) (by rfl) (by intro wq hSw; go_simp <;> with_reducible rfl) (by assumption) ?_
      try simp only [Act.put, List.setIfInBounds_toArray, List.set_cons_zero, List.set_cons_succ]
      refine takeW (i := 2) (by simp only [List.getElem?_toArray, List.getElem?_cons_succ, List.getElem?_cons_zero]; exact rfl) (by kernel_rfl) (by kernel_rfl) (by kernel_rfl) (by exact fun _ _ _ h => h) (by rfl) (by intro wq hSw; go_simp <;> with_reducible rfl) (by assumption) ?_
      try simp only [Act.put, List.setIfInBounds_toArray, List.set_cons_zero, List.set_cons_succ]
      refine takeW (i := 3) (by simp only [List.getElem?_toArray, List.getElem?_cons_succ, List.getElem?_cons_zero]; exact rfl) (by kernel_rfl) (by kernel_rfl) (by kernel_rfl) (by exact fun _ _ _ h => h) (by rfl) (by intro wq hSw; obtain ⟨p1, p2, p4⟩ := hSw; go_simp <;> with_reducible rfl) (by assumption) ?_
      try simp only [Act.put, List.setIfInBounds_toArray, List.set_cons_zero, List.set_cons_succ]
      refine takeW (i := 4) (by simp only [List.getElem?_toArray, List.getElem?_cons_succ, List.getElem?_cons_zero]; exact rfl) (by kernel_rfl) (by kernel_rfl) (by kernel_rfl) (by exact fun _ _ _ h => h) (by rfl) (by intro wq hSw; go_simp <;> with_reducible rfl) (by assumption) ?_
      try simp only [Act.put, List.setIfInBounds_toArray, List.set_cons_zero, List.set_cons_succ]
      refine takeW (i := 5) (by simp only [List.getElem?_toArray, List.getElem?_cons_succ, List.getElem?_cons_zero]; exact rfl) (by kernel_rfl) (by kernel_rfl) (by kernel_rfl) (by exact fun _ _ _ h => h) (by rfl) (by intro wq hSw; go_simp <;> with_reducible rfl) (by assumption) ?_
      try simp only [Act.put, List.setIfInBounds_toArray, List.set_cons_zero, List.set_cons_succ]
      refine takeW (i := 6) (by simp only [List.getElem?_toArray, List.getElem?_cons_succ, List.getElem?_cons_zero]; exact rfl) (by kernel_rfl) (by kernel_rfl) (by kernel_rfl) (by exact fun _ _ _ h => h) (by rfl) (by intro wq hSw; go_simp <;> with_reducible rfl) (by assumption) ?_
      try simp only [Act.put, List.setIfInBounds_toArray, List.set_cons_zero, List.set_cons_succ]
      refine takeW (i := 7) (by simp only [List.getElem?_toArray, List.getElem?_cons_succ, List.getElem?_cons_zero]; exact rfl) (by kernel_rfl) (by kernel_rfl) (by kernel_rfl) (by exact fun _ _ _ h => h) (by rfl) (by intro wq hSw; obtain ⟨p1, p2, p4⟩ := hSw; go_simp <;> with_reducible rfl) (by assumption) ?_
      try simp only [Act.put, List.setIfInBounds_toArray, List.set_cons_zero, List.set_cons_succ]
      refine takeW (i := 9) (by simp only [List.getElem?_toArray, List.getElem?_cons_succ, List.getElem?_cons_zero]; exact rfl) (by kernel_rfl) (by kernel_rfl) (by kernel_rfl) (by exact fun _ _ _ h => h) (by rfl) (by intro wq hSw; go_simp <;> with_reducible rfl) (by assumption) ?_
      try simp only [Act.put, List.setIfInBounds_toArray, List.set_cons_zero, List.set_cons_succ]
      refine takeW (i := 10) (by simp only [List.getElem?_toArray, List.getElem?_cons_succ, List.getElem?_cons_zero]; exact rfl) (by kernel_rfl) (by kernel_rfl) (by kernel_rfl) (by exact fun _ _ _ h => h) (by rfl) (by intro wq hSw; obtain ⟨p1, p2, p4⟩ := hSw; go_simp <;> with_reducible rfl) (by assumption) ?_
      try simp only [Act.put, List.setIfInBounds_toArray, List.set_cons_zero, List.set_cons_succ]
      refine takeW (i := 11) (by simp only [List.getElem?_toArray, List.getElem?_cons_succ, List.getElem?_cons_zero]; exact rfl) (by kernel_rfl) (by kernel_rfl) (by kernel_rfl) (by exact fun _ _ _ h => h) (by rfl) (by intro wq hSw; go_simp <;> with_reducible rfl) (by assumption) ?_
      try simp only [Act.put, List.setIfInBounds_toArray, List.set_cons_zero, List.set_cons_succ]
      refine takeW (i := 12) (by simp only [List.getElem?_toArray, List.getElem?_cons_succ, List.getElem?_cons_zero]; exact rfl) (by kernel_rfl) (by kernel_rfl) (by kernel_rfl) (by exact fun _ _ _ h => h) (by rfl) (by intro wq hSw; go_simp <;> with_reducible rfl) (by assumption) ?_
      try simp only [Act.put, List.setIfInBounds_toArray, List.set_cons_zero, List.set_cons_succ]
      refine takeW (i := 13) (by simp only [List.getElem?_toArray, List.getElem?_cons_succ, List.getElem?_cons_zero]; exact rfl) (by kernel_rfl) (by kernel_rfl) (by kernel_rfl) (by exact fun _ _ _ h => h) (by rfl) (by intro wq hSw; go_simp <;> with_reducible rfl) (by assumption) ?_
      try simp only [Act.put, List.setIfInBounds_toArray, List.set_cons_zero, List.set_cons_succ]
      refine takeW (i := 14) (by simp only [List.getElem?_toArray, List.getElem?_cons_succ, List.getElem?_cons_zero]; exact rfl) (by kernel_rfl) (by kernel_rfl) (by kernel_rfl) (by exact fun _ _ _ h => h) (by rfl) (by intro wq hSw; obtain ⟨p1, p2, p4⟩ := hSw; go_simp <;> with_reducible rfl) (by assumption) ?_
      try simp only [Act.put, List.setIfInBounds_toArray, List.set_cons_zero, List.set_cons_succ]
      refine wpAnyH_ready (rs := [1, 8]) (by kernel_rfl) (by simp) (AllReadyH.cons (by simp only [List.getElem?_toArray, List.getElem?_cons_succ, List.getElem?_cons_zero]; exact rfl) (fun K hK => ?_) (AllReadyH.cons (by simp only [List.getElem?_toArray, List.getElem?_cons_succ, List.getElem?_cons_zero]; exact rfl) (fun K hK => ?_) AllReadyH.nil))
      · have y1 := VV.c1
        go_simp
        refine hK.out _ _ N (fun hHeld => ?_)
        clear hK K hHeld y1
        try simp only [Act.put, List.setIfInBounds_toArray, List.set_cons_zero, List.set_cons_succ]
        refine wpAnyH_ready (rs := [8]) (by kernel_rfl) (by simp) (AllReadyH.cons (by simp only [List.getElem?_toArray, List.getElem?_cons_succ, List.getElem?_cons_zero]; exact rfl) (fun K hK => ?_) AllReadyH.nil)
        go_simp
        have bn := below1 ww0 (.cells #[] 5)
        have RE := RowB.empty ww0 (base := W1.heap.size) hzd
        have N1 : _ ∧ _ ∧ _ := ⟨bat bn N.1, bat bn N.2.1, bat bn N.2.2⟩
        have nq : ∀ k, (Value.slice va j vc).ownBlock = some k → k < ww0.heap.size := fun k hk => (RR.lts.1 k hk).2
        have nr : ∀ x ∈ vs, ∀ k, x.ownBlock = some k → k < ww0.heap.size := fun x hx k hk => (RR.lts.2 x hx k hk).2
        have np : p3 < ww0.heap.size := VV.lt
        replace RR := RR.below bn
        replace VV := VV.below bn
        replace P3 := P3.below bn
        replace G := grown_alloc G (.cells #[] 5)
        have hz1 := bn.size
        refine hK.out _ _ N1 (fun hHeld => ?_)
        clear hK K hHeld bn N
        try simp only [Act.put, List.setIfInBounds_toArray, List.set_cons_zero, List.set_cons_succ]
        generalize hz9 : ww0.heap.size = z9 at *
        generalize ww0.alloc (.cells #[] 5) = ww1 at *
        refine wpAnyH_ready (rs := [15]) (by kernel_rfl) (by simp) (AllReadyH.cons (by simp only [List.getElem?_toArray, List.getElem?_cons_succ, List.getElem?_cons_zero]; exact rfl) (fun K hK => ?_) AllReadyH.nil)
        refine wp_append_at (.tmp 25) (.tmp 31) 22 rfl W1.heap.size 5 i8 (.int .u8 0) 1 1 Tryz.underlying22 hi8 hy0 hy1 hy2 rfl (by decide) (.slice (some ⟨z9, 0, none⟩) 0 0) 0 [] rfl RE ad3 ds.length _ (ds.map (Value.int .u8)) rfl (by simp) P3.seesB.newsA (ones8 _) (by unfold maxLen; omega) (by omega) (by omega) ?_
        intro u2 w2 R2 G2 A2
        rw [Nat.zero_add, List.nil_append] at R2
        obtain ⟨k2, hk2, kz2⟩ : ∃ k, u2.ownBlock = some k ∧ z9 ≤ k := A2.elim (fun e => ⟨_, e, Nat.le_refl _⟩) (fun e => ⟨_, e, by omega⟩)
        obtain ⟨c5, rfl⟩ := RowB.someOf (bs := ds) R2 hk2
        replace R2 : RowB W1.heap.size w2 (.slice (some ⟨k2, 0, none⟩) ds.length c5) ds := R2
        have G2' : ww1.grownBy w2 (some z9) := G2
        replace RR := RR.kept G2' (fun k hk e => by have := nq k hk; injection e with e; omega) (fun x hx k hk e => by have := nr x hx k hk; injection e with e; omega)
        replace VV := VV.grown G2' (by omega)
        have N2 : _ ∧ _ ∧ _ := ⟨cell_drawnD G2' N1.1 (by omega), cell_drawnD G2' N1.2.1 (by omega), cell_drawnD G2' N1.2.2 (by omega)⟩
        replace G : W1.grownBy w2 (some p3) := ⟨G2'.os.trans G.os, G2'.tape.trans G.tape, G2'.output.trans G.output, Nat.le_trans G.size G2'.size, fun i hi hr => (G2'.block i (Nat.lt_of_lt_of_le hi G.size) (fun e => by injection e with e; omega)).trans (G.block i hi hr)⟩
        have hz2 := G2'.size
        refine hK.out _ _ N2 (fun hHeld => ?_)
        clear hK K hHeld G2 A2 N1 RE P3 hk2
        try simp only [Act.put, List.setIfInBounds_toArray, List.set_cons_zero, List.set_cons_succ]
        refine takeW (i := 16) (by simp only [List.getElem?_toArray, List.getElem?_cons_succ, List.getElem?_cons_zero]; exact rfl) (by kernel_rfl) (by kernel_rfl) (by kernel_rfl) (by exact fun _ _ _ h => h) (by rfl) (by intro wq hSw; go_simp <;> with_reducible rfl) (by assumption) ?_
        try simp only [Act.put, List.setIfInBounds_toArray, List.set_cons_zero, List.set_cons_succ]
        refine wpAnyH_ready (rs := [17]) (by kernel_rfl) (by simp) (AllReadyH.cons (by simp only [List.getElem?_toArray, List.getElem?_cons_succ, List.getElem?_cons_zero]; exact rfl) (fun K hK => ?_) AllReadyH.nil)
        go_simp
        have bn := below1 w2 (.cells #[.int .i64 x, (.slice (some ⟨k2, 0, none⟩) ds.length c5)] 55)
        have NW := two_newW w2 55 (.int .i64 x) (.slice (some ⟨k2, 0, none⟩) ds.length c5)
        have N3 : _ ∧ _ ∧ _ := ⟨bat bn N2.1, bat bn N2.2.1, bat bn N2.2.2⟩
        have ulo : k2 < w2.heap.size := (World.ownsRow.lt R2 k2 rfl).2
        replace RR := RR.below bn
        replace VV := VV.below bn
        replace R2 := R2.below bn
        replace G := grown_alloc G (.cells #[.int .i64 x, (.slice (some ⟨k2, 0, none⟩) ds.length c5)] 55)
        have hz3 := bn.size
        refine hK.out _ _ N3 (fun hHeld => ?_)
        clear hK K hHeld bn N2
        try simp only [Act.put, List.setIfInBounds_toArray, List.set_cons_zero, List.set_cons_succ]
        generalize hzA : w2.heap.size = zA at *
        generalize w2.alloc (.cells #[.int .i64 x, (.slice (some ⟨k2, 0, none⟩) ds.length c5)] 55) = ww3 at *
        refine wpAnyH_ready (rs := [18]) (by kernel_rfl) (by simp) (AllReadyH.cons (by simp only [List.getElem?_toArray, List.getElem?_cons_succ, List.getElem?_cons_zero]; exact rfl) (fun K hK => ?_) AllReadyH.nil)
        refine wp_append_at (.tmp 18) (.tmp 34) 29 rfl W1.heap.size 55 iW (.agg #[.int .i64 0, .slice none 0 0]) 2 32 Tryz.underlying29 hiW hW0 hW1 hW2 rfl (by decide) (.slice va j vc) vs.length (wrC (qs.take j) vs) rfl RR.own ⟨zA, 0, none⟩ 1 _ [.int .i64 x, (.slice (some ⟨k2, 0, none⟩) ds.length c5)] rfl rfl NW (by intro y hy; simp at hy; rcases hy with rfl | rfl <;> rfl) (by unfold maxLen; have := hvl.out; omega) (by have := hvl.out; omega) (by omega) ?_
        intro v7 w8 R7 G7 A7
        have nv7 : v7.ownBlock ≠ some p3 := fun e => by have := (World.ownsRow.lt R7 _ e).1; omega
        have RN := QuR.snoc (q := (x, ds)) RR R2 (fun k hk => ⟨fun e => by have := nq k e; injection hk with hk; dsimp only at hk; omega, fun e => by
          injection hk with hk
          dsimp only at hk
          rcases A7 with e7 | e7
          · rw [e7] at e; have := nq k e; omega
          · rw [e7] at e; injection e with e; omega, fun y hy e => by have := nr y hy k e; injection hk with hk; dsimp only at hk; omega⟩) R7 G7 A7
        have vb : ∀ i, i < W1.heap.size → some i ≠ (Value.slice va j vc).ownBlock := fun i hi e => by have := (RR.lts.1 i e.symm).1; omega
        have VN := Ext2.boxD G7 VV (fun e => vb p3 (by omega) e.symm)
        replace G : W1.grownBy w8 (some p3) := ⟨G7.os.trans G.os, G7.tape.trans G.tape, G7.output.trans G.output, Nat.le_trans G.size G7.size, fun i hi hr => (G7.block i (Nat.lt_of_lt_of_le hi G.size) (vb i hi)).trans (G.block i hi hr)⟩
        have N7 : _ ∧ _ ∧ _ := ⟨(World.cell?_of_block (a := ⟨w.heap.size, 1, none⟩) (G7.block w.heap.size (by omega) (vb w.heap.size (by omega)))).trans N3.1, (World.cell?_of_block (a := ⟨b, j * 2, none⟩) (G7.block b (by omega) (vb b (by omega)))).trans N3.2.1, (World.cell?_of_block (a := ⟨b, j * 2 + 1, none⟩) (G7.block b (by omega) (vb b (by omega)))).trans N3.2.2⟩
        obtain ⟨a7, c9, rfl, _, _⟩ := RN.shape
        rw [List.length_append, List.length_singleton, hlq.out] at RN
        have lv : (List.take j qs ++ [(x, ds)]).length = j + 1 := by rw [List.length_append, List.length_singleton, hlq.out]
        rw [lv] at nv7 ⊢
        refine hK.out _ _ N7 (fun hHeld => ?_)
        clear hK K hHeld G7 A7 R7 RR VV N3 R2 NW lv
        try simp only [Act.put, List.setIfInBounds_toArray, List.set_cons_zero, List.set_cons_succ]
        refine takeW (i := 19) (by simp only [List.getElem?_toArray, List.getElem?_cons_succ, List.getElem?_cons_zero]; exact rfl) (by kernel_rfl) (by kernel_rfl) (by kernel_rfl) (by exact fun _ _ _ h => h) (by rfl) (by intro wq hSw; go_simp <;> with_reducible rfl) (by assumption) ?_
        try simp only [Act.put, List.setIfInBounds_toArray, List.set_cons_zero, List.set_cons_succ]
        refine wpAnyH_ready (rs := [20]) (by kernel_rfl) (by simp) (AllReadyH.cons (by simp only [List.getElem?_toArray, List.getElem?_cons_succ, List.getElem?_cons_zero]; exact rfl) (fun K hK => ?_) AllReadyH.nil)
        have yf := VN.fr 1
        have yc := VN.c1
        go_simp
        have gq : w8.grownBy (w8.setCell ⟨p3, 1, none⟩ (.slice a7 (j + 1) c9)) (some p3) := grownBy_setCell (p := ⟨p3, 1, none⟩) (grownBy_refl _ _) rfl _
        have RS := RN.kept gq (fun k hk e => by have := (RN.lts.1 k hk).1; injection e with e; omega) (fun y hy k hk e => by have := (RN.lts.2 y hy k hk).1; injection e with e; omega)
        have VS := VN.set1D (.slice a7 (j + 1) c9)
        have GS := grownBy_trans G gq
        have SS : Hid (SomeV (vs ++ [(.slice (some ⟨k2, 0, none⟩) ds.length c5)])) := SV.out.snoc ⟨_, _, _, rfl⟩
        have N9 : _ ∧ _ ∧ _ := ⟨cell_drawnD gq N7.1 (by omega), cell_drawnD gq N7.2.1 (by omega), cell_drawnD gq N7.2.2 (by omega)⟩
        refine hK.out _ _ N9 (fun hHeld => ?_)
        clear hK K hHeld gq RN VN G N7 yf yc
        try simp only [Act.put, List.setIfInBounds_toArray, List.set_cons_zero, List.set_cons_succ]
        refine wpAnyH_done (by kernel_rfl) ?_ _
        go_wp2
        go_roundw
        case rel => exact ⟨j + 1, _, _, by omega, by go_num, (by rw [TK.out]; exact RS), SS, VS, GS⟩
        case measure => simp [intOf]; omega
      · go_simp
        have bn := below1 ww0 (.cells #[] 5)
        have RE := RowB.empty ww0 (base := W1.heap.size) hzd
        have N1 : _ ∧ _ ∧ _ := ⟨bat bn N.1, bat bn N.2.1, bat bn N.2.2⟩
        have nq : ∀ k, (Value.slice va j vc).ownBlock = some k → k < ww0.heap.size := fun k hk => (RR.lts.1 k hk).2
        have nr : ∀ x ∈ vs, ∀ k, x.ownBlock = some k → k < ww0.heap.size := fun x hx k hk => (RR.lts.2 x hx k hk).2
        have np : p3 < ww0.heap.size := VV.lt
        replace RR := RR.below bn
        replace VV := VV.below bn
        replace P3 := P3.below bn
        replace G := grown_alloc G (.cells #[] 5)
        have hz1 := bn.size
        refine hK.out _ _ N1 (fun hHeld => ?_)
        clear hK K hHeld bn N
        try simp only [Act.put, List.setIfInBounds_toArray, List.set_cons_zero, List.set_cons_succ]
        generalize hz9 : ww0.heap.size = z9 at *
        generalize ww0.alloc (.cells #[] 5) = ww1 at *
        refine wpAnyH_ready (rs := [1, 15]) (by kernel_rfl) (by simp) (AllReadyH.cons (by simp only [List.getElem?_toArray, List.getElem?_cons_succ, List.getElem?_cons_zero]; exact rfl) (fun K hK => ?_) (AllReadyH.cons (by simp only [List.getElem?_toArray, List.getElem?_cons_succ, List.getElem?_cons_zero]; exact rfl) (fun K hK => ?_) AllReadyH.nil))
        · have y1 := VV.c1
          go_simp
          refine hK.out _ _ N1 (fun hHeld => ?_)
          clear hK K hHeld y1
          try simp only [Act.put, List.setIfInBounds_toArray, List.set_cons_zero, List.set_cons_succ]
          refine wpAnyH_ready (rs := [15]) (by kernel_rfl) (by simp) (AllReadyH.cons (by simp only [List.getElem?_toArray, List.getElem?_cons_succ, List.getElem?_cons_zero]; exact rfl) (fun K hK => ?_) AllReadyH.nil)
          refine wp_append_at (.tmp 25) (.tmp 31) 22 rfl W1.heap.size 5 i8 (.int .u8 0) 1 1 Tryz.underlying22 hi8 hy0 hy1 hy2 rfl (by decide) (.slice (some ⟨z9, 0, none⟩) 0 0) 0 [] rfl RE ad3 ds.length _ (ds.map (Value.int .u8)) rfl (by simp) P3.seesB.newsA (ones8 _) (by unfold maxLen; omega) (by omega) (by omega) ?_
          intro u2 w2 R2 G2 A2
          rw [Nat.zero_add, List.nil_append] at R2
          obtain ⟨k2, hk2, kz2⟩ : ∃ k, u2.ownBlock = some k ∧ z9 ≤ k := A2.elim (fun e => ⟨_, e, Nat.le_refl _⟩) (fun e => ⟨_, e, by omega⟩)
          obtain ⟨c5, rfl⟩ := RowB.someOf (bs := ds) R2 hk2
          replace R2 : RowB W1.heap.size w2 (.slice (some ⟨k2, 0, none⟩) ds.length c5) ds := R2
          have G2' : ww1.grownBy w2 (some z9) := G2
          replace RR := RR.kept G2' (fun k hk e => by have := nq k hk; injection e with e; omega) (fun x hx k hk e => by have := nr x hx k hk; injection e with e; omega)
          replace VV := VV.grown G2' (by omega)
          have N2 : _ ∧ _ ∧ _ := ⟨cell_drawnD G2' N1.1 (by omega), cell_drawnD G2' N1.2.1 (by omega), cell_drawnD G2' N1.2.2 (by omega)⟩
          replace G : W1.grownBy w2 (some p3) := ⟨G2'.os.trans G.os, G2'.tape.trans G.tape, G2'.output.trans G.output, Nat.le_trans G.size G2'.size, fun i hi hr => (G2'.block i (Nat.lt_of_lt_of_le hi G.size) (fun e => by injection e with e; omega)).trans (G.block i hi hr)⟩
          have hz2 := G2'.size
          refine hK.out _ _ N2 (fun hHeld => ?_)
          clear hK K hHeld G2 A2 N1 RE P3 hk2
          try simp only [Act.put, List.setIfInBounds_toArray, List.set_cons_zero, List.set_cons_succ]
          refine takeW (i := 16) (by simp only [List.getElem?_toArray, List.getElem?_cons_succ, List.getElem?_cons_zero]; exact rfl) (by kernel_rfl) (by kernel_rfl) (by kernel_rfl) (by exact fun _ _ _ h => h) (by rfl) (by intro wq hSw; go_simp <;> with_reducible rfl) (by assumption) ?_
          try simp only [Act.put, List.setIfInBounds_toArray, List.set_cons_zero, List.set_cons_succ]
          refine wpAnyH_ready (rs := [17]) (by kernel_rfl) (by simp) (AllReadyH.cons (by simp only [List.getElem?_toArray, List.getElem?_cons_succ, List.getElem?_cons_zero]; exact rfl) (fun K hK => ?_) AllReadyH.nil)
          go_simp
          have bn := below1 w2 (.cells #[.int .i64 x, (.slice (some ⟨k2, 0, none⟩) ds.length c5)] 55)
          have NW := two_newW w2 55 (.int .i64 x) (.slice (some ⟨k2, 0, none⟩) ds.length c5)
          have N3 : _ ∧ _ ∧ _ := ⟨bat bn N2.1, bat bn N2.2.1, bat bn N2.2.2⟩
          have ulo : k2 < w2.heap.size := (World.ownsRow.lt R2 k2 rfl).2
          replace RR := RR.below bn
          replace VV := VV.below bn
          replace R2 := R2.below bn
          replace G := grown_alloc G (.cells #[.int .i64 x, (.slice (some ⟨k2, 0, none⟩) ds.length c5)] 55)
          have hz3 := bn.size
          refine hK.out _ _ N3 (fun hHeld => ?_)
          clear hK K hHeld bn N2
          try simp only [Act.put, List.setIfInBounds_toArray, List.set_cons_zero, List.set_cons_succ]
          generalize hzA : w2.heap.size = zA at *
          generalize w2.alloc (.cells #[.int .i64 x, (.slice (some ⟨k2, 0, none⟩) ds.length c5)] 55) = ww3 at *
          refine wpAnyH_ready (rs := [18]) (by kernel_rfl) (by simp) (AllReadyH.cons (by simp only [List.getElem?_toArray, List.getElem?_cons_succ, List.getElem?_cons_zero]; exact rfl) (fun K hK => ?_) AllReadyH.nil)
          refine wp_append_at (.tmp 18) (.tmp 34) 29 rfl W1.heap.size 55 iW (.agg #[.int .i64 0, .slice none 0 0]) 2 32 Tryz.underlying29 hiW hW0 hW1 hW2 rfl (by decide) (.slice va j vc) vs.length (wrC (qs.take j) vs) rfl RR.own ⟨zA, 0, none⟩ 1 _ [.int .i64 x, (.slice (some ⟨k2, 0, none⟩) ds.length c5)] rfl rfl NW (by intro y hy; simp at hy; rcases hy with rfl | rfl <;> rfl) (by unfold maxLen; have := hvl.out; omega) (by have := hvl.out; omega) (by omega) ?_
          intro v7 w8 R7 G7 A7
          have nv7 : v7.ownBlock ≠ some p3 := fun e => by have := (World.ownsRow.lt R7 _ e).1; omega
          have RN := QuR.snoc (q := (x, ds)) RR R2 (fun k hk => ⟨fun e => by have := nq k e; injection hk with hk; dsimp only at hk; omega, fun e => by
            injection hk with hk
            dsimp only at hk
            rcases A7 with e7 | e7
            · rw [e7] at e; have := nq k e; omega
            · rw [e7] at e; injection e with e; omega, fun y hy e => by have := nr y hy k e; injection hk with hk; dsimp only at hk; omega⟩) R7 G7 A7
          have vb : ∀ i, i < W1.heap.size → some i ≠ (Value.slice va j vc).ownBlock := fun i hi e => by have := (RR.lts.1 i e.symm).1; omega
          have VN := Ext2.boxD G7 VV (fun e => vb p3 (by omega) e.symm)
          replace G : W1.grownBy w8 (some p3) := ⟨G7.os.trans G.os, G7.tape.trans G.tape, G7.output.trans G.output, Nat.le_trans G.size G7.size, fun i hi hr => (G7.block i (Nat.lt_of_lt_of_le hi G.size) (vb i hi)).trans (G.block i hi hr)⟩
          have N7 : _ ∧ _ ∧ _ := ⟨(World.cell?_of_block (a := ⟨w.heap.size, 1, none⟩) (G7.block w.heap.size (by omega) (vb w.heap.size (by omega)))).trans N3.1, (World.cell?_of_block (a := ⟨b, j * 2, none⟩) (G7.block b (by omega) (vb b (by omega)))).trans N3.2.1, (World.cell?_of_block (a := ⟨b, j * 2 + 1, none⟩) (G7.block b (by omega) (vb b (by omega)))).trans N3.2.2⟩
          obtain ⟨a7, c9, rfl, _, _⟩ := RN.shape
          rw [List.length_append, List.length_singleton, hlq.out] at RN
          have lv : (List.take j qs ++ [(x, ds)]).length = j + 1 := by rw [List.length_append, List.length_singleton, hlq.out]
          rw [lv] at nv7 ⊢
          refine hK.out _ _ N7 (fun hHeld => ?_)
          clear hK K hHeld G7 A7 R7 RR VV N3 R2 NW lv
          try simp only [Act.put, List.setIfInBounds_toArray, List.set_cons_zero, List.set_cons_succ]
          refine takeW (i := 19) (by simp only [List.getElem?_toArray, List.getElem?_cons_succ, List.getElem?_cons_zero]; exact rfl) (by kernel_rfl) (by kernel_rfl) (by kernel_rfl) (by exact fun _ _ _ h => h) (by rfl) (by intro wq hSw; go_simp <;> with_reducible rfl) (by assumption) ?_
          try simp only [Act.put, List.setIfInBounds_toArray, List.set_cons_zero, List.set_cons_succ]
          refine wpAnyH_ready (rs := [20]) (by kernel_rfl) (by simp) (AllReadyH.cons (by simp only [List.getElem?_toArray, List.getElem?_cons_succ, List.getElem?_cons_zero]; exact rfl) (fun K hK => ?_) AllReadyH.nil)
          have yf := VN.fr 1
          have yc := VN.c1
          go_simp
          have gq : w8.grownBy (w8.setCell ⟨p3, 1, none⟩ (.slice a7 (j + 1) c9)) (some p3) := grownBy_setCell (p := ⟨p3, 1, none⟩) (grownBy_refl _ _) rfl _
          have RS := RN.kept gq (fun k hk e => by have := (RN.lts.1 k hk).1; injection e with e; omega) (fun y hy k hk e => by have := (RN.lts.2 y hy k hk).1; injection e with e; omega)
          have VS := VN.set1D (.slice a7 (j + 1) c9)
          have GS := grownBy_trans G gq
          have SS : Hid (SomeV (vs ++ [(.slice (some ⟨k2, 0, none⟩) ds.length c5)])) := SV.out.snoc ⟨_, _, _, rfl⟩
          have N9 : _ ∧ _ ∧ _ := ⟨cell_drawnD gq N7.1 (by omega), cell_drawnD gq N7.2.1 (by omega), cell_drawnD gq N7.2.2 (by omega)⟩
          refine hK.out _ _ N9 (fun hHeld => ?_)
          clear hK K hHeld gq RN VN G N7 yf yc
          try simp only [Act.put, List.setIfInBounds_toArray, List.set_cons_zero, List.set_cons_succ]
          refine wpAnyH_done (by kernel_rfl) ?_ _
          go_wp2
          go_roundw
          case rel => exact ⟨j + 1, _, _, by omega, by go_num, (by rw [TK.out]; exact RS), SS, VS, GS⟩
          case measure => simp [intOf]; omega
        · refine wp_append_at (.tmp 25) (.tmp 31) 22 rfl W1.heap.size 5 i8 (.int .u8 0) 1 1 Tryz.underlying22 hi8 hy0 hy1 hy2 rfl (by decide) (.slice (some ⟨z9, 0, none⟩) 0 0) 0 [] rfl RE ad3 ds.length _ (ds.map (Value.int .u8)) rfl (by simp) P3.seesB.newsA (ones8 _) (by unfold maxLen; omega) (by omega) (by omega) ?_
          intro u2 w2 R2 G2 A2
          rw [Nat.zero_add, List.nil_append] at R2
          obtain ⟨k2, hk2, kz2⟩ : ∃ k, u2.ownBlock = some k ∧ z9 ≤ k := A2.elim (fun e => ⟨_, e, Nat.le_refl _⟩) (fun e => ⟨_, e, by omega⟩)
          obtain ⟨c5, rfl⟩ := RowB.someOf (bs := ds) R2 hk2
          replace R2 : RowB W1.heap.size w2 (.slice (some ⟨k2, 0, none⟩) ds.length c5) ds := R2
          have G2' : ww1.grownBy w2 (some z9) := G2
          replace RR := RR.kept G2' (fun k hk e => by have := nq k hk; injection e with e; omega) (fun x hx k hk e => by have := nr x hx k hk; injection e with e; omega)
          replace VV := VV.grown G2' (by omega)
          have N2 : _ ∧ _ ∧ _ := ⟨cell_drawnD G2' N1.1 (by omega), cell_drawnD G2' N1.2.1 (by omega), cell_drawnD G2' N1.2.2 (by omega)⟩
          replace G : W1.grownBy w2 (some p3) := ⟨G2'.os.trans G.os, G2'.tape.trans G.tape, G2'.output.trans G.output, Nat.le_trans G.size G2'.size, fun i hi hr => (G2'.block i (Nat.lt_of_lt_of_le hi G.size) (fun e => by injection e with e; omega)).trans (G.block i hi hr)⟩
          have hz2 := G2'.size
          refine hK.out _ _ N2 (fun hHeld => ?_)
          clear hK K hHeld G2 A2 N1 RE P3 hk2
          try simp only [Act.put, List.setIfInBounds_toArray, List.set_cons_zero, List.set_cons_succ]
          refine takeW (i := 16) (by simp only [List.getElem?_toArray, List.getElem?_cons_succ, List.getElem?_cons_zero]; exact rfl) (by kernel_rfl) (by kernel_rfl) (by kernel_rfl) (by exact fun _ _ _ h => h) (by rfl) (by intro wq hSw; go_simp <;> with_reducible rfl) (by assumption) ?_
          try simp only [Act.put, List.setIfInBounds_toArray, List.set_cons_zero, List.set_cons_succ]
          refine wpAnyH_ready (rs := [1, 17]) (by kernel_rfl) (by simp) (AllReadyH.cons (by simp only [List.getElem?_toArray, List.getElem?_cons_succ, List.getElem?_cons_zero]; exact rfl) (fun K hK => ?_) (AllReadyH.cons (by simp only [List.getElem?_toArray, List.getElem?_cons_succ, List.getElem?_cons_zero]; exact rfl) (fun K hK => ?_) AllReadyH.nil))
          · have y1 := VV.c1
            go_simp
            refine hK.out _ _ N2 (fun hHeld => ?_)
            clear hK K hHeld y1
            try simp only [Act.put, List.setIfInBounds_toArray, List.set_cons_zero, List.set_cons_succ]
            refine wpAnyH_ready (rs := [17]) (by kernel_rfl) (by simp) (AllReadyH.cons (by simp only [List.getElem?_toArray, List.getElem?_cons_succ, List.getElem?_cons_zero]; exact rfl) (fun K hK => ?_) AllReadyH.nil)
            go_simp
            have bn := below1 w2 (.cells #[.int .i64 x, (.slice (some ⟨k2, 0, none⟩) ds.length c5)] 55)
            have NW := two_newW w2 55 (.int .i64 x) (.slice (some ⟨k2, 0, none⟩) ds.length c5)
            have N3 : _ ∧ _ ∧ _ := ⟨bat bn N2.1, bat bn N2.2.1, bat bn N2.2.2⟩
            have ulo : k2 < w2.heap.size := (World.ownsRow.lt R2 k2 rfl).2
            replace RR := RR.below bn
            replace VV := VV.below bn
            replace R2 := R2.below bn
            replace G := grown_alloc G (.cells #[.int .i64 x, (.slice (some ⟨k2, 0, none⟩) ds.length c5)] 55)
            have hz3 := bn.size
            refine hK.out _ _ N3 (fun hHeld => ?_)
            clear hK K hHeld bn N2
            try simp only [Act.put, List.setIfInBounds_toArray, List.set_cons_zero, List.set_cons_succ]
            generalize hzA : w2.heap.size = zA at *
            generalize w2.alloc (.cells #[.int .i64 x, (.slice (some ⟨k2, 0, none⟩) ds.length c5)] 55) = ww3 at *
            refine wpAnyH_ready (rs := [18]) (by kernel_rfl) (by simp) (AllReadyH.cons (by simp only [List.getElem?_toArray, List.getElem?_cons_succ, List.getElem?_cons_zero]; exact rfl) (fun K hK => ?_) AllReadyH.nil)
            refine wp_append_at (.tmp 18) (.tmp 34) 29 rfl W1.heap.size 55 iW (.agg #[.int .i64 0, .slice none 0 0]) 2 32 Tryz.underlying29 hiW hW0 hW1 hW2 rfl (by decide) (.slice va j vc) vs.length (wrC (qs.take j) vs) rfl RR.own ⟨zA, 0, none⟩ 1 _ [.int .i64 x, (.slice (some ⟨k2, 0, none⟩) ds.length c5)] rfl rfl NW (by intro y hy; simp at hy; rcases hy with rfl | rfl <;> rfl) (by unfold maxLen; have := hvl.out; omega) (by have := hvl.out; omega) (by omega) ?_
            intro v7 w8 R7 G7 A7
            have nv7 : v7.ownBlock ≠ some p3 := fun e => by have := (World.ownsRow.lt R7 _ e).1; omega
            have RN := QuR.snoc (q := (x, ds)) RR R2 (fun k hk => ⟨fun e => by have := nq k e; injection hk with hk; dsimp only at hk; omega, fun e => by
              injection hk with hk
              dsimp only at hk
              rcases A7 with e7 | e7
              · rw [e7] at e; have := nq k e; omega
              · rw [e7] at e; injection e with e; omega, fun y hy e => by have := nr y hy k e; injection hk with hk; dsimp only at hk; omega⟩) R7 G7 A7
            have vb : ∀ i, i < W1.heap.size → some i ≠ (Value.slice va j vc).ownBlock := fun i hi e => by have := (RR.lts.1 i e.symm).1; omega
            have VN := Ext2.boxD G7 VV (fun e => vb p3 (by omega) e.symm)
            replace G : W1.grownBy w8 (some p3) := ⟨G7.os.trans G.os, G7.tape.trans G.tape, G7.output.trans G.output, Nat.le_trans G.size G7.size, fun i hi hr => (G7.block i (Nat.lt_of_lt_of_le hi G.size) (vb i hi)).trans (G.block i hi hr)⟩
            have N7 : _ ∧ _ ∧ _ := ⟨(World.cell?_of_block (a := ⟨w.heap.size, 1, none⟩) (G7.block w.heap.size (by omega) (vb w.heap.size (by omega)))).trans N3.1, (World.cell?_of_block (a := ⟨b, j * 2, none⟩) (G7.block b (by omega) (vb b (by omega)))).trans N3.2.1, (World.cell?_of_block (a := ⟨b, j * 2 + 1, none⟩) (G7.block b (by omega) (vb b (by omega)))).trans N3.2.2⟩
            obtain ⟨a7, c9, rfl, _, _⟩ := RN.shape
            rw [List.length_append, List.length_singleton, hlq.out] at RN
            have lv : (List.take j qs ++ [(x, ds)]).length = j + 1 := by rw [List.length_append, List.length_singleton, hlq.out]
            rw [lv] at nv7 ⊢
            refine hK.out _ _ N7 (fun hHeld => ?_)
            clear hK K hHeld G7 A7 R7 RR VV N3 R2 NW lv
            try simp only [Act.put, List.setIfInBounds_toArray, List.set_cons_zero, List.set_cons_succ]
            refine takeW (i := 19) (by simp only [List.getElem?_toArray, List.getElem?_cons_succ, List.getElem?_cons_zero]; exact rfl) (by kernel_rfl) (by kernel_rfl) (by kernel_rfl) (by exact fun _ _ _ h => h) (by rfl) (by intro wq hSw; go_simp <;> with_reducible rfl) (by assumption) ?_
            try simp only [Act.put, List.setIfInBounds_toArray, List.set_cons_zero, List.set_cons_succ]
            refine wpAnyH_ready (rs := [20]) (by kernel_rfl) (by simp) (AllReadyH.cons (by simp only [List.getElem?_toArray, List.getElem?_cons_succ, List.getElem?_cons_zero]; exact rfl) (fun K hK => ?_) AllReadyH.nil)
            have yf := VN.fr 1
            have yc := VN.c1
            go_simp
            have gq : w8.grownBy (w8.setCell ⟨p3, 1, none⟩ (.slice a7 (j + 1) c9)) (some p3) := grownBy_setCell (p := ⟨p3, 1, none⟩) (grownBy_refl _ _) rfl _
            have RS := RN.kept gq (fun k hk e => by have := (RN.lts.1 k hk).1; injection e with e; omega) (fun y hy k hk e => by have := (RN.lts.2 y hy k hk).1; injection e with e; omega)
            have VS := VN.set1D (.slice a7 (j + 1) c9)
            have GS := grownBy_trans G gq
            have SS : Hid (SomeV (vs ++ [(.slice (some ⟨k2, 0, none⟩) ds.length c5)])) := SV.out.snoc ⟨_, _, _, rfl⟩
            have N9 : _ ∧ _ ∧ _ := ⟨cell_drawnD gq N7.1 (by omega), cell_drawnD gq N7.2.1 (by omega), cell_drawnD gq N7.2.2 (by omega)⟩
            refine hK.out _ _ N9 (fun hHeld => ?_)
            clear hK K hHeld gq RN VN G N7 yf yc
            try simp only [Act.put, List.setIfInBounds_toArray, List.set_cons_zero, List.set_cons_succ]
            refine wpAnyH_done (by kernel_rfl) ?_ _
            go_wp2
            go_roundw
            case rel => exact ⟨j + 1, _, _, by omega, by go_num, (by rw [TK.out]; exact RS), SS, VS, GS⟩
            case measure => simp [intOf]; omega
          · go_simp
            have bn := below1 w2 (.cells #[.int .i64 x, (.slice (some ⟨k2, 0, none⟩) ds.length c5)] 55)
            have NW := two_newW w2 55 (.int .i64 x) (.slice (some ⟨k2, 0, none⟩) ds.length c5)
            have N3 : _ ∧ _ ∧ _ := ⟨bat bn N2.1, bat bn N2.2.1, bat bn N2.2.2⟩
            have ulo : k2 < w2.heap.size := (World.ownsRow.lt R2 k2 rfl).2
            replace RR := RR.below bn
            replace VV := VV.below bn
            replace R2 := R2.below bn
            replace G := grown_alloc G (.cells #[.int .i64 x, (.slice (some ⟨k2, 0, none⟩) ds.length c5)] 55)
            have hz3 := bn.size
            refine hK.out _ _ N3 (fun hHeld => ?_)
            clear hK K hHeld bn N2
            try simp only [Act.put, List.setIfInBounds_toArray, List.set_cons_zero, List.set_cons_succ]
            generalize hzA : w2.heap.size = zA at *
            generalize w2.alloc (.cells #[.int .i64 x, (.slice (some ⟨k2, 0, none⟩) ds.length c5)] 55) = ww3 at *
            refine wpAnyH_ready (rs := [1]) (by kernel_rfl) (by simp) (AllReadyH.cons (by simp only [List.getElem?_toArray, List.getElem?_cons_succ, List.getElem?_cons_zero]; exact rfl) (fun K hK => ?_) AllReadyH.nil)
            have y1 := VV.c1
            go_simp
            refine hK.out _ _ N3 (fun hHeld => ?_)
            clear hK K hHeld y1
            try simp only [Act.put, List.setIfInBounds_toArray, List.set_cons_zero, List.set_cons_succ]
            refine wpAnyH_ready (rs := [18]) (by kernel_rfl) (by simp) (AllReadyH.cons (by simp only [List.getElem?_toArray, List.getElem?_cons_succ, List.getElem?_cons_zero]; exact rfl) (fun K hK => ?_) AllReadyH.nil)
            refine wp_append_at (.tmp 18) (.tmp 34) 29 rfl W1.heap.size 55 iW (.agg #[.int .i64 0, .slice none 0 0]) 2 32 Tryz.underlying29 hiW hW0 hW1 hW2 rfl (by decide) (.slice va j vc) vs.length (wrC (qs.take j) vs) rfl RR.own ⟨zA, 0, none⟩ 1 _ [.int .i64 x, (.slice (some ⟨k2, 0, none⟩) ds.length c5)] rfl rfl NW (by intro y hy; simp at hy; rcases hy with rfl | rfl <;> rfl) (by unfold maxLen; have := hvl.out; omega) (by have := hvl.out; omega) (by omega) ?_
            intro v7 w8 R7 G7 A7
            have nv7 : v7.ownBlock ≠ some p3 := fun e => by have := (World.ownsRow.lt R7 _ e).1; omega
            have RN := QuR.snoc (q := (x, ds)) RR R2 (fun k hk => ⟨fun e => by have := nq k e; injection hk with hk; dsimp only at hk; omega, fun e => by
              injection hk with hk
              dsimp only at hk
              rcases A7 with e7 | e7
              · rw [e7] at e; have := nq k e; omega
              · rw [e7] at e; injection e with e; omega, fun y hy e => by have := nr y hy k e; injection hk with hk; dsimp only at hk; omega⟩) R7 G7 A7
            have vb : ∀ i, i < W1.heap.size → some i ≠ (Value.slice va j vc).ownBlock := fun i hi e => by have := (RR.lts.1 i e.symm).1; omega
            have VN := Ext2.boxD G7 VV (fun e => vb p3 (by omega) e.symm)
            replace G : W1.grownBy w8 (some p3) := ⟨G7.os.trans G.os, G7.tape.trans G.tape, G7.output.trans G.output, Nat.le_trans G.size G7.size, fun i hi hr => (G7.block i (Nat.lt_of_lt_of_le hi G.size) (vb i hi)).trans (G.block i hi hr)⟩
            have N7 : _ ∧ _ ∧ _ := ⟨(World.cell?_of_block (a := ⟨w.heap.size, 1, none⟩) (G7.block w.heap.size (by omega) (vb w.heap.size (by omega)))).trans N3.1, (World.cell?_of_block (a := ⟨b, j * 2, none⟩) (G7.block b (by omega) (vb b (by omega)))).trans N3.2.1, (World.cell?_of_block (a := ⟨b, j * 2 + 1, none⟩) (G7.block b (by omega) (vb b (by omega)))).trans N3.2.2⟩
            obtain ⟨a7, c9, rfl, _, _⟩ := RN.shape
            rw [List.length_append, List.length_singleton, hlq.out] at RN
            have lv : (List.take j qs ++ [(x, ds)]).length = j + 1 := by rw [List.length_append, List.length_singleton, hlq.out]
            rw [lv] at nv7 ⊢
            refine hK.out _ _ N7 (fun hHeld => ?_)
            clear hK K hHeld G7 A7 R7 RR VV N3 R2 NW lv
            try simp only [Act.put, List.setIfInBounds_toArray, List.set_cons_zero, List.set_cons_succ]
            refine takeW (i := 19) (by simp only [List.getElem?_toArray, List.getElem?_cons_succ, List.getElem?_cons_zero]; exact rfl) (by kernel_rfl) (by kernel_rfl) (by kernel_rfl) (by exact fun _ _ _ h => h) (by rfl) (by intro wq hSw; go_simp <;> with_reducible rfl) (by assumption) ?_
            try simp only [Act.put, List.setIfInBounds_toArray, List.set_cons_zero, List.set_cons_succ]
            refine wpAnyH_ready (rs := [20]) (by kernel_rfl) (by simp) (AllReadyH.cons (by simp only [List.getElem?_toArray, List.getElem?_cons_succ, List.getElem?_cons_zero]; exact rfl) (fun K hK => ?_) AllReadyH.nil)
            have yf := VN.fr 1
            have yc := VN.c1
            go_simp
            have gq : w8.grownBy (w8.setCell ⟨p3, 1, none⟩ (.slice a7 (j + 1) c9)) (some p3) := grownBy_setCell (p := ⟨p3, 1, none⟩) (grownBy_refl _ _) rfl _
            have RS := RN.kept gq (fun k hk e => by have := (RN.lts.1 k hk).1; injection e with e; omega) (fun y hy k hk e => by have := (RN.lts.2 y hy k hk).1; injection e with e; omega)
            have VS := VN.set1D (.slice a7 (j + 1) c9)
            have GS := grownBy_trans G gq
            have SS : Hid (SomeV (vs ++ [(.slice (some ⟨k2, 0, none⟩) ds.length c5)])) := SV.out.snoc ⟨_, _, _, rfl⟩
            have N9 : _ ∧ _ ∧ _ := ⟨cell_drawnD gq N7.1 (by omega), cell_drawnD gq N7.2.1 (by omega), cell_drawnD gq N7.2.2 (by omega)⟩
            refine hK.out _ _ N9 (fun hHeld => ?_)
            clear hK K hHeld gq RN VN G N7 yf yc
            try simp only [Act.put, List.setIfInBounds_toArray, List.set_cons_zero, List.set_cons_succ]
            refine wpAnyH_done (by kernel_rfl) ?_ _
            go_wp2
            go_roundw
            case rel => exact ⟨j + 1, _, _, by omega, by go_num, (by rw [TK.out]; exact RS), SS, VS, GS⟩
            case measure => simp [intOf]; omega
    · obtain rfl : j = qs.length := by omega
      obtain ⟨y0, y1, _, _⟩ := id VV
      have VR := V2.grown G (by omega)
      have q0 := VR.c0
      have q1 := VR.c1
      have f0 := VR.fr 0
      have f1 := VR.fr 1
      obtain ⟨va, vc, rfl, vf, vm⟩ := RR.shape
      rw [List.take_length] at RR y1 vf
      have BF : Below w.heap.size w wr := B4.grown G B4.size (fun k hk => by injection hk with hk; omega)
      have RC := Box2.chain BF VR (.slice (some ⟨g7, 0, none⟩) bs.length c7) (.slice va qs.length vc)
      have gq : wr.grownBy ((wr.setCell ⟨w.heap.size + 1, 0, none⟩ (.slice (some ⟨g7, 0, none⟩) bs.length c7)).setCell ⟨w.heap.size + 1, 1, none⟩ (.slice va qs.length vc)) (some (w.heap.size + 1)) := grownBy_setCell (p := ⟨w.heap.size + 1, 1, none⟩) (grownBy_setCell (p := ⟨w.heap.size + 1, 0, none⟩) (grownBy_refl _ _) rfl _) rfl _
      have RS := RR.kept gq (fun k hk e => by have := (RR.lts.1 k hk).1; injection e with e; omega) (fun y hy k hk e => by have := (RR.lts.2 y hy k hk).1; injection e with e; omega)
      have R9 : RowB (w.heap.size + 2) wr (.slice (some ⟨g7, 0, none⟩) bs.length c7) bs := owns_kept' R8 G (fun k hk e => by injection e with e; injection hk with hk; dsimp only at hk; omega)
      have R10 := owns_kept' R9 gq (fun k hk e => by injection e with e; injection hk with hk; dsimp only at hk; omega)
      have DD : Hid (DkR w.heap.size _ (.slice (some ⟨g7, 0, none⟩) bs.length c7) (.slice va qs.length vc) vs bs qs) := ⟨row_base R10 (by omega), RS.base (by omega), fun k hk => by
        injection hk with hk
        dsimp only at hk
        exact ⟨fun e => by have := (RS.lts.1 k e).1; omega, fun u hu e => by have := (RS.lts.2 u hu k e).1; omega⟩⟩
      have r0 := (VR.put (.slice (some ⟨g7, 0, none⟩) bs.length c7) (.slice va qs.length vc)).c0
      have r1 := (VR.put (.slice (some ⟨g7, 0, none⟩) bs.length c7) (.slice va qs.length vc)).c1
      clear RR VV G gq VR BF RS R9 R10
      go_wp2
      exact bodyPost_ret (v := .agg #[.slice (some ⟨g7, 0, none⟩) bs.length c7, .slice va qs.length vc]) (by simp [results, Tryz.results18, go_sem, r0, r1]) rfl ⟨_, _, _, _, vs, rfl, DD.out, SV.out, RC⟩
end Go.Proofs.YtonbmeepfgejmaaGreatDoor
