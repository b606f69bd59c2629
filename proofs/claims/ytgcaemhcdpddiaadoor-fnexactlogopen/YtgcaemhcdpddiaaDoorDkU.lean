import Derived.Test.YtgcaemhcdpddiaaDoorQuR
import Derived.Test.YtgcaemhcdpddiaaDoorBase
import Derived.Test.YtgcaemhcdpddiaaDoorProg
import Derived.Deep.RegionHeld3
import Derived.Test.YtgcaemhcdpddiaaDoorDkS
/- Disks and boxes stay where but others were written. -/
namespace Go.Proofs.YtgcaemhcdpddiaaDoor
open Go.RowKit

theorem owns_under {lo b e size n : Nat} {w w' : World} {u : Value} {xs : List Value} (h : w.ownsRow lo e size u n xs) (hb : Below b w w') (nu : ∀ k, u.ownBlock = some k → k < b) : w'.ownsRow lo e size u n xs := by
  refine ⟨h.1, ?_⟩
  rcases h.2 with q2 | ⟨g, cap, cur, hv, q3, q4, q5⟩
  · exact .inl q2
  · exact .inr ⟨g, cap, cur, hv, q3, (hb.block g (nu g (by rw [hv]; rfl))).trans q4, q5⟩
theorem DkR.under {lo b : Nat} {w w' : World} {bv qv : Value} {vs : List Value} {bs : List Int} {qs : List Wr} (h : DkR lo w bv qv vs bs qs) (hb : Below b w w') (hs : Hid ((∀ k, bv.ownBlock = some k → k < b) ∧ (∀ k, qv.ownBlock = some k → k < b) ∧ ∀ u ∈ vs, ∀ k, u.ownBlock = some k → k < b)) : DkR lo w' bv qv vs bs qs :=
  ⟨owns_under h.row hb hs.out.1, h.que.under hb hs.out.2.1 hs.out.2.2, h.ap⟩
theorem DkR.tops {lo b : Nat} {w : World} {bv qv : Value} {vs : List Value} {bs : List Int} {qs : List Wr} (h : DkR lo w bv qv vs bs qs) (hb : w.heap.size ≤ b) : Hid ((∀ k, bv.ownBlock = some k → k < b) ∧ (∀ k, qv.ownBlock = some k → k < b) ∧ ∀ u ∈ vs, ∀ k, u.ownBlock = some k → k < b) :=
  ⟨fun k hk => Nat.lt_of_lt_of_le (h.lts.1 k hk).2 hb, fun k hk => Nat.lt_of_lt_of_le (h.lts.2.1 k hk).2 hb, fun u hu k hk => Nat.lt_of_lt_of_le (h.lts.2.2 u hu k hk).2 hb⟩
theorem Box2.underB {lo p b : Nat} {w w' : World} {x0 x1 : Value} (h : Box2 lo w p x0 x1) (hb : Below b w w') (hp : p < b) : Box2 lo w' p x0 x1 := by
  have e := hb.block p hp
  exact ⟨(World.cell?_of_block (a := ⟨p, 0, none⟩) e).trans h.c0, (World.cell?_of_block (a := ⟨p, 1, none⟩) e).trans h.c1, fun o => (World.frozen?_of_block (a := ⟨p, o, none⟩) e).trans (h.fr o), h.lo⟩
theorem Box2.butQ {lo p : Nat} {w w' : World} {x0 x1 : Value} {us : List Value} (h : Box2 lo w p x0 x1) (hb : ButQ us w w') (ne : ∀ u ∈ us, u.ownBlock ≠ some p) : Box2 lo w' p x0 x1 := by
  have e := hb.2 p h.lt ne
  exact ⟨(World.cell?_of_block (a := ⟨p, 0, none⟩) e).trans h.c0, (World.cell?_of_block (a := ⟨p, 1, none⟩) e).trans h.c1, fun o => (World.frozen?_of_block (a := ⟨p, o, none⟩) e).trans (h.fr o), h.lo⟩
/-- No block of a disk is one from b on. -/
theorem DkR.nots {lo p : Nat} {w : World} {bv qv : Value} {vs : List Value} {bs : List Int} {qs : List Wr} (h : DkR lo w bv qv vs bs qs) (hp : w.heap.size ≤ p ∨ p < lo) : Hid (∀ u ∈ (bv :: qv :: vs), u.ownBlock ≠ some p) := by
  intro u hu e
  have := h.lts
  rcases List.mem_cons.1 hu with rfl | hu
  · have := this.1 p e; omega
  · rcases List.mem_cons.1 hu with rfl | hu
    · have := this.2.1 p e; omega
    · have := this.2.2 u hu p e; omega
end Go.Proofs.YtgcaemhcdpddiaaDoor

/- The cursor of a draw: a byte of it, a number below a most. -/
namespace Go.Proofs.YtgcaemhcdpddiaaDoor
open Go.RowKit

/-- n bytes that can be read. -/
def Byt (w : World) (a : Option Addr) (n : Nat) : Prop := ∀ j, j < n → ∃ b off, a = some ⟨b, off, none⟩ ∧ ∃ y : Int, 0 ≤ y ∧ y < 256 ∧ w.cell? ⟨b, off + j, none⟩ = some (.int .u8 y)
/-- A cursor over them, in block p. -/
structure Cur (w : World) (p : Nat) (a : Option Addr) (n cap : Nat) : Prop where
  c0 : w.cell? ⟨p, 0, none⟩ = some (.slice a n cap)
  c1 : ∃ i : Nat, i ≤ n ∧ w.cell? ⟨p, 1, none⟩ = some (.int .i64 i)
  c2 : ∃ h : Int, w.cell? ⟨p, 2, none⟩ = some (.int .i64 h)
  fr : ∀ o, w.frozen? ⟨p, o, none⟩ = false
  byt : Byt w a n
  apart : ∀ b off, a = some ⟨b, off, none⟩ → 0 < n → b ≠ p
  most : n ≤ 1048576

theorem and255 (n : Int) : 0 ≤ bits .and .i64 n 255 ∧ bits .and .i64 n 255 < 256 := by
  have e : (BitVec.ofInt 64 255).toNat = 255 := by decide
  have h : (BitVec.ofInt 64 n &&& BitVec.ofInt 64 255).toNat ≤ 255 := by
    rw [BitVec.toNat_and, e]
    exact Nat.and_le_right
  show 0 ≤ IntKind.i64.wrap ((BitVec.ofInt 64 n &&& BitVec.ofInt 64 255).toNat : Nat) ∧ IntKind.i64.wrap ((BitVec.ofInt 64 n &&& BitVec.ofInt 64 255).toNat : Nat) < 256
  rw [IntKind.wrap_i64]
  omega
theorem grownBy_drew {w w' : World} {row : Option Nat} (h : w.grownBy w' row) : w.grownBy w'.drew row := grownBy_drewN h 1
theorem Byt.kept {w w' : World} {a : Option Addr} {n p : Nat} (h : Byt w a n) (g : w.grownBy w' (some p)) (ap : ∀ b off, a = some ⟨b, off, none⟩ → 0 < n → b ≠ p) : Byt w' a n := by
  intro j hj
  obtain ⟨b, off, e, y, y0, y1, hc⟩ := h j hj
  refine ⟨b, off, e, y, y0, y1, ?_⟩
  rw [← hc]
  exact World.cell?_of_block (g.block b (World.block_lt_of_cell? _ _ hc) (fun q => ap b off e (by omega) (by simpa using q)))

end Go.Proofs.YtgcaemhcdpddiaaDoor

/- A new cursor; what stays of a cursor and of variables beside it. -/
namespace Go.Proofs.YtgcaemhcdpddiaaDoor
open Go.RowKit

theorem Byt.below {w w' : World} {a : Option Addr} {n : Nat} (h : Byt w a n) (hb : Below w.heap.size w w') : Byt w' a n := by
  intro j hj
  obtain ⟨b, off, e, y, y0, y1, hc⟩ := h j hj
  exact ⟨b, off, e, y, y0, y1, bat hb hc⟩
theorem Byt.apart {w : World} {a : Option Addr} {n : Nat} (h : Byt w a n) : ∀ b off, a = some ⟨b, off, none⟩ → 0 < n → b ≠ w.heap.size := by
  intro b off ea hn
  obtain ⟨b', off', ea', y, _, _, hc⟩ := h 0 hn
  have hl : b' < w.heap.size := World.block_lt_of_cell? _ _ hc
  rw [ea] at ea'
  simp only [Option.some.injEq, Addr.mk.injEq] at ea'
  omega
theorem Cur.lt {w : World} {p n cap : Nat} {a : Option Addr} (h : Cur w p a n cap) : p < w.heap.size := World.block_lt_of_cell? _ _ h.c0
theorem Cur.below {w w' : World} {p n cap : Nat} {a : Option Addr} (h : Cur w p a n cap) (hb : Below w.heap.size w w') : Cur w' p a n cap := by
  have hl : p < w.heap.size := h.lt
  obtain ⟨c0, ⟨i, hi, c1⟩, ⟨h0, c2⟩, fr, byt, ap, mo⟩ := h
  exact ⟨bat hb c0, ⟨i, hi, bat hb c1⟩, ⟨h0, bat hb c2⟩, fun o => (hb.frozen (p := ⟨p, o, none⟩) hl).trans (fr o), byt.below hb, ap, mo⟩
theorem grown_alloc {w w1 : World} {row : Option Nat} (h : w.grownBy w1 row) (o : Obj) : w.grownBy (w1.alloc o) row := grownBy_trans h (World.grownBy_alloc _ _ _)
theorem grown_new {w w1 : World} {row : Option Nat} (h : w.grownBy w1 row) {q : Nat} (hq : w.heap.size ≤ q) (o : Nat) (u : Value) : w.grownBy (w1.setCell ⟨q, o, none⟩ u) row :=
  ⟨h.os, h.tape, h.output, by simpa using h.size, fun i hi hr => (Below.heap_setCell _ _ _ _ (by show i ≠ q; omega)).trans (h.block i hi hr)⟩
theorem Box2.grown {lo p q : Nat} {w w' : World} {x0 x1 : Value} (h : Box2 lo w q x0 x1) (g : w.grownBy w' (some p)) (ne : q ≠ p) : Box2 lo w' q x0 x1 := by
  have hb := g.block q h.lt (fun e => ne (by simpa using e))
  exact ⟨(World.cell?_of_block hb).trans h.c0, (World.cell?_of_block hb).trans h.c1, fun o => (World.frozen?_of_block (a := ⟨q, o, none⟩) hb).trans (h.fr o), h.lo⟩
/-- A cell elsewhere is set. -/
theorem Cur.put {w : World} {p n cap q : Nat} {a : Option Addr} (h : Cur w p a n cap) (hq : q ≠ p) (hb : ∀ b off, a = some ⟨b, off, none⟩ → 0 < n → b ≠ q) (o : Nat) (u : Value) : Cur (w.setCell ⟨q, o, none⟩ u) p a n cap := by
  obtain ⟨c0, ⟨i, hi, c1⟩, ⟨h0, c2⟩, fr, byt, ap, mo⟩ := h
  have e : ∀ j, (w.setCell ⟨q, o, none⟩ u).cell? ⟨p, j, none⟩ = w.cell? ⟨p, j, none⟩ := fun j => cell_other (.inl hq) u
  refine ⟨(e 0).trans c0, ⟨i, hi, (e 1).trans c1⟩, ⟨h0, (e 2).trans c2⟩, fun j => (World.frozen?_setCell ..).trans (fr j), ?_, ap, mo⟩
  intro j hj
  obtain ⟨b, off, ea, y, y0, y1, hc⟩ := byt j hj
  exact ⟨b, off, ea, y, y0, y1, (cell_other (.inl (Ne.symm (hb b off ea (by omega)))) u).trans hc⟩

end Go.Proofs.YtgcaemhcdpddiaaDoor

/- The specification's copy of a disk: l11Copy, with what stands in it. -/
namespace Go.Proofs.YtgcaemhcdpddiaaDoor
open Go.RowKit

theorem cell_drawnD {w w' : World} {p b o : Nat} {u : Value} (g : w.grownBy w' (some p)) (c : w.cell? ⟨b, o, none⟩ = some u) (ne : b ≠ p) : w'.cell? ⟨b, o, none⟩ = some u :=
  (World.cell?_of_block (a := ⟨b, o, none⟩) (g.block b (World.block_lt_of_cell? _ _ c) (fun e => ne (by simpa using e)))).trans c
theorem SeesB.newsA {w : World} {ad : Addr} {cap : Nat} {bs : List Int} (h : SeesB w (some ad) cap bs) : ∀ j u, (bs.map (Value.int .u8))[j]? = some u → w.cell? (ad.add j) = some u := by
  by_cases e : bs = []
  · subst e
    intro j u hu
    simp at hu
  · obtain ⟨b, off, q, _⟩ := h.cells e
    injection q with q
    subst q
    exact h.newsB

theorem RowB.someOf {base k : Nat} {w : World} {v : Value} {bs : List Int} (h : RowB base w v bs) (hk : v.ownBlock = some k) : ∃ c, v = .slice (some ⟨k, 0, none⟩) bs.length c := by
  rcases h.2 with ⟨hv, _⟩ | ⟨q, cap, cur, hv, _⟩
  · rw [hv] at hk; cases hk
  · rw [hv] at hk
    injection hk with hk
    dsimp only at hk
    subst hk
    exact ⟨cap, hv⟩
theorem two_newW (w : World) (e : TypeId) (x y : Value) : ∀ j u, ([x, y])[j]? = some u → (w.alloc (.cells #[x, y] e)).cell? ((⟨w.heap.size, 0, none⟩ : Addr).add j) = some u := by
  intro j u hu
  match j, hu with
  | 0, hu => simp at hu; subst hu; exact cell_new w #[x, y] e 0 rfl
  | 1, hu => simp at hu; subst hu; exact cell_new w #[x, y] e 1 rfl
  | j + 2, hu => simp at hu
theorem SomeV.snoc {vs : List Value} {u : Value} (h : SomeV vs) (hu : ∃ ad l c, u = .slice (some ad) l c) : SomeV (vs ++ [u]) := by
  intro x hx
  rcases List.mem_append.1 hx with hx | hx
  · exact h x hx
  · simp at hx
    subst hx
    exact hu
theorem Box2.set1D {lo p : Nat} {w : World} {x0 x1 : Value} (h : Box2 lo w p x0 x1) (u : Value) : Box2 lo (w.setCell ⟨p, 1, none⟩ u) p x0 u :=
  ⟨(cell_other (.inr (by simp)) u).trans h.c0, cell_same h.c1 u, fun o => (World.frozen?_setCell ..).trans (h.fr o), h.lo⟩
theorem Ext2.boxD {lo p : Nat} {w w' : World} {v x0 x1 : Value} (g : w.grownBy w' v.ownBlock) (B : Box2 lo w p x0 x1) (ne : v.ownBlock ≠ some p) : Box2 lo w' p x0 x1 := by
  have hb := g.block p B.lt (fun e => ne e.symm)
  exact ⟨(World.cell?_of_block hb).trans B.c0, (World.cell?_of_block hb).trans B.c1, fun o => (World.frozen?_of_block (a := ⟨p, o, none⟩) hb).trans (B.fr o), B.lo⟩

end Go.Proofs.YtgcaemhcdpddiaaDoor
