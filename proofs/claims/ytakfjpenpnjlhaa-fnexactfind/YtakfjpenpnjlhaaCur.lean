import Derived.Test.YtakfjpenpnjlhaaBase
import Derived.Test.YtakfjpenpnjlhaaProg
import Derived.Deep.RegionHeld3
import Derived.Test.YtakfjpenpnjlhaaRowPt
import Derived.Test.YtakfjpenpnjlhaaShapeM
import Derived.Maps.AppendAt
/- The cursor of a draw: a byte of it, a number below a most. -/
namespace Go.Proofs.Ytakfjpenpnjlhaa
open Go.RowKit

/-- n bytes that can be read. -/
def Byt (w : World) (a : Option Addr) (n : Nat) : Prop := ∀ j, j < n → ∃ b off, a = some ⟨b, off, none⟩ ∧ ∃ y : Int, 0 ≤ y ∧ y < 256 ∧ w.cell? ⟨b, off + j, none⟩ = some (.int .u8 y)
/-- A cursor over them, in block p. -/
structure Cur (w : World) (p : Nat) (a : Option Addr) (n cap : Nat) : Prop where
  c0 : w.cell? ⟨p, 0, none⟩ = some (.slice a n cap)
  c1 : ∃ i : Nat, i ≤ n ∧ w.cell? ⟨p, 1, none⟩ = some (.int .i64 i)
  c2 : ∃ h : Int, w.cell? ⟨p, 2, none⟩ = some (.int .i64 h)
  fr : ∀ o, w.frozen? ⟨p, o, none⟩ = false
  byt : Byt w a n
  apart : ∀ b off, a = some ⟨b, off, none⟩ → 0 < n → b ≠ p
  most : n ≤ 1048576

theorem and255 (n : Int) : 0 ≤ bits .and .i64 n 255 ∧ bits .and .i64 n 255 < 256 := by
  have e : (BitVec.ofInt 64 255).toNat = 255 := by decide
  have h : (BitVec.ofInt 64 n &&& BitVec.ofInt 64 255).toNat ≤ 255 := by
    rw [BitVec.toNat_and, e]
    exact Nat.and_le_right
  show 0 ≤ IntKind.i64.wrap ((BitVec.ofInt 64 n &&& BitVec.ofInt 64 255).toNat : Nat) ∧ IntKind.i64.wrap ((BitVec.ofInt 64 n &&& BitVec.ofInt 64 255).toNat : Nat) < 256
  rw [IntKind.wrap_i64]
  omega
theorem grownBy_drew {w w' : World} {row : Option Nat} (h : w.grownBy w' row) : w.grownBy w'.drew row := grownBy_drewN h 1
theorem Byt.kept {w w' : World} {a : Option Addr} {n p : Nat} (h : Byt w a n) (g : w.grownBy w' (some p)) (ap : ∀ b off, a = some ⟨b, off, none⟩ → 0 < n → b ≠ p) : Byt w' a n := by
  intro j hj
  obtain ⟨b, off, e, y, y0, y1, hc⟩ := h j hj
  refine ⟨b, off, e, y, y0, y1, ?_⟩
  rw [← hc]
  exact World.cell?_of_block (g.block b (World.block_lt_of_cell? _ _ hc) (fun q => ap b off e (by omega) (by simpa using q)))

end Go.Proofs.Ytakfjpenpnjlhaa

/- A new cursor; what stays of a cursor and of variables beside it. -/
namespace Go.Proofs.Ytakfjpenpnjlhaa
open Go.RowKit

theorem Byt.below {w w' : World} {a : Option Addr} {n : Nat} (h : Byt w a n) (hb : Below w.heap.size w w') : Byt w' a n := by
  intro j hj
  obtain ⟨b, off, e, y, y0, y1, hc⟩ := h j hj
  exact ⟨b, off, e, y, y0, y1, bat hb hc⟩
theorem Byt.apart {w : World} {a : Option Addr} {n : Nat} (h : Byt w a n) : ∀ b off, a = some ⟨b, off, none⟩ → 0 < n → b ≠ w.heap.size := by
  intro b off ea hn
  obtain ⟨b', off', ea', y, _, _, hc⟩ := h 0 hn
  have hl : b' < w.heap.size := World.block_lt_of_cell? _ _ hc
  rw [ea] at ea'
  simp only [Option.some.injEq, Addr.mk.injEq] at ea'
  omega
theorem Cur.lt {w : World} {p n cap : Nat} {a : Option Addr} (h : Cur w p a n cap) : p < w.heap.size := World.block_lt_of_cell? _ _ h.c0
theorem Cur.below {w w' : World} {p n cap : Nat} {a : Option Addr} (h : Cur w p a n cap) (hb : Below w.heap.size w w') : Cur w' p a n cap := by
  have hl : p < w.heap.size := h.lt
  obtain ⟨c0, ⟨i, hi, c1⟩, ⟨h0, c2⟩, fr, byt, ap, mo⟩ := h
  exact ⟨bat hb c0, ⟨i, hi, bat hb c1⟩, ⟨h0, bat hb c2⟩, fun o => (hb.frozen (p := ⟨p, o, none⟩) hl).trans (fr o), byt.below hb, ap, mo⟩
theorem grown_alloc {w w1 : World} {row : Option Nat} (h : w.grownBy w1 row) (o : Obj) : w.grownBy (w1.alloc o) row := grownBy_trans h (World.grownBy_alloc _ _ _)
theorem grown_new {w w1 : World} {row : Option Nat} (h : w.grownBy w1 row) {q : Nat} (hq : w.heap.size ≤ q) (o : Nat) (u : Value) : w.grownBy (w1.setCell ⟨q, o, none⟩ u) row :=
  ⟨h.os, h.tape, h.output, by simpa using h.size, fun i hi hr => (Below.heap_setCell _ _ _ _ (by show i ≠ q; omega)).trans (h.block i hi hr)⟩
theorem Box2.grown {lo p q : Nat} {w w' : World} {x0 x1 : Value} (h : Box2 lo w q x0 x1) (g : w.grownBy w' (some p)) (ne : q ≠ p) : Box2 lo w' q x0 x1 := by
  have hb := g.block q h.lt (fun e => ne (by simpa using e))
  exact ⟨(World.cell?_of_block hb).trans h.c0, (World.cell?_of_block hb).trans h.c1, fun o => (World.frozen?_of_block (a := ⟨q, o, none⟩) hb).trans (h.fr o), h.lo⟩
/-- A cell elsewhere is set. -/
theorem Cur.put {w : World} {p n cap q : Nat} {a : Option Addr} (h : Cur w p a n cap) (hq : q ≠ p) (hb : ∀ b off, a = some ⟨b, off, none⟩ → 0 < n → b ≠ q) (o : Nat) (u : Value) : Cur (w.setCell ⟨q, o, none⟩ u) p a n cap := by
  obtain ⟨c0, ⟨i, hi, c1⟩, ⟨h0, c2⟩, fr, byt, ap, mo⟩ := h
  have e : ∀ j, (w.setCell ⟨q, o, none⟩ u).cell? ⟨p, j, none⟩ = w.cell? ⟨p, j, none⟩ := fun j => cell_other (.inl hq) u
  refine ⟨(e 0).trans c0, ⟨i, hi, (e 1).trans c1⟩, ⟨h0, (e 2).trans c2⟩, fun j => (World.frozen?_setCell ..).trans (fr j), ?_, ap, mo⟩
  intro j hj
  obtain ⟨b, off, ea, y, y0, y1, hc⟩ := byt j hj
  exact ⟨b, off, ea, y, y0, y1, (cell_other (.inl (Ne.symm (hb b off ea (by omega)))) u).trans hc⟩

end Go.Proofs.Ytakfjpenpnjlhaa

/- Shapes that are drawn: a list of rows that a call owns, whatever stands in them. -/
namespace Go.Proofs.Ytakfjpenpnjlhaa
open Go.RowKit

/-- A list of rows of points of the call's own: each row in a block of its own. -/
structure RingsR (lo : Nat) (w : World) (v : Value) (vs : List Value) : Prop where
  own : w.ownsRow lo 73 1 v vs.length vs
  rows : ∀ u ∈ vs, ∃ ps, RowPt lo w u ps ∧ ps.length ≤ 200
  ne : ∀ u ∈ vs, ∀ k, u.ownBlock = some k → v.ownBlock ≠ some k
  apart : ∀ (i j : Nat) (u u' : Value), i < j → vs[i]? = some u → vs[j]? = some u' → ∀ k, u.ownBlock = some k → u'.ownBlock ≠ some k
  few : vs.length ≤ 20
theorem owns_kept {w w' : World} {base e size n : Nat} {v : Value} {xs : List Value} {row : Option Nat} (h : w.ownsRow base e size v n xs) (g : w.grownBy w' row) (ne : ∀ k, v.ownBlock = some k → row ≠ some k) : w'.ownsRow base e size v n xs := by
  refine h.kept g ?_
  cases q : v.ownBlock with
  | none => exact .inl rfl
  | some k => exact .inr (fun e => ne k q e.symm)
theorem RingsR.kept {lo : Nat} {w w' : World} {v : Value} {vs : List Value} {row : Option Nat} (h : RingsR lo w v vs) (g : w.grownBy w' row) (nv : ∀ k, v.ownBlock = some k → row ≠ some k) (nr : ∀ u ∈ vs, ∀ k, u.ownBlock = some k → row ≠ some k) : RingsR lo w' v vs :=
  ⟨owns_kept h.own g nv, fun u hu => by
    obtain ⟨ps, R, l⟩ := h.rows u hu
    exact ⟨ps, owns_kept R g (nr u hu), l⟩, h.ne, h.apart, h.few⟩
theorem RingsR.below {lo : Nat} {w w' : World} {v : Value} {vs : List Value} (h : RingsR lo w v vs) (hb : Below w.heap.size w w') : RingsR lo w' v vs :=
  h.kept (grown_of_below hb) (fun _ _ e => by cases e) (fun _ _ _ _ e => by cases e)
/-- What is drawn on leaves it. -/
theorem RingsR.drawn {lo p : Nat} {w w' : World} {v : Value} {vs : List Value} (h : RingsR lo w v vs) (g : w.grownBy w' (some p)) (hp : p < lo) : RingsR lo w' v vs :=
  h.kept g (fun k hk e => by have := (World.ownsRow.lt h.own k hk).1; injection e with e; omega) (fun u hu k hk e => by
    obtain ⟨ps, R, _⟩ := h.rows u hu
    have := (World.ownsRow.lt R k hk).1
    injection e with e
    omega)
theorem RingsR.base {lo lo' : Nat} {w : World} {v : Value} {vs : List Value} (h : RingsR lo w v vs) (hl : lo' ≤ lo) : RingsR lo' w v vs :=
  ⟨row_base h.own hl, fun u hu => by
    obtain ⟨ps, R, l⟩ := h.rows u hu
    exact ⟨ps, row_base R hl, l⟩, h.ne, h.apart, h.few⟩
theorem RowPt.drawn {lo p : Nat} {w w' : World} {v : Value} {ps : List (Int × Int)} (h : RowPt lo w v ps) (g : w.grownBy w' (some p)) (hp : p < lo) : RowPt lo w' v ps :=
  owns_kept h g (fun k hk e => by have := (World.ownsRow.lt h k hk).1; injection e with e; omega)
theorem RingsR.nil (lo : Nat) (w : World) : RingsR lo w (.slice none 0 0) [] :=
  ⟨⟨rfl, .inl ⟨rfl, rfl⟩⟩, fun _ h => (by cases h), fun _ h => (by cases h), fun i j u u' _ h => (by simp at h), by simp⟩
theorem RingsR.shape {lo : Nat} {w : World} {v : Value} {vs : List Value} (h : RingsR lo w v vs) : ∃ a c, v = .slice a vs.length c ∧ vs.length ≤ c ∧ c ≤ maxLen := by
  rcases h.own.2 with ⟨hv, h0⟩ | ⟨q, cap, cur, hv, _, _, hf, hm, _⟩
  · exact ⟨none, 0, by rw [hv, h0], by omega, by simp [maxLen]⟩
  · exact ⟨_, cap, hv, hf, hm⟩
/-- The shape that is seen there. -/
theorem RingsR.sees {lo : Nat} {w : World} {a : Option Addr} {c : Nat} {vs : List Value} (h : RingsR lo w (.slice a vs.length c) vs) : ∃ rs : List (List (Int × Int)), rs.length = vs.length ∧ SeesS w a c rs ∧ (∀ i, i < rs.length → (rowA rs i).length ≤ 200) := by
  have pick : ∃ f : Value → List (Int × Int), ∀ u ∈ vs, RowPt lo w u (f u) ∧ (f u).length ≤ 200 := by
    refine ⟨fun u => Classical.choose (p := fun ps => u ∈ vs → RowPt lo w u ps ∧ ps.length ≤ 200) ?_, fun u hu => ?_⟩
    · by_cases hu : u ∈ vs
      · obtain ⟨ps, R, l⟩ := h.rows u hu
        exact ⟨ps, fun _ => ⟨R, l⟩⟩
      · exact ⟨[], fun q => absurd q hu⟩
    · exact Classical.choose_spec (p := fun ps => u ∈ vs → RowPt lo w u ps ∧ ps.length ≤ 200) _ hu
  obtain ⟨f, hf⟩ := pick
  have at' : ∀ i (hi : i < vs.length), rowA (vs.map f) i = f vs[i] := fun i hi => by
    unfold rowA
    rw [List.getElem?_map, List.getElem?_eq_getElem hi]
    rfl
  refine ⟨vs.map f, List.length_map .., ?_, fun i hi => ?_⟩
  · have sh := h.own.2
    rcases sh with ⟨hv, h0⟩ | ⟨q, cap, cur, hv, hb, hh, hfit, hmax, hs, ht⟩
    · injection hv with h1 h2 h3
      subst h1 h3
      have : vs = [] := List.eq_nil_of_length_eq_zero h0
      subst this
      exact ⟨by simp, by simp [maxLen], fun hn => absurd rfl hn⟩
    · injection hv with h1 h2 h3
      subst h1 h3
      refine ⟨by rw [List.length_map]; exact hfit, hmax, fun _ => ⟨q, 0, rfl, fun i hi => ?_⟩⟩
      rw [List.length_map] at hi
      rw [at' i hi]
      obtain ⟨R, l⟩ := hf vs[i] (List.getElem_mem hi)
      generalize f vs[i] = qs at *
      obtain ⟨a', c', e, _, _⟩ := R.shape
      refine ⟨a', c', ?_, ?_⟩
      · rw [Nat.zero_add, World.ownsRow.cellAt h.own i (by omega), List.getElem?_eq_getElem hi, e]
      · rw [e] at R
        exact R.seesP
  · rw [List.length_map] at hi
    rw [at' i hi]
    exact (hf vs[i] (List.getElem_mem hi)).2
end Go.Proofs.Ytakfjpenpnjlhaa
