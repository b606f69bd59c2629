/- The specification's copy of a disk: l11Copy, with what stands in it. -/
import Derived.Test.YtbgpkajgnappiaaDkS
import Derived.Test.YtbgpkajgnappiaaDkU
import Derived.Test.YtbgpkajgnappiaaCur
namespace Go.Proofs.Ytbgpkajgnappiaa
open Go.RowKit

theorem cell_drawnD {w w' : World} {p b o : Nat} {u : Value} (g : w.grownBy w' (some p)) (c : w.cell? ⟨b, o, none⟩ = some u) (ne : b ≠ p) : w'.cell? ⟨b, o, none⟩ = some u :=
  (World.cell?_of_block (a := ⟨b, o, none⟩) (g.block b (World.block_lt_of_cell? _ _ c) (fun e => ne (by simpa using e)))).trans c
theorem SeesB.newsA {w : World} {ad : Addr} {cap : Nat} {bs : List Int} (h : SeesB w (some ad) cap bs) : ∀ j u, (bs.map (Value.int .u8))[j]? = some u → w.cell? (ad.add j) = some u := by
  by_cases e : bs = []
  · subst e
    intro j u hu
    simp at hu
  · obtain ⟨b, off, q, _⟩ := h.cells e
    injection q with q
    subst q
    exact h.newsB

theorem RowB.someOf {base k : Nat} {w : World} {v : Value} {bs : List Int} (h : RowB base w v bs) (hk : v.ownBlock = some k) : ∃ c, v = .slice (some ⟨k, 0, none⟩) bs.length c := by
  rcases h.2 with ⟨hv, _⟩ | ⟨q, cap, cur, hv, _⟩
  · rw [hv] at hk; cases hk
  · rw [hv] at hk
    injection hk with hk
    dsimp only at hk
    subst hk
    exact ⟨cap, hv⟩
theorem two_newW (w : World) (e : TypeId) (x y : Value) : ∀ j u, ([x, y])[j]? = some u → (w.alloc (.cells #[x, y] e)).cell? ((⟨w.heap.size, 0, none⟩ : Addr).add j) = some u := by
  intro j u hu
  match j, hu with
  | 0, hu => simp at hu; subst hu; exact cell_new w #[x, y] e 0 rfl
  | 1, hu => simp at hu; subst hu; exact cell_new w #[x, y] e 1 rfl
  | j + 2, hu => simp at hu
theorem SomeV.snoc {vs : List Value} {u : Value} (h : SomeV vs) (hu : ∃ ad l c, u = .slice (some ad) l c) : SomeV (vs ++ [u]) := by
  intro x hx
  rcases List.mem_append.1 hx with hx | hx
  · exact h x hx
  · simp at hx
    subst hx
    exact hu
theorem Box2.set1D {lo p : Nat} {w : World} {x0 x1 : Value} (h : Box2 lo w p x0 x1) (u : Value) : Box2 lo (w.setCell ⟨p, 1, none⟩ u) p x0 u :=
  ⟨(cell_other (.inr (by simp)) u).trans h.c0, cell_same h.c1 u, fun o => (World.frozen?_setCell ..).trans (h.fr o), h.lo⟩
theorem Ext2.boxD {lo p : Nat} {w w' : World} {v x0 x1 : Value} (g : w.grownBy w' v.ownBlock) (B : Box2 lo w p x0 x1) (ne : v.ownBlock ≠ some p) : Box2 lo w' p x0 x1 := by
  have hb := g.block p B.lt (fun e => ne e.symm)
  exact ⟨(World.cell?_of_block hb).trans B.c0, (World.cell?_of_block hb).trans B.c1, fun o => (World.frozen?_of_block (a := ⟨p, o, none⟩) hb).trans (B.fr o), B.lo⟩

end Go.Proofs.Ytbgpkajgnappiaa
