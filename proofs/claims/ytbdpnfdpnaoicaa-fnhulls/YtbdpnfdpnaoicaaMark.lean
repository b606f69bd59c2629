/- Marks: stores into the rows of points of a call's own. -/
import Derived.Test.YtbdpnfdpnaoicaaPtsL
namespace Go.Proofs.Ytbdpnfdpnaoicaa
open Go.RowKit

/-- Of one world came another one, by stores into blocks from lo up to below hi. -/
def Puts (lo hi : Nat) (w w' : World) : Prop := ∀ P : World → Prop, (∀ W b o u, lo ≤ b → b < hi → P W → P (W.setCell ⟨b, o, none⟩ u)) → P w → P w'
theorem Puts.refl (lo hi : Nat) (w : World) : Puts lo hi w w := fun _ _ h => h
theorem Puts.put {lo hi b : Nat} {w w' : World} (h : Puts lo hi w w') (h1 : lo ≤ b) (h2 : b < hi) (o : Nat) (u : Value) : Puts lo hi w (w'.setCell ⟨b, o, none⟩ u) :=
  fun P c p => c _ b o u h1 h2 (h P c p)
theorem Puts.trans {lo hi : Nat} {a b c : World} (h : Puts lo hi a b) (k : Puts lo hi b c) : Puts lo hi a c := fun P q p => k P q (h P q p)
theorem Puts.wider {lo hi lo' hi' : Nat} {a b : World} (h : Puts lo hi a b) (h1 : lo' ≤ lo) (h2 : hi ≤ hi') : Puts lo' hi' a b := fun P q p => h P (fun W b o u x y z => q W b o u (by omega) (by omega) z) p
/-- There are cells, which may be written. -/
structure Has (w : World) (b off n : Nat) : Prop where
  c : ∀ o, o < n → ∃ v, w.cell? ⟨b, off + o, none⟩ = some v
  f : ∀ o, w.frozen? ⟨b, o, none⟩ = false
theorem Has.put {w : World} {b off n : Nat} (h : Has w b off n) (b' o : Nat) (u : Value) : Has (w.setCell ⟨b', o, none⟩ u) b off n :=
  ⟨fun i hi => by
    obtain ⟨v, hv⟩ := h.c i hi
    by_cases e : b' = b ∧ o = off + i
    · obtain ⟨rfl, rfl⟩ := e
      exact ⟨u, cell_same hv u⟩
    · refine ⟨v, (cell_other ?_ u).trans hv⟩
      by_cases e1 : b' = b
      · exact .inr (fun q => e ⟨e1, q⟩)
      · exact .inl e1, fun i => (World.frozen?_setCell ..).trans (h.f i)⟩

/-- Rows of points that may be marked: the list lies in block b, the rows from block lo up to below hi. -/
def MarkS (lo hi : Nat) (w : World) (b off : Nat) (rs : List (List (Int × Int))) : Prop :=
  ∀ i, i < rs.length → ∃ a' c', w.cell? ⟨b, off + i, none⟩ = some (.slice a' (rowA rs i).length c') ∧ (rowA rs i).length ≤ c' ∧ c' ≤ maxLen ∧ ((rowA rs i).length = 0 ∨ ∃ b' off', a' = some ⟨b', off', none⟩ ∧ lo ≤ b' ∧ b' < hi ∧ Has w b' off' ((rowA rs i).length * 2))
theorem MarkS.put {lo hi b off b' o : Nat} {w : World} {rs : List (List (Int × Int))} {u : Value} (h : MarkS lo hi w b off rs) (hb : b < lo) (h1 : lo ≤ b') : MarkS lo hi (w.setCell ⟨b', o, none⟩ u) b off rs := by
  intro i hi'
  obtain ⟨a', c', g, f1, f2, r⟩ := h i hi'
  refine ⟨a', c', (cell_other (.inl (by omega)) u).trans g, f1, f2, ?_⟩
  rcases r with r | ⟨b2, o2, e, l1, l2, H⟩
  · exact .inl r
  · exact .inr ⟨b2, o2, e, l1, l2, H.put b' o u⟩
theorem MarkS.below {lo hi b off : Nat} {w w' : World} {rs : List (List (Int × Int))} (h : MarkS lo hi w b off rs) (bn : Below w.heap.size w w') : MarkS lo hi w' b off rs := by
  intro i hi'
  obtain ⟨a', c', g, f1, f2, r⟩ := h i hi'
  refine ⟨a', c', bat bn g, f1, f2, ?_⟩
  rcases r with r | ⟨b2, o2, e, l1, l2, H⟩
  · exact .inl r
  · rcases Nat.eq_zero_or_pos (rowA rs i).length with z | z
    · exact .inl z
    · refine .inr ⟨b2, o2, e, l1, l2, fun o ho => ?_, fun o => ?_⟩
      · obtain ⟨v, hv⟩ := H.c o ho
        exact ⟨v, bat bn hv⟩
      · obtain ⟨v, hv⟩ := H.c 0 (by omega)
        have hlt : b2 < w.heap.size := World.block_lt_of_cell? w ⟨b2, o2 + 0, none⟩ hv
        exact (bn.frozen (p := ⟨b2, o, none⟩) hlt).trans (H.f o)
theorem SeesP.has {w : World} {b off c : Nat} {ps : List (Int × Int)} (h : SeesP w (some ⟨b, off, none⟩) c ps) (f : ∀ o, w.frozen? ⟨b, o, none⟩ = false) : Has w b off (ps.length * 2) :=
  ⟨fun o ho => by
    have hi : o / 2 < ps.length := by omega
    obtain ⟨b', off', e, hc⟩ := h.cells (by intro e; simp [e] at hi)
    simp only [Option.some.injEq, Addr.mk.injEq] at e
    obtain ⟨rfl, rfl, _⟩ := e
    obtain ⟨c0, c1⟩ := hc _ hi
    have hm : o % 2 = 0 ∨ o % 2 = 1 := by omega
    rcases hm with m | m
    · exact ⟨_, by rw [show off + o = off + o / 2 * 2 by omega]; exact c0⟩
    · exact ⟨_, by rw [show off + o = off + o / 2 * 2 + 1 by omega]; exact c1⟩, f⟩
theorem OwnS.mark {lo b off : Nat} {w : World} {c : Nat} {rs : List (List (Int × Int))} (h : OwnS lo w (some ⟨b, off, none⟩) c rs) : MarkS (b + 1) w.heap.size w b off rs := by
  intro i hi
  obtain ⟨b0, off0, e, _, hc⟩ := h.cells (by intro e; simp [e] at hi)
  simp only [Option.some.injEq, Addr.mk.injEq] at e
  obtain ⟨rfl, rfl, _⟩ := e
  obtain ⟨a', c', g, S, r⟩ := hc i hi
  refine ⟨a', c', g, S.fits, S.max, ?_⟩
  rcases Nat.eq_zero_or_pos (rowA rs i).length with z | z
  · exact .inl z
  · obtain ⟨b', off', rfl, _⟩ := S.cells (by intro e; simp [e] at z)
    obtain ⟨r1, r2, r3, r4⟩ := r b' off' rfl
    exact .inr ⟨b', off', rfl, r2, r3, S.has r4⟩

theorem belowPuts {b lo hi : Nat} {w0 w w' : World} (h : Below b w0 w) (P : Puts lo hi w w') (hb : b ≤ lo) : Below b w0 w' :=
  P (fun W => Below b w0 W) (fun _ b' o u h1 _ q => q.setCell (p := ⟨b', o, none⟩) (Nat.le_trans hb h1) u) h
theorem Box2.puts {l p lo hi : Nat} {w w' : World} {x0 x1 : Value} (h : Box2 l w p x0 x1) (P : Puts lo hi w w') (hp : p < lo ∨ hi ≤ p) : Box2 l w' p x0 x1 :=
  P (fun W => Box2 l W p x0 x1) (fun _ b o u h1 h2 q => ⟨(cell_other (.inl (by omega)) u).trans q.c0, (cell_other (.inl (by omega)) u).trans q.c1, fun i => (World.frozen?_setCell ..).trans (q.fr i), q.lo⟩) h
theorem keepG4 {W W' : World} {p q : Nat} {v0 v1 v2 v3 : Value} (k : W.cell? ⟨p, 0, none⟩ = some v0 ∧ W.cell? ⟨p, 1, none⟩ = some v1 ∧ W.cell? ⟨q, 0, none⟩ = some v2 ∧ W.cell? ⟨q, 1, none⟩ = some v3) (hb : Below W.heap.size W W') :
    W'.cell? ⟨p, 0, none⟩ = some v0 ∧ W'.cell? ⟨p, 1, none⟩ = some v1 ∧ W'.cell? ⟨q, 0, none⟩ = some v2 ∧ W'.cell? ⟨q, 1, none⟩ = some v3 :=
  ⟨bat hb k.1, bat hb k.2.1, bat hb k.2.2.1, bat hb k.2.2.2⟩
end Go.Proofs.Ytbdpnfdpnaoicaa
