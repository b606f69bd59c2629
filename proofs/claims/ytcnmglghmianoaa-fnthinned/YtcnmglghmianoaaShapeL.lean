import Derived.Test.YtcnmglghmianoaaPtsL
/- Shapes in memory; the laws' helpers on them: their sizes, their copies, whether two are equal. -/
namespace Go.Proofs.Ytcnmglghmianoaa
open Go.RowKit

/-- A row of a shape. -/
def rowA (rs : List (List (Int × Int))) (i : Nat) : List (Int × Int) := rs[i]?.getD []
/-- Rows of points that lie in memory. -/
structure SeesS (w : World) (a : Option Addr) (cap : Nat) (rs : List (List (Int × Int))) : Prop where
  fits : rs.length ≤ cap
  max : cap ≤ maxLen
  cells : rs ≠ [] → ∃ b off, a = some ⟨b, off, none⟩ ∧ ∀ i, i < rs.length → ∃ a' c', w.cell? ⟨b, off + i, none⟩ = some (.slice a' (rowA rs i).length c') ∧ SeesP w a' c' (rowA rs i)
theorem SeesS.below {w w' : World} {a : Option Addr} {cap : Nat} {rs : List (List (Int × Int))} (h : SeesS w a cap rs) (hb : Below w.heap.size w w') : SeesS w' a cap rs :=
  ⟨h.fits, h.max, fun hn => by
    obtain ⟨b, off, ha, hc⟩ := h.cells hn
    exact ⟨b, off, ha, fun i hi => by obtain ⟨a', c', h1, h2⟩ := hc i hi; exact ⟨a', c', bat hb h1, h2.below hb⟩⟩⟩
/-- How many rows and points there are, up to a row. -/
def upto (rs : List (List (Int × Int))) : Nat → Nat
  | 0 => rs.length
  | j + 1 => upto rs j + (rowA rs j).length
theorem upto_le (rs : List (List (Int × Int))) (j d : Nat) : upto rs j ≤ upto rs (j + d) := by
  induction d with
  | zero => exact Nat.le_refl _
  | succ d ih => rw [← Nat.add_assoc]; simp only [upto]; omega
theorem row_le (rs : List (List (Int × Int))) {i n : Nat} (h : i < n) : (rowA rs i).length + rs.length ≤ upto rs n := by
  have h1 := upto_le rs (i + 1) (n - (i + 1))
  rw [show i + 1 + (n - (i + 1)) = n by omega] at h1
  have h2 := upto_le rs 0 i
  simp only [upto, Nat.zero_add] at h1 h2
  omega

end Go.Proofs.Ytcnmglghmianoaa

/- Shapes: their copies, whether two are equal. -/
namespace Go.Proofs.Ytcnmglghmianoaa
open Go.RowKit

theorem infoR : (Try.prog.info? 24).map (fun i => (i.zero, i.size, i.bytes)) = some (some (.slice none 0 0), 1, 24) := by kernel_rfl
theorem SeesP.put1 {w : World} {a : Option Addr} {cap g : Nat} {ps : List (Int × Int)} (h : SeesP w a cap ps) (ne : ∀ b off, a = some ⟨b, off, none⟩ → b ≠ g) (o : Nat) (u : Value) : SeesP (w.setCell ⟨g, o, none⟩ u) a cap ps :=
  ⟨h.fits, h.max, fun hn => by
    obtain ⟨b, off, ha, hc⟩ := h.cells hn
    exact ⟨b, off, ha, fun i hi => ⟨(cell_other (.inl (Ne.symm (ne b off ha))) u).trans (hc i hi).1, (cell_other (.inl (Ne.symm (ne b off ha))) u).trans (hc i hi).2⟩⟩⟩

/-- Rows of points that are being copied: the first j are there, each in a block of its own. -/
structure RowS (w : World) (g n j : Nat) (rs : List (List (Int × Int))) : Prop where
  c : ∀ i, i < j → ∃ b c', w.cell? ⟨g, i, none⟩ = some (.slice (some ⟨b, 0, none⟩) (rowA rs i).length c') ∧ SeesP w (some ⟨b, 0, none⟩) c' (rowA rs i) ∧ g < b ∧ b < w.heap.size ∧ ∀ o, w.frozen? ⟨b, o, none⟩ = false
  u : ∀ i, j ≤ i → i < n → ∃ v, w.cell? ⟨g, i, none⟩ = some v
  fr : ∀ o, w.frozen? ⟨g, o, none⟩ = false
  lt : g < w.heap.size
theorem RowS.below {w w' : World} {g n j : Nat} {rs : List (List (Int × Int))} (h : RowS w g n j rs) (hb : Below w.heap.size w w') : RowS w' g n j rs := by
  obtain ⟨q, r⟩ := at_block hb h.lt
  exact ⟨fun i hi => by obtain ⟨b, c', h1, h2, h3⟩ := h.c i hi; exact ⟨b, c', (q _).trans h1, h2.below hb, h3.1, Nat.lt_of_lt_of_le h3.2.1 hb.size, fun o => (hb.frozen (p := ⟨b, o, none⟩) h3.2.1).trans (h3.2.2 o)⟩, fun i h1 h2 => by obtain ⟨v, hv⟩ := h.u i h1 h2; exact ⟨v, (q _).trans hv⟩, fun o => (r o).trans (h.fr o), Nat.lt_of_lt_of_le h.lt hb.size⟩
theorem RowS.start {w : World} {base e g n : Nat} {xs : List Value} (rs : List (List (Int × Int))) (h : w.ownsRow base e 1 (.slice (some ⟨g, 0, none⟩) n n) n xs) : RowS w g n 0 rs := by
  obtain ⟨h1, h2⟩ := h
  rcases h2 with ⟨h2, _⟩ | ⟨g', cap', cur, hv, hb, hh, hc, hm, hs, ht⟩
  · cases h2
  simp only [Value.slice.injEq, Option.some.injEq, Addr.mk.injEq, and_true] at hv
  obtain ⟨rfl, _, rfl⟩ := hv
  refine ⟨fun i hi => absurd hi (by omega), fun k _ hk => ?_, fun o => by simp [World.frozen?, hh], ?_⟩
  · rw [cell_of_row w g k cur e (0, 0) hh]
    exact ⟨cur[k]'(by omega), Array.getElem?_eq_getElem (by omega)⟩
  · rcases Nat.lt_or_ge g w.heap.size with k | k
    · exact k
    · rw [Array.getElem?_eq_none k] at hh
      cases hh
theorem RowS.step {w : World} {g n j b c' : Nat} {rs : List (List (Int × Int))} (h : RowS w g n j rs) (hj : j < n) (hs : SeesP w (some ⟨b, 0, none⟩) c' (rowA rs j)) (hb : g < b) (hl : b < w.heap.size) (hr : ∀ o, w.frozen? ⟨b, o, none⟩ = false) :
    RowS (w.setCell ⟨g, j, none⟩ (.slice (some ⟨b, 0, none⟩) (rowA rs j).length c')) g n (j + 1) rs := by
  obtain ⟨v0, h0⟩ := h.u j (Nat.le_refl _) hj
  refine ⟨fun i hi => ?_, fun i h2 h3 => ?_, fun o => (World.frozen?_setCell ..).trans (h.fr o), by simpa using h.lt⟩
  · by_cases e : i = j
    · subst e
      exact ⟨b, c', cell_same h0 _, hs.put1 (fun b' off' e => by simp only [Option.some.injEq, Addr.mk.injEq] at e; omega) _ _, hb, by simpa using hl, fun o => (World.frozen?_setCell ..).trans (hr o)⟩
    · obtain ⟨b2, c2, h4, h5, h6⟩ := h.c i (by omega)
      exact ⟨b2, c2, (cell_other (.inr (Ne.symm e)) _).trans h4, h5.put1 (fun b' off' e => by simp only [Option.some.injEq, Addr.mk.injEq] at e; omega) _ _, h6.1, by simpa using h6.2.1, fun o => (World.frozen?_setCell ..).trans (h6.2.2 o)⟩
  · obtain ⟨v, hv⟩ := h.u i (by omega) h3
    exact ⟨v, (cell_other (.inr (by omega)) _).trans hv⟩

/-- Rows of points in blocks of a call's own. -/
structure OwnS (lo : Nat) (w : World) (a : Option Addr) (cap : Nat) (rs : List (List (Int × Int))) : Prop where
  fits : rs.length ≤ cap
  max : cap ≤ maxLen
  cells : rs ≠ [] → ∃ b off, a = some ⟨b, off, none⟩ ∧ lo ≤ b ∧ ∀ i, i < rs.length → ∃ a' c', w.cell? ⟨b, off + i, none⟩ = some (.slice a' (rowA rs i).length c') ∧ SeesP w a' c' (rowA rs i) ∧ ∀ b' off', a' = some ⟨b', off', none⟩ → lo ≤ b' ∧ b < b' ∧ b' < w.heap.size ∧ ∀ o, w.frozen? ⟨b', o, none⟩ = false
theorem OwnS.sees {lo : Nat} {w : World} {a : Option Addr} {cap : Nat} {rs : List (List (Int × Int))} (h : OwnS lo w a cap rs) : SeesS w a cap rs :=
  ⟨h.fits, h.max, fun hn => by
    obtain ⟨b, off, ha, _, hc⟩ := h.cells hn
    exact ⟨b, off, ha, fun i hi => by obtain ⟨a', c', h1, h2, _⟩ := hc i hi; exact ⟨a', c', h1, h2⟩⟩⟩
theorem OwnS.below {lo : Nat} {w w' : World} {a : Option Addr} {cap : Nat} {rs : List (List (Int × Int))} (h : OwnS lo w a cap rs) (hb : Below w.heap.size w w') : OwnS lo w' a cap rs :=
  ⟨h.fits, h.max, fun hn => by
    obtain ⟨b, off, ha, hl, hc⟩ := h.cells hn
    exact ⟨b, off, ha, hl, fun i hi => by obtain ⟨a', c', h1, h2, h3⟩ := hc i hi; exact ⟨a', c', bat hb h1, h2.below hb, fun b' off' e => ⟨(h3 b' off' e).1, (h3 b' off' e).2.1, Nat.lt_of_lt_of_le (h3 b' off' e).2.2.1 hb.size, fun o => (hb.frozen (p := ⟨b', o, none⟩) (h3 b' off' e).2.2.1).trans ((h3 b' off' e).2.2.2 o)⟩⟩⟩⟩
theorem OwnS.base_le {lo lo' : Nat} {w : World} {a : Option Addr} {cap : Nat} {rs : List (List (Int × Int))} (h : OwnS lo w a cap rs) (hb : lo' ≤ lo) : OwnS lo' w a cap rs :=
  ⟨h.fits, h.max, fun hn => by
    obtain ⟨b, off, ha, hl, hc⟩ := h.cells hn
    exact ⟨b, off, ha, Nat.le_trans hb hl, fun i hi => by obtain ⟨a', c', h1, h2, h3⟩ := hc i hi; exact ⟨a', c', h1, h2, fun b' off' e => ⟨Nat.le_trans hb (h3 b' off' e).1, (h3 b' off' e).2⟩⟩⟩⟩
theorem OwnS.put {lo g : Nat} {w : World} {a : Option Addr} {cap : Nat} {rs : List (List (Int × Int))} (h : OwnS lo w a cap rs) (hg : g < lo) (o : Nat) (u : Value) : OwnS lo (w.setCell ⟨g, o, none⟩ u) a cap rs :=
  ⟨h.fits, h.max, fun hn => by
    obtain ⟨b, off, ha, hl, hc⟩ := h.cells hn
    exact ⟨b, off, ha, hl, fun i hi => by obtain ⟨a', c', h1, h2, h3⟩ := hc i hi; exact ⟨a', c', (cell_other (.inl (by omega)) u).trans h1, h2.put1 (fun b' off' e => by have := (h3 b' off' e).1; omega) o u, fun b' off' e => ⟨(h3 b' off' e).1, (h3 b' off' e).2.1, by simpa using (h3 b' off' e).2.2.1, fun o => (World.frozen?_setCell ..).trans ((h3 b' off' e).2.2.2 o)⟩⟩⟩⟩

/-- Rows that are no nil. -/
def Somes (w : World) (a : Option Addr) (n : Nat) : Prop := ∃ b off, a = some ⟨b, off, none⟩ ∧ ∀ i, i < n → ∃ ad l c, w.cell? ⟨b, off + i, none⟩ = some (.slice (some ad) l c)
theorem Somes.below {w w' : World} {a : Option Addr} {n : Nat} (h : Somes w a n) (hb : Below w.heap.size w w') : Somes w' a n := by
  obtain ⟨b, off, e, k⟩ := h
  exact ⟨b, off, e, fun i hi => by obtain ⟨ad, l, c, q⟩ := k i hi; exact ⟨ad, l, c, bat hb q⟩⟩
theorem Somes.put {g n b off : Nat} {w : World} (h : Somes w (some ⟨b, off, none⟩) n) (ne : b ≠ g) (o : Nat) (u : Value) : Somes (w.setCell ⟨g, o, none⟩ u) (some ⟨b, off, none⟩) n := by
  obtain ⟨b', off', e, k⟩ := h
  simp only [Option.some.injEq, Addr.mk.injEq] at e
  obtain ⟨rfl, rfl, _⟩ := e
  exact ⟨b, off, rfl, fun i hi => by obtain ⟨ad, l, c, q⟩ := k i hi; exact ⟨ad, l, c, (cell_other (.inl (Ne.symm ne)) u).trans q⟩⟩

end Go.Proofs.Ytcnmglghmianoaa

/- Marks: stores into the rows of points of a call's own. -/
namespace Go.Proofs.Ytcnmglghmianoaa
open Go.RowKit

/-- Of one world came another one, by stores into blocks from lo up to below hi. -/
def Puts (lo hi : Nat) (w w' : World) : Prop := ∀ P : World → Prop, (∀ W b o u, lo ≤ b → b < hi → P W → P (W.setCell ⟨b, o, none⟩ u)) → P w → P w'
theorem Puts.refl (lo hi : Nat) (w : World) : Puts lo hi w w := fun _ _ h => h
theorem Puts.put {lo hi b : Nat} {w w' : World} (h : Puts lo hi w w') (h1 : lo ≤ b) (h2 : b < hi) (o : Nat) (u : Value) : Puts lo hi w (w'.setCell ⟨b, o, none⟩ u) :=
  fun P c p => c _ b o u h1 h2 (h P c p)
theorem Puts.trans {lo hi : Nat} {a b c : World} (h : Puts lo hi a b) (k : Puts lo hi b c) : Puts lo hi a c := fun P q p => k P q (h P q p)
theorem Puts.wider {lo hi lo' hi' : Nat} {a b : World} (h : Puts lo hi a b) (h1 : lo' ≤ lo) (h2 : hi ≤ hi') : Puts lo' hi' a b := fun P q p => h P (fun W b o u x y z => q W b o u (by omega) (by omega) z) p
/-- There are cells, which may be written. -/
structure Has (w : World) (b off n : Nat) : Prop where
  c : ∀ o, o < n → ∃ v, w.cell? ⟨b, off + o, none⟩ = some v
  f : ∀ o, w.frozen? ⟨b, o, none⟩ = false
theorem Has.put {w : World} {b off n : Nat} (h : Has w b off n) (b' o : Nat) (u : Value) : Has (w.setCell ⟨b', o, none⟩ u) b off n :=
  ⟨fun i hi => by
    obtain ⟨v, hv⟩ := h.c i hi
    by_cases e : b' = b ∧ o = off + i
    · obtain ⟨rfl, rfl⟩ := e
      exact ⟨u, cell_same hv u⟩
    · refine ⟨v, (cell_other ?_ u).trans hv⟩
      by_cases e1 : b' = b
      · exact .inr (fun q => e ⟨e1, q⟩)
      · exact .inl e1, fun i => (World.frozen?_setCell ..).trans (h.f i)⟩

/-- Rows of points that may be marked: the list lies in block b, the rows from block lo up to below hi. -/
def MarkS (lo hi : Nat) (w : World) (b off : Nat) (rs : List (List (Int × Int))) : Prop :=
  ∀ i, i < rs.length → ∃ a' c', w.cell? ⟨b, off + i, none⟩ = some (.slice a' (rowA rs i).length c') ∧ (rowA rs i).length ≤ c' ∧ c' ≤ maxLen ∧ ((rowA rs i).length = 0 ∨ ∃ b' off', a' = some ⟨b', off', none⟩ ∧ lo ≤ b' ∧ b' < hi ∧ Has w b' off' ((rowA rs i).length * 2))
theorem MarkS.put {lo hi b off b' o : Nat} {w : World} {rs : List (List (Int × Int))} {u : Value} (h : MarkS lo hi w b off rs) (hb : b < lo) (h1 : lo ≤ b') : MarkS lo hi (w.setCell ⟨b', o, none⟩ u) b off rs := by
  intro i hi'
  obtain ⟨a', c', g, f1, f2, r⟩ := h i hi'
  refine ⟨a', c', (cell_other (.inl (by omega)) u).trans g, f1, f2, ?_⟩
  rcases r with r | ⟨b2, o2, e, l1, l2, H⟩
  · exact .inl r
  · exact .inr ⟨b2, o2, e, l1, l2, H.put b' o u⟩
theorem MarkS.below {lo hi b off : Nat} {w w' : World} {rs : List (List (Int × Int))} (h : MarkS lo hi w b off rs) (bn : Below w.heap.size w w') : MarkS lo hi w' b off rs := by
  intro i hi'
  obtain ⟨a', c', g, f1, f2, r⟩ := h i hi'
  refine ⟨a', c', bat bn g, f1, f2, ?_⟩
  rcases r with r | ⟨b2, o2, e, l1, l2, H⟩
  · exact .inl r
  · rcases Nat.eq_zero_or_pos (rowA rs i).length with z | z
    · exact .inl z
    · refine .inr ⟨b2, o2, e, l1, l2, fun o ho => ?_, fun o => ?_⟩
      · obtain ⟨v, hv⟩ := H.c o ho
        exact ⟨v, bat bn hv⟩
      · obtain ⟨v, hv⟩ := H.c 0 (by omega)
        have hlt : b2 < w.heap.size := World.block_lt_of_cell? w ⟨b2, o2 + 0, none⟩ hv
        exact (bn.frozen (p := ⟨b2, o, none⟩) hlt).trans (H.f o)
theorem SeesP.has {w : World} {b off c : Nat} {ps : List (Int × Int)} (h : SeesP w (some ⟨b, off, none⟩) c ps) (f : ∀ o, w.frozen? ⟨b, o, none⟩ = false) : Has w b off (ps.length * 2) :=
  ⟨fun o ho => by
    have hi : o / 2 < ps.length := by omega
    obtain ⟨b', off', e, hc⟩ := h.cells (by intro e; simp [e] at hi)
    simp only [Option.some.injEq, Addr.mk.injEq] at e
    obtain ⟨rfl, rfl, _⟩ := e
    obtain ⟨c0, c1⟩ := hc _ hi
    have hm : o % 2 = 0 ∨ o % 2 = 1 := by omega
    rcases hm with m | m
    · exact ⟨_, by rw [show off + o = off + o / 2 * 2 by omega]; exact c0⟩
    · exact ⟨_, by rw [show off + o = off + o / 2 * 2 + 1 by omega]; exact c1⟩, f⟩
theorem OwnS.mark {lo b off : Nat} {w : World} {c : Nat} {rs : List (List (Int × Int))} (h : OwnS lo w (some ⟨b, off, none⟩) c rs) : MarkS (b + 1) w.heap.size w b off rs := by
  intro i hi
  obtain ⟨b0, off0, e, _, hc⟩ := h.cells (by intro e; simp [e] at hi)
  simp only [Option.some.injEq, Addr.mk.injEq] at e
  obtain ⟨rfl, rfl, _⟩ := e
  obtain ⟨a', c', g, S, r⟩ := hc i hi
  refine ⟨a', c', g, S.fits, S.max, ?_⟩
  rcases Nat.eq_zero_or_pos (rowA rs i).length with z | z
  · exact .inl z
  · obtain ⟨b', off', rfl, _⟩ := S.cells (by intro e; simp [e] at z)
    obtain ⟨r1, r2, r3, r4⟩ := r b' off' rfl
    exact .inr ⟨b', off', rfl, r2, r3, S.has r4⟩

theorem belowPuts {b lo hi : Nat} {w0 w w' : World} (h : Below b w0 w) (P : Puts lo hi w w') (hb : b ≤ lo) : Below b w0 w' :=
  P (fun W => Below b w0 W) (fun _ b' o u h1 _ q => q.setCell (p := ⟨b', o, none⟩) (Nat.le_trans hb h1) u) h
theorem Box2.puts {l p lo hi : Nat} {w w' : World} {x0 x1 : Value} (h : Box2 l w p x0 x1) (P : Puts lo hi w w') (hp : p < lo ∨ hi ≤ p) : Box2 l w' p x0 x1 :=
  P (fun W => Box2 l W p x0 x1) (fun _ b o u h1 h2 q => ⟨(cell_other (.inl (by omega)) u).trans q.c0, (cell_other (.inl (by omega)) u).trans q.c1, fun i => (World.frozen?_setCell ..).trans (q.fr i), q.lo⟩) h
theorem keepG4 {W W' : World} {p q : Nat} {v0 v1 v2 v3 : Value} (k : W.cell? ⟨p, 0, none⟩ = some v0 ∧ W.cell? ⟨p, 1, none⟩ = some v1 ∧ W.cell? ⟨q, 0, none⟩ = some v2 ∧ W.cell? ⟨q, 1, none⟩ = some v3) (hb : Below W.heap.size W W') :
    W'.cell? ⟨p, 0, none⟩ = some v0 ∧ W'.cell? ⟨p, 1, none⟩ = some v1 ∧ W'.cell? ⟨q, 0, none⟩ = some v2 ∧ W'.cell? ⟨q, 1, none⟩ = some v3 :=
  ⟨bat hb k.1, bat hb k.2.1, bat hb k.2.2.1, bat hb k.2.2.2⟩
end Go.Proofs.Ytcnmglghmianoaa
