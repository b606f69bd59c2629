/- The mathematics of joined boxes: the program's join of a list is the specification's. -/
import Derived.Test.YthompofbdjdloaaGreatTrG
import Derived.Test.YthompofbdjdloaaGreatTrQ
namespace Go.Proofs.YthompofbdjdloaaGreat
open Go.RowKit

theorem jn2_self (x : Bx) : jn2 x x = x := by
  obtain ⟨a, b, c, d⟩ := x
  unfold jn2 jA jB jC jD
  cases boxOk a b c d <;> simp
theorem jn2_jnB {x y : Bx} (h : okX y = true) : jn2 x y = jnB x y := by
  unfold okX at h
  unfold jn2 jnB oA oB oC oD
  rw [h]
  simp
theorem okX_jn2 (x y : Bx) : okX (jn2 x y) = (okX x || okX y) := joined_ok ..
theorem allOk_iff (bs : List Bx) : ∀ n, allOk bs n = true ↔ ∀ i, i < n → okX (bxAt bs i) = true
  | 0 => ⟨fun _ i h => absurd h (by omega), fun _ => rfl⟩
  | n + 1 => by
    simp only [allOk, Bool.and_eq_true, allOk_iff bs n]
    constructor
    · rintro ⟨h1, h2⟩ i hi
      rcases Nat.lt_or_ge i n with c | c
      · exact h1 i c
      · rw [show i = n by omega]; exact h2
    · exact fun h => ⟨fun i hi => h i (by omega), h n (by omega)⟩
theorem jnJ_jnU {bs : List Bx} (h : ∀ i, i < bs.length → okX (bxAt bs i) = true) : ∀ j, j + 1 ≤ bs.length → jnJ bs (j + 1) = jnU bs (j + 1)
  | 0, _ => jn2_self _
  | j + 1, hj => by
    show jn2 (jnJ bs (j + 1)) _ = jnB (jnU bs (j + 1)) _
    rw [jnJ_jnU h j (by omega), jn2_jnB (h _ (by omega))]
theorem jnI_jnS {bs : List Bx} (h : allOk bs bs.length = true) : jnI bs = jnS bs := by
  rw [allOk_iff] at h
  unfold jnI jnS
  split
  · rename_i h0; rw [h0]; rfl
  · rename_i h0
    obtain ⟨n, hn⟩ : ∃ n, bs.length = n + 1 := ⟨bs.length - 1, by omega⟩
    have := jnJ_jnU h n (by omega)
    rw [hn]
    exact this
theorem jnJ_ok {bs : List Bx} (h : okX (bxAt bs 0) = true) : ∀ j, okX (jnJ bs j) = true
  | 0 => h
  | j + 1 => by
    show okX (jn2 _ _) = true
    rw [okX_jn2, jnJ_ok h j]
    rfl
theorem jnI_ok {bs : List Bx} (h : allOk bs bs.length = true) (h0 : bs.length ≠ 0) : okX (jnI bs) = true := by
  unfold jnI
  rw [if_neg h0]
  exact jnJ_ok ((allOk_iff _ _).1 h 0 (by omega)) _
theorem kids_ok {ks : List Nd} (h : ∀ k ∈ ks, okX k.b = true) : allOk (ks.map Nd.b) (ks.map Nd.b).length = true := by
  rw [allOk_iff]
  intro i hi
  rw [List.length_map] at hi
  have : bxAt (ks.map Nd.b) i = ks[i].b := by unfold bxAt; rw [List.getElem?_map, List.getElem?_eq_getElem hi]; rfl
  rw [this]
  exact h _ (List.getElem_mem hi)
end Go.Proofs.YthompofbdjdloaaGreat
