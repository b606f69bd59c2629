import Derived.Test.YthompofbdjdloaaGreatTrB
import Derived.Deep.Cut
import Derived.LaidEqlPtr
/- The levels of a tree, of the program (levelsOf over *Node). -/
namespace Go.Proofs.YthompofbdjdloaaGreat
open Go.RowKit

def rowTp (rs : List (List Ptr)) (i : Nat) : List Ptr := rs[i]?.getD []
theorem slice_newTp (w : World) (x : Value) (t : TypeId) : ∀ j u, [x][j]? = some u → (w.alloc (.cells #[x] t)).cell? ((⟨w.heap.size, 0, none⟩ : Addr).add j) = some u := by
  intro j u hu
  rcases j with _ | j
  · simp at hu; subst hu; exact cell_new w #[x] t 0 rfl
  · simp at hu
theorem SeesTp.kept {w w' : World} {g c : Nat} {es : List Ptr} {row : Option Nat} (h : SeesTp w (some ⟨g, 0, none⟩) c es) (G : w.grownBy w' row) (ne : some g ≠ row) : SeesTp w' (some ⟨g, 0, none⟩) c es :=
  ⟨h.fits, h.max, fun hn => by
    obtain ⟨b, off, ha, hc⟩ := h.cells hn
    simp only [Option.some.injEq, Addr.mk.injEq] at ha
    obtain ⟨rfl, rfl, _⟩ := ha
    exact ⟨g, 0, rfl, fun i hi => G.cell (hc i hi) ne⟩⟩
theorem rowTp_snoc {rs : List (List Ptr)} {es : List Ptr} {i : Nat} : rowTp (rs ++ [es]) i = if i < rs.length then rowTp rs i else if i = rs.length then es else [] := by
  unfold rowTp
  rcases Nat.lt_trichotomy i rs.length with c | c | c
  · rw [List.getElem?_append_left c, if_pos c]
  · rw [if_neg (by omega), if_pos c, List.getElem?_append_right (by omega), c, Nat.sub_self]
    rfl
  · rw [if_neg (by omega), if_neg (by omega), List.getElem?_append_right (by omega), List.getElem?_eq_none (by simp; omega)]
    rfl
/-- The trees of a level. -/
def lvl (t : Nd) : Nat → List Nd
  | 0 => [t]
  | k + 1 => kdN (lvl t k) (lvl t k).length
/-- Up to here all have kids, and no level has too many. -/
def lvFine (t : Nd) (k : Nat) : Prop := ∀ i, i < k → lfN (lvl t i) (lvl t i).length = 0 ∧ (lvl t (i + 1)).length ≤ 600
def lvGood (t : Nd) (m : Nat) : Prop := lvFine t m ∧ lfN (lvl t m) (lvl t m).length = (lvl t m).length
def lvBad (t : Nd) : Prop := ∃ k, lvFine t k ∧ ((0 < lfN (lvl t k) (lvl t k).length ∧ lfN (lvl t k) (lvl t k).length < (lvl t k).length) ∨ 600 < (lvl t (k + 1)).length)
/-- How great the trees of a list are. -/
theorem sz_app (f : List Nd) : ∀ g : List Nd, ndSz.ndsSz (f ++ g) = ndSz.ndsSz f + ndSz.ndsSz g := by
  induction f with
  | nil => intro g; simp [ndSz.ndsSz]
  | cons a f ih => intro g; simp only [List.cons_append, ndSz.ndsSz, ih]; omega
theorem sz_ks (t : Nd) : ndSz.ndsSz t.ks + t.ks.length ≤ ndSz t := by
  obtain ⟨b, bs, is, ks⟩ := t
  simp only [ndSz, Nd.ks]
  omega
theorem sz_kd (ts : List Nd) : ∀ j, j ≤ ts.length → ndSz.ndsSz (kdN ts j) + (kdN ts j).length ≤ ndSz.ndsSz (ts.take j)
  | 0, _ => by simp [kdN, ndSz.ndsSz]
  | j + 1, h => by
    have h1 := sz_kd ts j (by omega)
    have h2 := sz_ks (ndA ts j)
    rw [ndsSz_at (by omega)]
    simp only [kdN, List.length_append, sz_app]
    omega
/-- A level deeper there is less. -/
theorem sz_lvl (t : Nd) : ∀ k, lvFine t k → k + (ndSz.ndsSz (lvl t k) + (lvl t k).length) ≤ ndSz t + 1 ∧ 0 < (lvl t k).length
  | 0, _ => by simp [lvl, ndSz.ndsSz]
  | k + 1, h => by
    obtain ⟨h1, h0⟩ := sz_lvl t k (fun i hi => h i (by omega))
    have h2 := sz_kd (lvl t k) (lvl t k).length (Nat.le_refl _)
    rw [List.take_length] at h2
    have h3 := (h k (by omega)).1
    have h4 : 0 < (kdN (lvl t k) (lvl t k).length).length := by
      rcases Nat.eq_zero_or_pos (kdN (lvl t k) (lvl t k).length).length with c | c
      · exfalso
        have key : ∀ j, j ≤ (lvl t k).length → (kdN (lvl t k) j).length = 0 → lfN (lvl t k) j = j := by
          intro j
          induction j with
          | zero => intro _ _; rfl
          | succ j ih =>
            intro hj hz
            simp only [kdN, List.length_append] at hz
            simp only [lfN]
            rw [ih (by omega) (by omega), if_pos (by omega)]
        have := key _ (Nat.le_refl _) c
        omega
      · exact c
    simp only [lvl]
    omega
def lenV : Value → Nat
  | .slice _ n _ => n
  | _ => 0
/-- From where on the rows of a level's first tree lie. -/
def loAt (qss : List (List Ptr)) (k : Nat) : Nat := if k = 0 then 0 else (ptAt (rowTp qss k) 0).1 + 1

theorem infoNd : (Tryz.prog.info? 32).map (fun i => (i.zero, i.size, i.bytes)) = some (some (.agg #[.int .i64 0, .int .i64 0, .int .i64 0, .int .i64 0, .slice none 0 0, .slice none 0 0, .slice none 0 0]), 7, 104) := by kernel_rfl
theorem ptr_ne {b o mb mo : Nat} (ne : (b, o) ≠ (mb, mo)) {W : World} (h1 : Plain W b) (h2 : Plain W mb) : (binOp .eql 102 (.pointer (some ⟨b, o, none⟩)) (.pointer (some ⟨mb, mo, none⟩))).run Tryz.prog W = .ok (.bool false) W := by
  obtain ⟨i0, hi, hz0, hz1, hz2⟩ := info_parts infoNd
  obtain ⟨c1, t1, e1⟩ := h1
  obtain ⟨c2, t2, e2⟩ := h2
  refine run_eql_ptr_other W Tryz.underlying102 hi (by rw [hz1]; decide) ?_ e1 e2
  intro e
  injection e with e1 e2
  exact ne (by rw [e1, e2])
end Go.Proofs.YthompofbdjdloaaGreat

/- The levels of a tree, of the program (levelsOf over *Node). -/
namespace Go.Proofs.YthompofbdjdloaaGreat
open Go.RowKit

theorem ndA_sz {ts : List Nd} {i : Nat} (h : i < ts.length) : (ndA ts i).ks.length ≤ ndSz.ndsSz ts := by
  have h1 := sz_ks (ndA ts i)
  have h2 : ndSz (ndA ts i) ≤ ndSz.ndsSz ts := by
    have key : ∀ (l : List Nd) (k : Nd), k ∈ l → ndSz k ≤ ndSz.ndsSz l := by
      intro l
      induction l with
      | nil => intro k h; cases h
      | cons q l ih =>
        intro k hk
        simp only [ndSz.ndsSz]
        rcases List.mem_cons.1 hk with rfl | hk
        · omega
        · have := ih k hk
          omega
    exact key ts _ (ndA_mem h)
  omega

end Go.Proofs.YthompofbdjdloaaGreat
