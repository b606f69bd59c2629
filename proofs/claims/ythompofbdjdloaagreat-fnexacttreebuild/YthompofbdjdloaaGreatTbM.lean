/- The mathematics of TreeBuild: levels of at most four, up to one node. -/
import Derived.Test.YthompofbdjdloaaGreatTbA
import Derived.Test.YthompofbdjdloaaGreatJnM
namespace Go.Proofs.YthompofbdjdloaaGreat
open Go.RowKit

/-- The part of a list that is its i-th four. -/
def ch4 {α : Type} (l : List α) (i : Nat) : List α := (l.drop (4 * i)).take 4
theorem ch4_len {α : Type} (l : List α) (i : Nat) : (ch4 l i).length ≤ 4 := by unfold ch4; rw [List.length_take]; omega
theorem ch4_len' {α : Type} (l : List α) (i : Nat) : (ch4 l i).length = min 4 (l.length - 4 * i) := by unfold ch4; rw [List.length_take, List.length_drop]
theorem take_ch4 {α : Type} (l : List α) (k : Nat) : l.take (4 * (k + 1)) = l.take (4 * k) ++ ch4 l k := by
  unfold ch4
  rw [show 4 * (k + 1) = 4 * k + 4 by omega, List.take_add]
theorem ch4_mem {α : Type} {l : List α} {i : Nat} {x : α} (h : x ∈ ch4 l i) : x ∈ l := List.mem_of_mem_drop (List.mem_of_mem_take h)
/-- The first leaves of boxes and numbers; the first nodes of a level above another one. -/
def lfK (bs : List Bx) (is : List Int) (k : Nat) : List Nd := (List.range k).map fun i => clS (.mk (0, 0, 0, 0) (ch4 bs i) (ch4 is i) [])
def upK (L : List Nd) (k : Nat) : List Nd := (List.range k).map fun i => clS (.mk (0, 0, 0, 0) [] [] (ch4 L i))
theorem lfK_len (bs : List Bx) (is : List Int) (k : Nat) : (lfK bs is k).length = k := by simp [lfK]
theorem upK_len (L : List Nd) (k : Nat) : (upK L k).length = k := by simp [upK]
theorem lfK_succ (bs : List Bx) (is : List Int) (k : Nat) : lfK bs is (k + 1) = lfK bs is k ++ [clS (.mk (0, 0, 0, 0) (ch4 bs k) (ch4 is k) [])] := by simp [lfK, List.range_succ]
theorem upK_succ (L : List Nd) (k : Nat) : upK L (k + 1) = upK L k ++ [clS (.mk (0, 0, 0, 0) [] [] (ch4 L k))] := by simp [upK, List.range_succ]
def lfs (bs : List Bx) (is : List Int) : List Nd := lfK bs is ((bs.length + 3) / 4)
def ups (L : List Nd) : List Nd := upK L ((L.length + 3) / 4)
theorem ups_len (L : List Nd) : (ups L).length = (L.length + 3) / 4 := upK_len ..
theorem lfs_len (bs : List Bx) (is : List Int) : (lfs bs is).length = (bs.length + 3) / 4 := lfK_len ..
/-- The one node at last. -/
def topOf (L : List Nd) : Nd := if L.length ≤ 1 then ndA L 0 else topOf (ups L)
termination_by L.length
decreasing_by rw [ups_len]; omega
theorem topOf_one {L : List Nd} (h : L.length ≤ 1) : topOf L = ndA L 0 := by rw [topOf, if_pos h]
theorem topOf_up {L : List Nd} (h : 1 < L.length) : topOf L = topOf (ups L) := by conv => lhs; rw [topOf, if_neg (by omega)]
def bldT (bs : List Bx) (is : List Int) : Nd := topOf (lfs bs is)
/-- All boxes of a level are right. -/
def okN (L : List Nd) : Prop := ∀ k ∈ L, okX k.b = true
theorem clS_b (t : Nd) : (clS t).b = bxS t := by cases t; rfl
theorem clS_bs (t : Nd) : (clS t).bs = t.bs := by cases t; rfl
theorem clS_is (t : Nd) : (clS t).is = t.is := by cases t; rfl
theorem clS_ks (t : Nd) : (clS t).ks = t.ks := by cases t; rfl
theorem allOk_mem {bs : List Bx} (h : ∀ b ∈ bs, okX b = true) : allOk bs bs.length = true := by
  rw [allOk_iff]
  intro i hi
  unfold bxAt
  rw [List.getElem?_eq_getElem hi]
  exact h _ (List.getElem_mem hi)
/-- The box that the program puts together is the one that is told. -/
theorem bxS_lf {bs : List Bx} (is : List Int) (h : ∀ b ∈ bs, okX b = true) (c : Bx) : bxS (.mk c bs is []) = jnI bs := by
  exact (if_pos (show (Nd.mk c bs is []).ks = [] from rfl)).trans (jnI_jnS (allOk_mem h)).symm
theorem bxS_up {ks : List Nd} (h : okN ks) (c : Bx) (h0 : ks ≠ []) : bxS (.mk c [] [] ks) = jnI (ks.map Nd.b) := by
  exact (if_neg (show ¬ (Nd.mk c [] [] ks).ks = [] from h0)).trans (jnI_jnS (kids_ok h)).symm
theorem okX_lf {bs : List Bx} (is : List Int) (h : ∀ b ∈ bs, okX b = true) (c : Bx) (h0 : bs ≠ []) : okX (bxS (.mk c bs is [])) = true := by
  rw [bxS_lf is h]
  exact jnI_ok (allOk_mem h) (by simpa using h0)
theorem okX_up {ks : List Nd} (h : okN ks) (c : Bx) (h0 : ks ≠ []) : okX (bxS (.mk c [] [] ks)) = true := by
  rw [bxS_up h c h0]
  exact jnI_ok (kids_ok h) (by simpa using h0)
theorem ch4_ne {α : Type} {l : List α} {i : Nat} (h : i < (l.length + 3) / 4) : ch4 l i ≠ [] := by
  intro e
  have := congrArg List.length e
  rw [ch4_len'] at this
  simp at this
  omega
theorem okN_lfK {bs : List Bx} (is : List Int) (h : ∀ b ∈ bs, okX b = true) {k : Nat} (hk : k ≤ (bs.length + 3) / 4) : okN (lfK bs is k) := by
  intro t ht
  unfold lfK at ht
  obtain ⟨i, hi, rfl⟩ := List.mem_map.1 ht
  rw [List.mem_range] at hi
  rw [clS_b]
  exact okX_lf _ (fun b hb => h b (ch4_mem hb)) _ (ch4_ne (by omega))
theorem okN_upK {L : List Nd} (h : okN L) {k : Nat} (hk : k ≤ (L.length + 3) / 4) : okN (upK L k) := by
  intro t ht
  unfold upK at ht
  obtain ⟨i, hi, rfl⟩ := List.mem_map.1 ht
  rw [List.mem_range] at hi
  rw [clS_b]
  exact okX_up (fun b hb => h b (ch4_mem hb)) _ (ch4_ne (by omega))
/-- How great it becomes. -/
theorem szApp : ∀ (a b : List Nd), ndSz.ndsSz (a ++ b) = ndSz.ndsSz a + ndSz.ndsSz b
  | [], b => by simp [ndSz.ndsSz]
  | t :: ts, b => by simp [ndSz.ndsSz, szApp ts]; omega
theorem ndSz_cl (t : Nd) : ndSz (clS t) = ndSz t := by cases t; simp [clS, ndSz, Nd.bs, Nd.is, Nd.ks]
theorem sz_upK (L : List Nd) : ∀ k, ndSz.ndsSz (upK L k) = ndSz.ndsSz (L.take (4 * k)) + (L.take (4 * k)).length
  | 0 => by simp [upK, ndSz.ndsSz]
  | k + 1 => by
    rw [upK_succ, szApp, sz_upK L k, take_ch4, szApp, List.length_append]
    simp only [ndSz.ndsSz, ndSz_cl, ndSz, List.length_nil]
    omega
theorem sz_lfK (bs : List Bx) (is : List Int) (hl : bs.length = is.length) : ∀ k, ndSz.ndsSz (lfK bs is k) = 2 * (bs.take (4 * k)).length
  | 0 => by simp [lfK, ndSz.ndsSz]
  | k + 1 => by
    rw [lfK_succ, szApp, sz_lfK bs is hl k, take_ch4, List.length_append]
    have e : (ch4 is k).length = (ch4 bs k).length := by rw [ch4_len', ch4_len', hl]
    simp only [ndSz.ndsSz, ndSz_cl, ndSz, List.length_nil, e]
    omega
theorem sz_ups (L : List Nd) : ndSz.ndsSz (ups L) = ndSz.ndsSz L + L.length := by
  unfold ups
  rw [sz_upK, List.take_of_length_le (by omega)]
theorem sz_top : ∀ (n : Nat) (L : List Nd), L.length ≤ n → ndSz (topOf L) ≤ ndSz.ndsSz L + 2 * L.length
  | 0, L, h => by
    have : L = [] := List.eq_nil_of_length_eq_zero (by omega)
    subst this
    rw [topOf_one (by simp)]
    simp [ndA, default, ndSz, ndSz.ndsSz]
  | n + 1, L, h => by
    by_cases c : L.length ≤ 1
    · rw [topOf_one c]
      cases L with
      | nil => simp [ndA, default, ndSz, ndSz.ndsSz]
      | cons t l => simp [ndA, ndSz.ndsSz]; omega
    · rw [topOf_up (by omega)]
      have := sz_top n (ups L) (by rw [ups_len]; omega)
      rw [sz_ups, ups_len] at this
      omega
theorem sz_bld {bs : List Bx} {is : List Int} (hl : bs.length = is.length) : ndSz (bldT bs is) ≤ 4 * bs.length + 2 := by
  have := sz_top _ (lfs bs is) (Nat.le_refl _)
  rw [lfs_len] at this
  unfold lfs at this
  rw [sz_lfK bs is hl, List.take_of_length_le (by omega)] at this
  unfold bldT lfs
  omega
/-- How many nodes. -/
def ndM : Nd → Nat
  | .mk _ _ _ ks => 1 + ndsM ks
where ndsM : List Nd → Nat
  | [] => 0
  | k :: ks => ndM k + ndsM ks
theorem ndsM_app : ∀ (a b : List Nd), ndM.ndsM (a ++ b) = ndM.ndsM a + ndM.ndsM b
  | [], b => by simp [ndM.ndsM]
  | t :: ts, b => by simp [ndM.ndsM, ndsM_app ts]; omega
theorem ndM_le : ∀ t, ndM t ≤ ndSz t + 1 := by
  refine Nd.ind ?_
  intro b bs is ks ih
  have key : ∀ l : List Nd, (∀ k ∈ l, ndM k ≤ ndSz k + 1) → ndM.ndsM l ≤ ndSz.ndsSz l + l.length := by
    intro l
    induction l with
    | nil => intro _; simp [ndM.ndsM]
    | cons k l ih2 =>
      intro hk
      have h1 := hk k (by simp)
      have h2 := ih2 (fun x hx => hk x (by simp [hx]))
      simp only [ndM.ndsM, ndSz.ndsSz, List.length_cons]
      omega
  have := key ks ih
  simp only [ndM, ndSz]
  omega
theorem ndM_pos : ∀ t, 0 < ndM t := by rintro ⟨b, bs, is, ks⟩; simp only [ndM]; omega
theorem ndsM_len : ∀ l : List Nd, l.length ≤ ndM.ndsM l
  | [] => Nat.le_refl _
  | t :: ts => by have := ndM_pos t; have := ndsM_len ts; simp only [ndM.ndsM, List.length_cons]; omega
end Go.Proofs.YthompofbdjdloaaGreat
