/- A log as it is gone through, sector by sector: mathematics. -/
import Derived.Test.YtgcaemhcdpddiaaDoorLgR
import Derived.Test.YtgcaemhcdpddiaaDoorDkD
import Derived.Test.YtgcaemhcdpddiaaDoorBsR
namespace Go.Proofs.YtgcaemhcdpddiaaDoor
open Go.RowKit

/-- How far one has come: the state (0: between records, 1: within one, 2: ended), the next number, the least epoch, the greatest one, how many sectors whole records have, the records, what has begun. -/
structure LgSt where
  st : Nat
  nx : Nat
  le : Int
  mo : Int
  wh : Nat
  rc : List (List Int)
  bg : List Int
/-- It belongs to the log. -/
def lgGo (s : LgSt) (bs : List Int) : Prop := LgIs bs ∧ s.st ≠ 2 ∧ lgGet bs 4 = (s.nx : Int) ∧ s.le ≤ lgGet bs 0 ∧ (s.st = 1 → lgGet bs 0 = s.le)
noncomputable def lgMo (s : LgSt) (bs : List Int) : Int := @ite _ (LgIs bs) (Classical.propDecidable _) (max s.mo (lgGet bs 0)) s.mo
theorem lgMo_yes {s : LgSt} {bs : List Int} (h : LgIs bs) : lgMo s bs = max s.mo (lgGet bs 0) := if_pos h
theorem lgMo_no {s : LgSt} {bs : List Int} (h : ¬LgIs bs) : lgMo s bs = s.mo := if_neg h
noncomputable def lgStep (s : LgSt) (bs : List Int) : LgSt :=
  @ite _ (lgGo s bs) (Classical.propDecidable _)
    (if u8N bs 8 = 1 then ⟨1, s.nx + 1, lgGet bs 0, lgMo s bs, s.wh, s.rc, s.bg ++ lgPc bs⟩
    else ⟨0, s.nx + 1, lgGet bs 0, lgMo s bs, s.nx + 1, s.rc ++ [s.bg ++ lgPc bs], []⟩)
    ⟨2, s.nx, s.le, lgMo s bs, s.wh, s.rc, s.bg⟩
noncomputable def lgFold (S : Nat → List Int) (f : Nat) : Nat → LgSt
  | 0 => ⟨0, 0, 1, 0, 0, [], []⟩
  | k + 1 => lgStep (lgFold S f k) (S (f + k))
theorem lgStep_more {s : LgSt} {bs : List Int} (h : lgGo s bs) (h8 : u8N bs 8 = 1) : lgStep s bs = ⟨1, s.nx + 1, lgGet bs 0, lgMo s bs, s.wh, s.rc, s.bg ++ lgPc bs⟩ := by unfold lgStep; rw [if_pos h, if_pos h8]
theorem lgStep_last {s : LgSt} {bs : List Int} (h : lgGo s bs) (h8 : ¬u8N bs 8 = 1) : lgStep s bs = ⟨0, s.nx + 1, lgGet bs 0, lgMo s bs, s.nx + 1, s.rc ++ [s.bg ++ lgPc bs], []⟩ := by unfold lgStep; rw [if_pos h, if_neg h8]
theorem lgStep_no {s : LgSt} {bs : List Int} (h : ¬lgGo s bs) : lgStep s bs = ⟨2, s.nx, s.le, lgMo s bs, s.wh, s.rc, s.bg⟩ := by unfold lgStep; rw [if_neg h]
theorem lgPc_len {bs : List Int} (h : LgIs bs) : (lgPc bs).length ≤ 44 := by
  unfold lgPc
  rw [List.length_take]
  have := h.2.2.1
  omega
theorem uptoY_snoc (rs : List (List Int)) (r : List Int) : uptoY (rs ++ [r]) (rs ++ [r]).length = uptoY rs rs.length + r.length := by
  have keep : ∀ j, j ≤ rs.length → uptoY (rs ++ [r]) j = uptoY rs j := by
    intro j
    induction j with
    | zero => intro _; rfl
    | succ j ih =>
      intro hj
      simp only [uptoY]
      rw [ih (by omega), rowY_append_left (by omega)]
  rw [List.length_append, List.length_singleton]
  simp only [uptoY]
  rw [keep _ (Nat.le_refl _), rowY_append_last]
/-- What is always so. -/
structure LgInv (k : Nat) (s : LgSt) : Prop where
  st : s.st ≤ 2
  nx : s.nx ≤ k
  le : 1 ≤ s.le ∧ s.le ≤ 1000000
  mo : 0 ≤ s.mo ∧ s.mo ≤ 1000000
  wh : s.wh ≤ k
  sz : uptoY s.rc s.rc.length + s.bg.length ≤ k * 44
  rl : s.rc.length ≤ k
theorem lgMo_bd {s : LgSt} {bs : List Int} (h : 0 ≤ s.mo ∧ s.mo ≤ 1000000) : 0 ≤ lgMo s bs ∧ lgMo s bs ≤ 1000000 := by
  by_cases q : LgIs bs
  · rw [lgMo_yes q]; have := q.1; omega
  · rw [lgMo_no q]; exact h
theorem LgInv.step {k : Nat} {s : LgSt} {bs : List Int} (h : LgInv k s) : LgInv (k + 1) (lgStep s bs) := by
  have hm := lgMo_bd (bs := bs) h.mo
  have h1 := h.nx
  have h2 := h.wh
  have h3 := h.sz
  have h4 := h.rl
  by_cases g : lgGo s bs
  · have p := lgPc_len g.1
    have e := g.1.1
    by_cases h8 : u8N bs 8 = 1
    · rw [lgStep_more g h8]
      exact ⟨by simp, by simp; omega, e, hm, by simp; omega, by simp; omega, by simp; omega⟩
    · rw [lgStep_last g h8]
      refine ⟨by simp, by simp; omega, e, hm, by simp; omega, ?_, by simp; omega⟩
      show uptoY (s.rc ++ [s.bg ++ lgPc bs]) (s.rc ++ [s.bg ++ lgPc bs]).length + 0 ≤ _
      rw [uptoY_snoc, List.length_append]
      omega
  · rw [lgStep_no g]
    exact ⟨by simp, by simp; omega, h.le, hm, by simp; omega, by simp; omega, by simp; omega⟩
theorem lgFold_inv (S : Nat → List Int) (f : Nat) : ∀ k, LgInv k (lgFold S f k)
  | 0 => ⟨by simp [lgFold], by simp [lgFold], by simp [lgFold], by simp [lgFold], by simp [lgFold], by simp [lgFold, uptoY], by simp [lgFold]⟩
  | k + 1 => (lgFold_inv S f k).step
/-- The log of a disk. -/
noncomputable def lgOf (bs : List Int) (qs : List Wr) (F L : Int) : LgSt := lgFold (fun t => secN (syN bs qs qs.length) t) F.toNat (L - F + 1).toNat
/-- Its sectors are there. -/
def OpIn (bs : List Int) (qs : List Wr) (F L : Int) : Prop := DkOk bs qs ∧ 0 ≤ F ∧ F ≤ L ∧ L < ((bs.length / 64 : Nat) : Int)
def OpOk (bs : List Int) (qs : List Wr) (F L : Int) : Prop := OpIn bs qs F L ∧ (lgOf bs qs F L).mo ≠ 1000000
/-- What LogOpen answers. -/
def LoRes (bs : List Int) (qs : List Wr) (F L : Int) (a b c d : Int) (rs : List (List Int)) (r : Bool) : Prop :=
  (OpOk bs qs F L ∧ r = true ∧ a = F ∧ b = L ∧ c = ((lgOf bs qs F L).wh : Int) ∧ d = (lgOf bs qs F L).mo + 1 ∧ rs = (lgOf bs qs F L).rc) ∨ (¬OpOk bs qs F L ∧ r = false ∧ a = 0 ∧ b = 0 ∧ c = 0 ∧ d = 0 ∧ rs = [])
theorem LoRes.one {bs : List Int} {qs : List Wr} {F L a b c d a' b' c' d' : Int} {rs rs' : List (List Int)} {r r' : Bool} (h : LoRes bs qs F L a b c d rs r) (k : LoRes bs qs F L a' b' c' d' rs' r') : a = a' ∧ b = b' ∧ c = c' ∧ d = d' ∧ rs = rs' ∧ r = r' := by
  rcases h with ⟨q, h1, h2, h3, h4, h5, h6⟩ | ⟨q, h1, h2, h3, h4, h5, h6⟩ <;> rcases k with ⟨q', k1, k2, k3, k4, k5, k6⟩ | ⟨q', k1, k2, k3, k4, k5, k6⟩
  · exact ⟨h2.trans k2.symm, h3.trans k3.symm, h4.trans k4.symm, h5.trans k5.symm, h6.trans k6.symm, h1.trans k1.symm⟩
  · exact absurd q q'
  · exact absurd q' q
  · exact ⟨h2.trans k2.symm, h3.trans k3.symm, h4.trans k4.symm, h5.trans k5.symm, h6.trans k6.symm, h1.trans k1.symm⟩
theorem LoRes.size {bs : List Int} {qs : List Wr} {F L a b c d : Int} {rs : List (List Int)} {r : Bool} (h : LoRes bs qs F L a b c d rs r) : uptoY rs rs.length ≤ 2000000 := by
  rcases h with ⟨q, _, _, _, _, _, e⟩ | ⟨_, _, _, _, _, _, e⟩
  · subst e
    have := (lgFold_inv (fun t => secN (syN bs qs qs.length) t) F.toNat (L - F + 1).toNat).sz
    have h1 := q.1
    have h2 := h1.1.2.2.1
    have h3 := h1.2
    unfold lgOf
    omega
  · subst e; simp [uptoY]
/-- All bytes of a disk are bytes. -/
def Dk8 (bs : List Int) (qs : List Wr) : Prop := (∀ x ∈ bs, 0 ≤ x ∧ x < 256) ∧ ∀ i, ∀ x ∈ (wrN qs i).2, 0 ≤ x ∧ x < 256
theorem syN_u8 {bs : List Int} {qs : List Wr} (h : Dk8 bs qs) : ∀ j, ∀ x ∈ syN bs qs j, 0 ≤ x ∧ x < 256
  | 0 => h.1
  | j + 1 => fun x hx => by
    unfold syN over at hx
    rcases List.mem_append.1 hx with hx | hx
    · rcases List.mem_append.1 hx with hx | hx
      · exact syN_u8 h j x (List.mem_of_mem_take hx)
      · exact h.2 j x hx
    · exact syN_u8 h j x (List.mem_of_mem_drop hx)
theorem secN_u8 {bs : List Int} (h : ∀ x ∈ bs, 0 ≤ x ∧ x < 256) (t : Nat) : ∀ x ∈ secN bs t, 0 ≤ x ∧ x < 256 := fun x hx => h x (List.mem_of_mem_drop (List.mem_of_mem_take hx))
theorem secN_l64 {bs : List Int} {t : Nat} (h : (t + 1) * 64 ≤ bs.length) : (secN bs t).length = 64 := by unfold secN; rw [List.length_take, List.length_drop]; omega
end Go.Proofs.YtgcaemhcdpddiaaDoor
