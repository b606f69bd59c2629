/- The writes of a record, the specification's side. -/
import Derived.Test.YtgcaemhcdpddiaaDoorLgG
import Derived.Test.YtgcaemhcdpddiaaDoorQuR
import Derived.Test.YtgcaemhcdpddiaaDoorDkU
import Derived.Test.YtgcaemhcdpddiaaDoorPtG
import Derived.Deep.DeepCutAuto
namespace Go.Proofs.YtgcaemhcdpddiaaDoor
open Go.RowKit

/-- How many pieces a record has. -/
def lgMany (n : Nat) : Nat := if n = 0 then 1 else (n + 43) / 44
/-- A piece of a record. -/
def lgP (rs : List Int) (i : Nat) : List Int := (rs.drop (i * 44)).take 44
/-- The first writes of a record. -/
def lgWs (F N E : Int) (rs : List Int) (j : Nat) : List Wr := (List.range j).map fun (i : Nat) => (F + N + (i : Int), lgSec E (N + (i : Int)) (decide (i + 1 < lgMany rs.length)) (lgP rs i))
/-- The record may be added. -/
def LwOk (F L N E : Int) (n : Nat) : Prop := LgFine F L N E ∧ n ≤ 4000 ∧ (lgMany n : Int) ≤ L - F + 1 - N
/-- What LogWrites answers. -/
def LwRes (F L N E : Int) (rs : List Int) (qs : List Wr) : Prop := (LwOk F L N E rs.length ∧ qs = lgWs F N E rs (lgMany rs.length)) ∨ (¬LwOk F L N E rs.length ∧ qs = [])
theorem LwRes.one {F L N E : Int} {rs : List Int} {qs qs' : List Wr} (h : LwRes F L N E rs qs) (k : LwRes F L N E rs qs') : qs = qs' := by
  rcases h with ⟨a, b⟩ | ⟨a, b⟩ <;> rcases k with ⟨c, d⟩ | ⟨c, d⟩
  · rw [b, d]
  · exact absurd a c
  · exact absurd c a
  · rw [b, d]
theorem lgWs_step (F N E : Int) (rs : List Int) (j : Nat) : lgWs F N E rs (j + 1) = lgWs F N E rs j ++ [(F + N + (j : Int), lgSec E (N + (j : Int)) (decide (j + 1 < lgMany rs.length)) (lgP rs j))] := by simp [lgWs, List.range_succ]
theorem lgWs_len (F N E : Int) (rs : List Int) (j : Nat) : (lgWs F N E rs j).length = j := by simp [lgWs]
theorem lgP_len (rs : List Int) (i : Nat) : (lgP rs i).length ≤ 44 := by simp [lgP]; omega
theorem lgP_u8 {rs : List Int} (h : ∀ x ∈ rs, 0 ≤ x ∧ x < 256) (i : Nat) : ∀ x ∈ lgP rs i, 0 ≤ x ∧ x < 256 := fun x hx => h x (List.mem_of_mem_drop (List.mem_of_mem_take hx))
theorem lgMany_pos (n : Nat) : 1 ≤ lgMany n := by unfold lgMany; split <;> omega
theorem lgMany_lt {n i : Nat} (h : i < lgMany n) : i * 44 ≤ n := by unfold lgMany at h; split at h <;> omega
theorem lgMany_last {n i : Nat} (h : i < lgMany n) : (i + 1 < lgMany n) ↔ 44 < n - i * 44 := by
  unfold lgMany at h ⊢
  by_cases hz : n = 0
  · rw [if_pos hz] at h ⊢; omega
  · rw [if_neg hz] at h ⊢; omega
theorem lgRoom_fine {F L N E : Int} (h : LgFine F L N E) : lgRoom F L N = L - F + 1 - N := by
  obtain ⟨h1, h2, h3, h4, h5, _, _⟩ := h
  have e : wrap64 (wrap64 (wrap64 (L - F) + 1) - N) = L - F + 1 - N := by unfold wrap64; omega
  unfold lgRoom
  rw [e, if_neg (by omega)]
theorem lgP_part {rs : List Int} {j t : Nat} (ht : t = min ((j + 1) * 44) rs.length) : (rs.drop (j * 44)).take (t - j * 44) = lgP rs j := by
  unfold lgP
  rcases Nat.le_total ((j + 1) * 44) rs.length with q | q
  · rw [ht, Nat.min_eq_left q, show (j + 1) * 44 - j * 44 = 44 by omega]
  · rw [ht, Nat.min_eq_right q, List.take_of_length_le (by rw [List.length_drop]; exact Nat.le_refl _), List.take_of_length_le (by rw [List.length_drop]; omega)]
theorem Box4.grownW {lo q : Nat} {w w' : World} {x0 x1 x2 x3 : Value} {row : Option Nat} (h : Box4 lo w q x0 x1 x2 x3) (g : w.grownBy w' row) (ne : row ≠ some q) : Box4 lo w' q x0 x1 x2 x3 := by
  obtain ⟨hc, hf⟩ := grown_at g h.lt (fun e => ne e.symm)
  exact ⟨(hc 0).trans h.c0, (hc 1).trans h.c1, (hc 2).trans h.c2, (hc 3).trans h.c3, fun o => (hf o).trans (h.fr o), h.lo⟩
/-- The part of bytes that are seen, in any block. -/
theorem SeesB.part' {w : World} {a : Option Addr} {c : Nat} {bs : List Int} (h : SeesB w a c bs) {i n : Nat} (hi : i + n ≤ bs.length) (hn : bs ≠ []) : ∃ b off, a = some ⟨b, off, none⟩ ∧ SeesB w (some ⟨b, off + i, none⟩) (c - i) ((bs.drop i).take n) := by
  obtain ⟨b, off, rfl, _⟩ := h.cells hn
  exact ⟨b, off, rfl, h.part hi⟩

end Go.Proofs.YtgcaemhcdpddiaaDoor
