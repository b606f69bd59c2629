/- Texts of shapes: mathematics alone. -/
import Derived.Test.YtneilolpmjblhaaDoorBldr
import Derived.Test.YtneilolpmjblhaaDoorGrp
import Derived.Test.YtneilolpmjblhaaDoorGoodS
import Derived.Lib.ItoaNum
import Derived.Lib.ItoaLen
namespace Go.Proofs.YtneilolpmjblhaaDoor
open Go.RowKit

/-- A number's text is what Itoa makes. -/
theorem itoa_numT (n : Int) : (⟨(Lib.itoa n).toArray⟩ : ByteArray) = numT n := by
  unfold Lib.itoa
  rcases Int.lt_trichotomy n 0 with h | h | h
  · rw [if_pos h]
    have e := numT_dec (g := true) (V := n.natAbs) (by omega)
    have e2 : sg true (n.natAbs : Int) = n := by unfold sg; simp; omega
    rw [e2] at e
    rw [e]
    rfl
  · subst h
    rw [if_neg (by decide)]
    have : Lib.decDigits (Int.toNat 0) = [48] := by rw [Lib.decDigits_one (by decide)]; rfl
    rw [this]
    rfl
  · rw [if_neg (by omega)]
    have e := numT_dec (g := false) (V := n.toNat) (by omega)
    have e2 : sg false (n.toNat : Int) = n := by unfold sg; simp; omega
    rw [e2] at e
    rw [e]
    rfl
theorem numT_size20 {n : Int} (h0 : -9223372036854775808 ≤ n) (h1 : n ≤ 9223372036854775807) : (numT n).size ≤ 21 := by
  rw [← itoa_numT]
  show (Lib.itoa n).toArray.size ≤ 21
  unfold Lib.itoa
  split
  · have := Lib.nDigits_le20 n.natAbs (by omega)
    rw [List.size_toArray, List.length_cons, Lib.decDigits_length]
    omega
  · have := Lib.nDigits_le20 n.toNat (by omega)
    rw [List.size_toArray, Lib.decDigits_length]
    omega

/-- The first j of a list of texts, joined. -/
def jn (ts : List ByteArray) : Nat → ByteArray
  | 0 => ⟨#[]⟩
  | 1 => ts[0]?.getD ⟨#[]⟩
  | j + 2 => jn ts (j + 1) ++ ⟨#[44, 32]⟩ ++ ts[j + 1]?.getD ⟨#[]⟩
def lsT (ts : List ByteArray) : ByteArray := ⟨#[40]⟩ ++ jn ts ts.length ++ ⟨#[41]⟩
def ptT (p : Int × Int) : ByteArray := numT p.1 ++ ⟨#[32]⟩ ++ numT p.2
def rwT (ps : List (Int × Int)) : ByteArray := lsT (ps.map ptT)
def wdT (k : Int) : ByteArray := if k = 1 then ⟨#[80, 79, 73, 78, 84, 32]⟩ else if k = 2 then ⟨#[80, 79, 73, 78, 84, 83, 32]⟩ else if k = 3 then ⟨#[76, 73, 78, 69, 32]⟩ else if k = 4 then ⟨#[76, 73, 78, 69, 83, 32]⟩ else ⟨#[65, 82, 69, 65, 32]⟩
def shT (k : Int) (rs : List (List (Int × Int))) : ByteArray := wdT k ++ (if k < 4 then rwT (rowA rs 0) else lsT (rs.map rwT))
def txT (k : Int) (rs : List (List (Int × Int))) : ByteArray := if goodB k rs then shT k rs else ⟨#[]⟩

theorem ba_empty (u : ByteArray) : u ++ ⟨#[]⟩ = u := by
  apply ByteArray.ext
  simp
theorem ba_empty' (u : ByteArray) : (⟨#[]⟩ : ByteArray) ++ u = u := by
  apply ByteArray.ext
  simp
theorem ba_assoc (u v t : ByteArray) : u ++ v ++ t = u ++ (v ++ t) := ByteArray.append_assoc
theorem jn_step (ts : List ByteArray) {j : Nat} (h : 0 < j) : jn ts (j + 1) = jn ts j ++ ⟨#[44, 32]⟩ ++ ts[j]?.getD ⟨#[]⟩ := by
  obtain ⟨i, rfl⟩ : ∃ i, j = i + 1 := ⟨j - 1, by omega⟩
  rfl
theorem getD_size {ts : List ByteArray} {S : Nat} (h : ∀ t ∈ ts, t.size ≤ S) (j : Nat) : (ts[j]?.getD ⟨#[]⟩).size ≤ S := by
  cases e : ts[j]? with
  | none => simp [ByteArray.size]
  | some t => exact h t (List.mem_of_getElem? e)
theorem jn_size {ts : List ByteArray} {S : Nat} (h : ∀ t ∈ ts, t.size ≤ S) : ∀ j, (jn ts j).size ≤ j * (S + 2)
  | 0 => by simp [jn, ByteArray.size]
  | 1 => by have := getD_size h 0; simp only [jn]; omega
  | j + 2 => by
    have ih := jn_size h (j + 1)
    have := getD_size h (j + 1)
    simp only [jn, ByteArray.size_append]
    have e : (⟨#[44, 32]⟩ : ByteArray).size = 2 := rfl
    rw [e]
    rw [Nat.add_mul] at ih ⊢
    omega
theorem lsT_size {ts : List ByteArray} {S : Nat} (h : ∀ t ∈ ts, t.size ≤ S) : (lsT ts).size ≤ ts.length * (S + 2) + 2 := by
  have := jn_size h ts.length
  unfold lsT
  rw [ByteArray.size_append, ByteArray.size_append]
  have e : (⟨#[40]⟩ : ByteArray).size = 1 := rfl
  have e2 : (⟨#[41]⟩ : ByteArray).size = 1 := rfl
  omega
theorem ok_at {ps : List (Int × Int)} (h : okL ps = true) {p : Int × Int} (hp : p ∈ ps) : (-10000000 ≤ p.1 ∧ p.1 ≤ 10000000) ∧ -10000000 ≤ p.2 ∧ p.2 ≤ 10000000 := by
  unfold okL at h
  have := List.all_eq_true.1 h p hp
  unfold ptOk at this
  rw [Bool.and_eq_true, inB_true, inB_true] at this
  omega
theorem ptT_size {p : Int × Int} (h : (-10000000 ≤ p.1 ∧ p.1 ≤ 10000000) ∧ -10000000 ≤ p.2 ∧ p.2 ≤ 10000000) : (ptT p).size ≤ 43 := by
  have a := numT_size20 (n := p.1) (by omega) (by omega)
  have b := numT_size20 (n := p.2) (by omega) (by omega)
  unfold ptT
  rw [ByteArray.size_append, ByteArray.size_append]
  have e : (⟨#[32]⟩ : ByteArray).size = 1 := rfl
  omega
theorem rwT_size {ps : List (Int × Int)} (h : okL ps = true) (hl : ps.length ≤ 60) : (rwT ps).size ≤ 2702 := by
  have := lsT_size (ts := ps.map ptT) (S := 43) (fun t ht => by
    obtain ⟨p, hp, rfl⟩ := List.mem_map.1 ht
    exact ptT_size (ok_at h hp))
  unfold rwT
  rw [List.length_map] at this
  omega
theorem strCells_append (u v : ByteArray) : Lib.strCells (u ++ v) = Lib.strCells u ++ Lib.strCells v := by
  unfold Lib.strCells
  simp
theorem strCells_byte (u : ByteArray) : Lib.strCells u = Lib.byteCells u.data.toList := rfl
end Go.Proofs.YtneilolpmjblhaaDoor
