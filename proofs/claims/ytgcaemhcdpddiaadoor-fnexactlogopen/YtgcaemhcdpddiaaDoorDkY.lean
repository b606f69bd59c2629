/- The specification's Sync. -/
import Derived.Test.YtgcaemhcdpddiaaDoorDkU
import Derived.Laws.CopyRow
namespace Go.Proofs.YtgcaemhcdpddiaaDoor
open Go.RowKit

theorem wp_copy_at {P : Program} {w : World} {o : Oper} {a : Act} {K : Act → World → Prop} {Q : Exit → Act → World → Prop} (d s : Operand) (dT sT : TypeId)
    (ho : o.op = .call { callee := .builtin .copy, args := #[d, s], argTypes := #[dT, sT] }) (elem : TypeId) (hu : P.underlying dT = some (.slice elem)) (hsz : (P.info? elem).map (·.size) = some 1)
    (g off dLen dCap : Nat) (ad : Addr) (sLen sCap : Nat) (hd : a.eval d = .slice (some ⟨g, off, none⟩) dLen dCap) (hs : a.eval s = .slice (some ad) sLen sCap)
    (cur : Array Value) (t : TypeId) (hg : w.heap[g]? = some (.cells cur t (0, 0))) (cs : List Value) (hn : cs.length = Nat.min sLen dLen)
    (hsrc : ∀ j v, cs[j]? = some v → w.cell? (ad.add j) = some v) (hfit : off + cs.length ≤ cur.size) (h1 : ∀ v ∈ cs, v.oneCell' = true)
    (h : K (a.put o.dst (goInt cs.length)) (w.setRow g (cur.toList.take off ++ cs ++ cur.toList.drop (off + cs.length)).toArray)) : o.wp P a w K Q := by
  have hr := run_copy_row (P := P) w dT sT o.type elem g off dLen dCap ad sLen sCap cur t cs hu hsz hg hn hsrc hfit h1
  unfold Oper.wp execOp
  simp only [ho, resolve, invoke, builtin, Sem.run_bind, Sem.run_pure, Result.andThen_ok, List.map_toArray, List.map_cons, List.map_nil, hd, hs, hr]
  exact h
/-- Bytes that others are laid over. -/
def over (bs : List Int) (k : Nat) (ds : List Int) : List Int := bs.take k ++ ds ++ bs.drop (k + ds.length)
theorem over_len {bs : List Int} {k : Nat} {ds : List Int} (h : k + ds.length ≤ bs.length) : (over bs k ds).length = bs.length := by simp [over]; omega
theorem take_over {α : Type} (L : List α) (k n : Nat) (cs : List α) (h : k + cs.length ≤ n) (hn : n ≤ L.length) : (L.take k ++ cs ++ L.drop (k + cs.length)).take n = (L.take n).take k ++ cs ++ (L.take n).drop (k + cs.length) := by
  rw [List.take_append, List.take_of_length_le (by simp; omega), List.take_take, Nat.min_eq_left (by omega), List.drop_take]
  congr 2
  simp
  omega
theorem grownBy_setRow (w : World) (g : Nat) (cs : Array Value) : w.grownBy (w.setRow g cs) (some g) :=
  ⟨rfl, rfl, rfl, by simp [World.setRow], fun i _ hr => setRow_other w g i cs (fun e => hr (by rw [e]))⟩
/-- A copy into a row of the call's own. -/
theorem RowB.over {lo g c : Nat} {w : World} {bs : List Int} (h : RowB lo w (.slice (some ⟨g, 0, none⟩) bs.length c) bs) (k : Nat) (ds : List Int) (hk : k + ds.length ≤ bs.length) :
    ∃ cur : Array Value, w.heap[g]? = some (.cells cur 5 (0, 0)) ∧ k + (ds.map (Value.int .u8)).length ≤ cur.size ∧ RowB lo (w.setRow g (cur.toList.take k ++ ds.map (Value.int .u8) ++ cur.toList.drop (k + (ds.map (Value.int .u8)).length)).toArray) (.slice (some ⟨g, 0, none⟩) bs.length c) (over bs k ds) := by
  rcases h.2 with ⟨hv, _⟩ | ⟨q, cap, cur, hv, q3, q4, q5, q6, q7, q8⟩
  · cases hv
  · injection hv with e1 e2 e3
    injection e1 with e1
    injection e1 with e1
    subst e1 e3
    rw [Nat.mul_one] at q7 q8
    have fit : k + (ds.map (Value.int .u8)).length ≤ cur.size := by rw [List.length_map]; omega
    have hcl : bs.length ≤ cur.toList.length := by have e : cur.toList.length = cur.size := Array.length_toList; omega
    refine ⟨cur, q4, fit, ?_⟩
    have L : (cur.toList.take k ++ ds.map (Value.int .u8) ++ cur.toList.drop (k + (ds.map (Value.int .u8)).length)).length = cur.size := by simp at fit ⊢; omega
    unfold RowB
    rw [over_len hk]
    refine ⟨by rw [List.length_map, over_len hk, Nat.mul_one], .inr ⟨g, c, _, rfl, q3, setRow_heap w g _ _ _ _ q4, q5, q6, by rw [Nat.mul_one]; show List.length _ = _; rw [L]; exact q7, ?_⟩⟩
    rw [Nat.mul_one]
    show List.take _ (_ ++ _ ++ _) = _
    rw [take_over cur.toList k bs.length (ds.map (Value.int .u8)) (by rw [List.length_map]; exact hk) hcl, q8]
    simp [Go.Proofs.YtgcaemhcdpddiaaDoor.over, List.map_take, List.map_drop]
/-- The bytes, when the first j writes are done. -/
def syN (bs : List Int) (qs : List Wr) : Nat → List Int
  | 0 => bs
  | j + 1 => over (syN bs qs j) ((wrN qs j).1.toNat * 64) (wrN qs j).2
theorem syN_len {bs : List Int} {qs : List Wr} (h : DkOk bs qs) : ∀ j, j ≤ qs.length → (syN bs qs j).length = bs.length
  | 0, _ => rfl
  | j + 1, hj => by
    have ih := syN_len h j (by omega)
    have ok := h.2.2.2 j (by omega)
    unfold syN
    rw [over_len, ih]
    rw [ih, ok.2.2]
    have := ok.1
    have := ok.2.1
    have := h.1
    omega
/-- What Sync answers. -/
def SyRes (bs : List Int) (qs : List Wr) (bs' : List Int) (qs' : List Wr) : Prop := (DkOk bs qs ∧ bs' = syN bs qs qs.length ∧ qs' = []) ∨ (¬DkOk bs qs ∧ bs' = bs ∧ qs' = qs)
theorem SyRes.one {bs : List Int} {qs : List Wr} {b1 b2 : List Int} {q1 q2 : List Wr} (h : SyRes bs qs b1 q1) (k : SyRes bs qs b2 q2) : b1 = b2 ∧ q1 = q2 := by
  rcases h with ⟨a, b, c⟩ | ⟨a, b, c⟩
  · rcases k with ⟨a', b', c'⟩ | ⟨a', b', c'⟩
    · exact ⟨b.trans b'.symm, c.trans c'.symm⟩
    · exact absurd a a'
  · rcases k with ⟨a', b', c'⟩ | ⟨a', b', c'⟩
    · exact absurd a' a
    · exact ⟨b.trans b'.symm, c.trans c'.symm⟩
theorem SyRes.len {bs : List Int} {qs : List Wr} {b1 : List Int} {q1 : List Wr} (h : SyRes bs qs b1 q1) : b1.length = bs.length := by
  rcases h with ⟨a, b, _⟩ | ⟨_, b, _⟩
  · rw [b, syN_len a _ (Nat.le_refl _)]
  · rw [b]

end Go.Proofs.YtgcaemhcdpddiaaDoor
