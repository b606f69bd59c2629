/- The writes that are kept: mathematics. -/
import Derived.Test.YtgcaemhcdpddiaaDoorDkY
namespace Go.Proofs.YtgcaemhcdpddiaaDoor
open Go.RowKit

/-- The bytes, when the kept ones of the first j writes are done. -/
def skN (K : Nat → Bool) (bs : List Int) (qs : List Wr) : Nat → List Int
  | 0 => bs
  | j + 1 => if K j = true then over (skN K bs qs j) ((wrN qs j).1.toNat * 64) (wrN qs j).2 else skN K bs qs j
theorem skN_len {K : Nat → Bool} {bs : List Int} {qs : List Wr} (h : DkOk bs qs) : ∀ j, j ≤ qs.length → (skN K bs qs j).length = bs.length
  | 0, _ => rfl
  | j + 1, hj => by
    have ih := skN_len (K := K) h j (by omega)
    have ok := h.2.2.2 j (by omega)
    unfold skN
    split
    · rw [over_len, ih]
      rw [ih, ok.2.2]
      have := ok.1
      have := ok.2.1
      have := h.1
      omega
    · exact ih
theorem skN_all {K : Nat → Bool} {bs : List Int} {qs : List Wr} : ∀ j, (∀ i, i < j → K i = true) → skN K bs qs j = syN bs qs j
  | 0, _ => rfl
  | j + 1, h => by
    unfold skN syN
    rw [if_pos (h j (by omega)), skN_all j (fun i hi => h i (by omega))]
/-- What is answered where some writes are kept. -/
def SkRes (K : Nat → Bool) (bs : List Int) (qs : List Wr) (bs' : List Int) (qs' : List Wr) : Prop := (DkOk bs qs ∧ bs' = skN K bs qs qs.length ∧ qs' = []) ∨ (¬DkOk bs qs ∧ bs' = bs ∧ qs' = qs)

theorem SkRes.sync {bs : List Int} {qs : List Wr} {bs' : List Int} {qs' : List Wr} (h : SkRes (fun _ => true) bs qs bs' qs') : SyRes bs qs bs' qs' := by
  rcases h with ⟨a, b, c⟩ | h
  · exact .inl ⟨a, by rw [b, skN_all _ (fun _ _ => rfl)], c⟩
  · exact .inr h

/-- Whether the write j is kept. -/
def coin (ds : List Int) (j : Nat) : Bool := if j / 8 < ds.length then bits .and .u8 ((ds[j / 8]?.getD 0) / 2 ^ (j % 8)) 1 == 1 else false
/-- What Crash answers. -/
def CrRes (bs : List Int) (qs : List Wr) (ds : List Int) (bs' : List Int) (qs' : List Wr) : Prop := SkRes (coin ds) bs qs bs' qs'
theorem CrRes.one {bs : List Int} {qs : List Wr} {ds b1 b2 : List Int} {q1 q2 : List Wr} (h : CrRes bs qs ds b1 q1) (k : CrRes bs qs ds b2 q2) : b1 = b2 ∧ q1 = q2 := by
  rcases h with ⟨a, b, c⟩ | ⟨a, b, c⟩
  · rcases k with ⟨a', b', c'⟩ | ⟨a', b', c'⟩
    · exact ⟨b.trans b'.symm, c.trans c'.symm⟩
    · exact absurd a a'
  · rcases k with ⟨a', b', c'⟩ | ⟨a', b', c'⟩
    · exact absurd a' a
    · exact ⟨b.trans b'.symm, c.trans c'.symm⟩
theorem CrRes.len {bs : List Int} {qs : List Wr} {ds b1 : List Int} {q1 : List Wr} (h : CrRes bs qs ds b1 q1) : b1.length = bs.length := by
  rcases h with ⟨a, b, _⟩ | ⟨_, b, _⟩
  · rw [b, skN_len a _ (Nat.le_refl _)]
  · rw [b]

theorem uptoQ_left (qs : List Wr) (q : Wr) : ∀ j, j ≤ qs.length → uptoQ (qs ++ [q]) j = uptoQ qs j
  | 0, _ => rfl
  | j + 1, h => by simp only [uptoQ]; rw [uptoQ_left qs q j (by omega), wrN_left (by omega)]
theorem uptoQ_snoc (qs : List Wr) (q : Wr) : uptoQ (qs ++ [q]) (qs ++ [q]).length = uptoQ qs qs.length + 1 + q.2.length := by
  rw [List.length_append, List.length_singleton]
  simp only [uptoQ]
  rw [uptoQ_left qs q _ (Nat.le_refl _), wrN_last]
theorem syN_left (bs : List Int) (qs : List Wr) (q : Wr) : ∀ j, j ≤ qs.length → syN bs (qs ++ [q]) j = syN bs qs j
  | 0, _ => rfl
  | j + 1, h => by unfold syN; rw [syN_left bs qs q j (by omega), wrN_left (by omega)]
theorem syN_snoc (bs : List Int) (qs : List Wr) (q : Wr) : syN bs (qs ++ [q]) (qs ++ [q]).length = over (syN bs qs qs.length) (q.1.toNat * 64) q.2 := by
  rw [List.length_append, List.length_singleton]
  show over (syN bs (qs ++ [q]) qs.length) _ _ = _
  rw [syN_left bs qs q _ (Nat.le_refl _), wrN_last]
/-- The places of the first j writes that are kept. -/
def kpI (K : Nat → Bool) : Nat → List Nat
  | 0 => []
  | j + 1 => if K j = true then kpI K j ++ [j] else kpI K j
theorem kpI_lt (K : Nat → Bool) : ∀ j, ∀ i ∈ kpI K j, i < j
  | 0, i, h => by simp [kpI] at h
  | j + 1, i, h => by
    unfold kpI at h
    split at h
    · rcases List.mem_append.1 h with h | h
      · have := kpI_lt K j i h; omega
      · simp at h; omega
    · have := kpI_lt K j i h; omega
theorem kpI_up (K : Nat → Bool) : ∀ j, (kpI K j).Pairwise (· < ·)
  | 0 => by simp [kpI]
  | j + 1 => by
    unfold kpI
    split
    · rw [List.pairwise_append]
      exact ⟨kpI_up K j, by simp, fun x hx y hy => by simp at hy; subst hy; exact kpI_lt K _ x hx⟩
    · exact kpI_up K j
theorem kpI_len (K : Nat → Bool) : ∀ j, (kpI K j).length ≤ j
  | 0 => by simp [kpI]
  | j + 1 => by
    have := kpI_len K j
    unfold kpI
    split
    · rw [List.length_append, List.length_singleton]; omega
    · omega
/-- The writes that are kept. -/
def kpQ (K : Nat → Bool) (qs : List Wr) (j : Nat) : List Wr := (kpI K j).map (wrN qs)
def kpV (K : Nat → Bool) (vs : List Value) (j : Nat) : List Value := (kpI K j).map fun i => vs[i]?.getD undef
theorem kpQ_some {K : Nat → Bool} {qs : List Wr} {j : Nat} (h : K j = true) : kpQ K qs (j + 1) = kpQ K qs j ++ [wrN qs j] := by unfold kpQ; rw [kpI, if_pos h, List.map_append]; rfl
theorem kpQ_none {K : Nat → Bool} {qs : List Wr} {j : Nat} (h : ¬K j = true) : kpQ K qs (j + 1) = kpQ K qs j := by unfold kpQ; rw [kpI, if_neg h]
theorem kpV_some {K : Nat → Bool} {vs : List Value} {j : Nat} (h : K j = true) : kpV K vs (j + 1) = kpV K vs j ++ [vs[j]?.getD undef] := by unfold kpV; rw [kpI, if_pos h, List.map_append]; rfl
theorem kpV_none {K : Nat → Bool} {vs : List Value} {j : Nat} (h : ¬K j = true) : kpV K vs (j + 1) = kpV K vs j := by unfold kpV; rw [kpI, if_neg h]
theorem kp_lens (K : Nat → Bool) (qs : List Wr) (vs : List Value) (j : Nat) : (kpV K vs j).length = (kpQ K qs j).length := by unfold kpV kpQ; rw [List.length_map, List.length_map]
theorem syN_kept (K : Nat → Bool) (bs : List Int) (qs : List Wr) : ∀ j, syN bs (kpQ K qs j) (kpQ K qs j).length = skN K bs qs j
  | 0 => rfl
  | j + 1 => by
    by_cases h : K j = true
    · rw [kpQ_some h, syN_snoc, syN_kept K bs qs j]
      show _ = if K j = true then over (skN K bs qs j) ((wrN qs j).1.toNat * 64) (wrN qs j).2 else skN K bs qs j
      rw [if_pos h]
    · rw [kpQ_none h, syN_kept K bs qs j]
      show _ = if K j = true then over (skN K bs qs j) ((wrN qs j).1.toNat * 64) (wrN qs j).2 else skN K bs qs j
      rw [if_neg h]
theorem uptoQ_kept (K : Nat → Bool) (qs : List Wr) : ∀ j, uptoQ (kpQ K qs j) (kpQ K qs j).length ≤ uptoQ qs j
  | 0 => Nat.le_refl _
  | j + 1 => by
    have ih := uptoQ_kept K qs j
    by_cases h : K j = true
    · rw [kpQ_some h, uptoQ_snoc]
      simp only [uptoQ]
      omega
    · rw [kpQ_none h]
      simp only [uptoQ]
      omega
theorem kpQ_at {K : Nat → Bool} {qs : List Wr} {j i : Nat} (h : i < (kpI K j).length) : wrN (kpQ K qs j) i = wrN qs ((kpI K j)[i]) := by
  unfold kpQ
  show ((kpI K j).map (wrN qs))[i]?.getD (0, []) = _
  rw [List.getElem?_map, List.getElem?_eq_getElem h]
  rfl
theorem DkOk.kept {bs : List Int} {qs : List Wr} (h : DkOk bs qs) (K : Nat → Bool) : DkOk bs (kpQ K qs qs.length) := by
  refine ⟨h.1, h.2.1, h.2.2.1, fun i hi => ?_⟩
  have hi' : i < (kpI K qs.length).length := by unfold kpQ at hi; rwa [List.length_map] at hi
  rw [kpQ_at hi']
  exact h.2.2.2 _ (kpI_lt K _ _ (List.getElem_mem hi'))
/-- What is kept of a queue is a queue, in a list of its own. -/
theorem QuR.pick {lo lo' : Nat} {w : World} {v0 v : Value} {vs : List Value} {qs : List Wr} (h : QuR lo w v0 vs qs) (K : Nat → Bool) (own : w.ownsRow lo' 67 2 v (kpV K vs qs.length).length (wrC (kpQ K qs qs.length) (kpV K vs qs.length))) (hlo : lo ≤ lo') (hb : ∀ u ∈ vs, ∀ k, u.ownBlock = some k → k < lo') :
    QuR lo w v (kpV K vs qs.length) (kpQ K qs qs.length) := by
  have hl := h.len.out
  have get : ∀ i u, (kpV K vs qs.length)[i]? = some u → ∃ hi : i < (kpI K qs.length).length, vs[(kpI K qs.length)[i]]? = some u := fun i u hu => by
    unfold kpV at hu
    have hi : i < (kpI K qs.length).length := by have := (List.getElem?_eq_some_iff.1 hu).1; rwa [List.length_map] at this
    refine ⟨hi, ?_⟩
    rw [List.getElem?_map, List.getElem?_eq_getElem hi] at hu
    have hlt : (kpI K qs.length)[i] < vs.length := by rw [hl]; exact kpI_lt K _ _ (List.getElem_mem hi)
    simp only [Option.map_some, List.getElem?_eq_getElem hlt, Option.getD_some] at hu
    rw [List.getElem?_eq_getElem hlt]
    exact hu
  refine ⟨row_base own hlo, kp_lens K qs vs _, fun i u hu => ?_, fun u hu k hk e => ?_, fun i j u u' hij hi hj k hk => ?_⟩
  · obtain ⟨hi, hg⟩ := get i u hu
    rw [kpQ_at hi]
    exact h.rows _ u hg
  · obtain ⟨i, hi, e2⟩ := List.getElem_of_mem hu
    obtain ⟨_, hg⟩ := get i u (by rw [List.getElem?_eq_getElem hi, e2])
    have h1 := hb u (List.mem_of_getElem? hg) k hk
    have h2 := (World.ownsRow.lt own k e).1
    omega
  · obtain ⟨hi', hg⟩ := get i u hi
    obtain ⟨hj', hg'⟩ := get j u' hj
    exact h.apart _ _ u u' (List.pairwise_iff_getElem.1 (kpI_up K _) i j hi' hj' hij) hg hg' k hk
theorem SomeV.pick {vs : List Value} (h : SomeV vs) (K : Nat → Bool) {n : Nat} (hn : n = vs.length) : SomeV (kpV K vs n) := by
  intro u hu
  unfold kpV at hu
  obtain ⟨i, hi, rfl⟩ := List.mem_map.1 hu
  have hlt : i < vs.length := by rw [← hn]; exact kpI_lt K _ _ hi
  rw [List.getElem?_eq_getElem hlt]
  exact h _ (List.getElem_mem hlt)
end Go.Proofs.YtgcaemhcdpddiaaDoor
