/- Where a point lies by a good area: the program's way and the specification's tell the same. Mathematics. -/
import Derived.Test.YthafhfdhahbdoaaParL
import Derived.Test.YthafhfdhahbdoaaGoodI
import Derived.Test.YthafhfdhahbdoaaSegS
namespace Go.Proofs.Ythafhfdhahbdoaa

theorem apart_of {ps qs : List (Int × Int)} (h : tch ps qs ps.length = false) : apartR ps qs := by
  intro i hi k hk m
  have : mtE ps qs i k = true := by
    unfold mtE
    exact metI_iff.2 m.other
  rw [tch_of hi hk this] at h
  cases h
theorem inV_two {q : List (Int × Int)} {p : Int × Int} (h : inV q p.1 p.2 = 2) : onR q p.1 p.2 q.length = false ∧ parR q p = true := by
  unfold inV at h
  unfold parR
  cases a : onR q p.1 p.2 q.length
  · rw [a] at h
    cases b : par (hsE q p.1 p.2) q.length
    · rw [b] at h
      cases h
    · exact ⟨rfl, rfl⟩
  · rw [a] at h
    cases h
theorem inV_off {q : List (Int × Int)} {p : Int × Int} (h : onR q p.1 p.2 q.length = false) : inV q p.1 p.2 = if parR q p then 2 else 0 := by
  unfold inV parR
  rw [h]
  rfl
theorem inV_on {q : List (Int × Int)} {p : Int × Int} (h : onR q p.1 p.2 q.length = true) : inV q p.1 p.2 = 1 := by
  unfold inV
  rw [h]
  rfl
theorem inV_not {q : List (Int × Int)} {p : Int × Int} (h : inV q p.1 p.2 ≠ 2) (k : onR q p.1 p.2 q.length = false) : parR q p = false := by
  rw [inV_off k] at h
  cases e : parR q p
  · rfl
  · rw [e] at h
    exact absurd rfl h
/-- What a good area's rings are to each other. -/
structure AreaR (rs : List (List (Int × Int))) : Prop where
  n0 : 0 < rs.length
  len : ∀ i, i < rs.length → 0 < (rowA rs i).length
  out : ∀ r, 0 < r → r < rs.length → apartR (rowA rs r) (rowA rs 0) ∧ parR (rowA rs 0) (ptA (rowA rs r) 0) = true
  holes : ∀ r k, 0 < k → k < r → r < rs.length → apartR (rowA rs r) (rowA rs k) ∧ parR (rowA rs k) (ptA (rowA rs r) 0) = false ∧ parR (rowA rs r) (ptA (rowA rs k) 0) = false
theorem ringsB_at {rs : List (List (Int × Int))} : ∀ {m r : Nat}, r < m → ringsB rs m = true → ringB rs r = true
  | 0, r, h, _ => absurd h (by omega)
  | m + 1, r, h, e => by
    simp only [ringsB, Bool.and_eq_true] at e
    rcases Nat.lt_or_ge r m with c | c
    · exact ringsB_at c e.1
    · obtain rfl : r = m := by omega
      exact e.2
theorem nst_at {rs : List (List (Int × Int))} {r : Nat} : ∀ {m k : Nat}, 0 < k → k < m → nst rs r m = false → nstE rs r k = false
  | 0, k, _, h, _ => absurd h (by omega)
  | m + 1, k, h0, h, e => by
    simp only [nst, Bool.or_eq_false_iff] at e
    rcases Nat.lt_or_ge k m with c | c
    · exact nst_at h0 c e.1
    · obtain rfl : k = m := by omega
      rw [decide_eq_true (by omega), Bool.true_and] at e
      exact e.2
theorem areaR_of {rs : List (List (Int × Int))} (h : goodB 5 rs = true) : AreaR rs := by
  have hf : formB 5 rs = true := by
    unfold goodB goodTo at h
    rw [Bool.and_eq_true] at h
    exact h.1
  have hr : ringsB rs rs.length = true := by
    unfold goodB goodTo at h
    rw [Bool.and_eq_true, decide_eq_true rfl] at h
    exact h.2
  have hl : ∀ i, i < rs.length → 0 < (rowA rs i).length := fun i hi => by have := (area_row hf i hi).2.1; omega
  have h0 : 0 < rs.length := by
    have := hf
    rw [formB_kind (by omega)] at this
    cases c : decide (rs.length = 0)
    · have := of_decide_eq_false c
      omega
    · rw [c] at this
      simp at this
  have hole : ∀ r, 0 < r → r < rs.length → holeB rs r = true := fun r h1 h2 => by
    have := ringsB_at h2 hr
    unfold ringB at this
    rwa [if_neg (by omega)] at this
  refine ⟨h0, hl, fun r h1 h2 => ?_, fun r k k0 kr h2 => ?_⟩
  · have e := hole r h1 h2
    unfold holeB at e
    simp only [Bool.and_eq_true, decide_eq_true_eq, Bool.not_eq_true'] at e
    exact ⟨apart_of e.2.2.1, (inV_two e.2.2.2.1).2⟩
  · have e := hole r (by omega) h2
    unfold holeB at e
    simp only [Bool.and_eq_true, decide_eq_true_eq, Bool.not_eq_true'] at e
    have q := nst_at k0 kr e.2.2.2.2
    unfold nstE at q
    simp only [Bool.or_eq_false_iff, decide_eq_false_iff_not] at q
    exact ⟨apart_of q.1.1, inV_not q.1.2 (touch_first (hl r h2) q.1.1), inV_not q.2 (touch_other (hl k (by omega)) q.1.1)⟩

/-- Where a point lies, ring by ring, as the specification goes. -/
def lcS (rs : List (List (Int × Int))) (p : Int × Int) : Nat → Int
  | 0 => inV (rowA rs 0) p.1 p.2
  | r + 1 => if lcS rs p r = 2 then 2 - inV (rowA rs (r + 1)) p.1 p.2 else lcS rs p r
theorem lcS_stay {rs : List (List (Int × Int))} {p : Int × Int} {j : Nat} (h : lcS rs p j ≠ 2) : ∀ m, j ≤ m → lcS rs p m = lcS rs p j := by
  intro m hm
  induction m with
  | zero => obtain rfl : j = 0 := by omega
            rfl
  | succ m ih =>
    rcases Nat.lt_or_ge m j with c | c
    · obtain rfl : j = m + 1 := by omega
      rfl
    · have e := ih c
      show (if lcS rs p m = 2 then _ else lcS rs p m) = _
      rw [e, if_neg h]
theorem lcS_through {rs : List (List (Int × Int))} {p : Int × Int} (h0 : inV (rowA rs 0) p.1 p.2 = 2) : ∀ j, (∀ k, 0 < k → k ≤ j → inV (rowA rs k) p.1 p.2 = 0) → lcS rs p j = 2
  | 0, _ => h0
  | j + 1, h => by
    show (if lcS rs p j = 2 then 2 - inV (rowA rs (j + 1)) p.1 p.2 else _) = _
    rw [lcS_through h0 j (fun k k0 kj => h k k0 (by omega)), if_pos rfl, h (j + 1) (by omega) (Nat.le_refl _)]
    rfl
/-- The point is on an edge of one of the first rings. -/
def onA (rs : List (List (Int × Int))) (p : Int × Int) : Nat → Bool
  | 0 => false
  | j + 1 => onA rs p j || onR (rowA rs j) p.1 p.2 (rowA rs j).length
/-- An odd number of the first rings has the point in it. -/
def xrR (rs : List (List (Int × Int))) (p : Int × Int) : Nat → Bool
  | 0 => false
  | j + 1 => xrR rs p j ^^ arQ (edL (rowA rs j)) p
/-- Where a point lies, as the program tells. -/
def locI (rs : List (List (Int × Int))) (p : Int × Int) : Int := if onA rs p rs.length then 1 else if xrR rs p rs.length then 2 else 0
theorem onA_some {rs : List (List (Int × Int))} {p : Int × Int} : ∀ {n : Nat}, onA rs p n = true → ∃ j, j < n ∧ onR (rowA rs j) p.1 p.2 (rowA rs j).length = true
  | 0, h => by cases h
  | n + 1, h => by
    simp only [onA, Bool.or_eq_true] at h
    rcases h with h | h
    · obtain ⟨j, hj, e⟩ := onA_some h
      exact ⟨j, by omega, e⟩
    · exact ⟨n, by omega, h⟩
theorem onA_none {rs : List (List (Int × Int))} {p : Int × Int} : ∀ {n j : Nat}, onA rs p n = false → j < n → onR (rowA rs j) p.1 p.2 (rowA rs j).length = false
  | 0, j, _, h => absurd h (by omega)
  | n + 1, j, e, h => by
    simp only [onA, Bool.or_eq_false_iff] at e
    rcases Nat.lt_or_ge j n with c | c
    · exact onA_none e.1 c
    · obtain rfl : j = n := by omega
      exact e.2
theorem arQ_parR {q : List (Int × Int)} {p : Int × Int} (h0 : 0 < q.length) (h : onR q p.1 p.2 q.length = false) : arQ (edL q) p = parR q p := by
  rw [← in_both h0 h, inV_off h]
  cases parR q p <;> rfl
theorem xrR_even {rs : List (List (Int × Int))} {p : Int × Int} : ∀ n, (∀ j, j < n → arQ (edL (rowA rs j)) p = false) → xrR rs p n = false
  | 0, _ => rfl
  | n + 1, h => by
    simp only [xrR]
    rw [xrR_even n (fun j hj => h j (by omega)), h n (by omega)]
    rfl
/-- One of the rings alone counts. -/
theorem xrR_one {rs : List (List (Int × Int))} {p : Int × Int} {m : Nat} (hm : arQ (edL (rowA rs m)) p = true) : ∀ n, m < n → (∀ j, j < n → j ≠ m → arQ (edL (rowA rs j)) p = false) → xrR rs p n = true
  | 0, h, _ => absurd h (by omega)
  | n + 1, h, e => by
    simp only [xrR]
    rcases Nat.lt_or_ge m n with c | c
    · rw [xrR_one hm n c (fun j hj => e j (by omega)), e n (by omega) (by omega)]
      rfl
    · obtain rfl : m = n := by omega
      rw [xrR_even m (fun j hj => e j (by omega) (by omega)), hm]
      rfl
/-- Two of the rings alone count. -/
theorem xrR_two {rs : List (List (Int × Int))} {p : Int × Int} {l m : Nat} (hl : arQ (edL (rowA rs l)) p = true) (hm : arQ (edL (rowA rs m)) p = true) (hlm : l < m) : ∀ n, m < n → (∀ j, j < n → j ≠ l → j ≠ m → arQ (edL (rowA rs j)) p = false) → xrR rs p n = false
  | 0, h, _ => absurd h (by omega)
  | n + 1, h, e => by
    simp only [xrR]
    rcases Nat.lt_or_ge m n with c | c
    · rw [xrR_two hl hm hlm n c (fun j hj => e j (by omega)), e n (by omega) (by omega) (by omega)]
      rfl
    · obtain rfl : m = n := by omega
      rw [xrR_one hl m hlm (fun j hj hjl => e j (by omega) hjl (by omega)), hm]
      rfl
theorem onI_of {q : List (Int × Int)} {p : Int × Int} (h : onR q p.1 p.2 q.length = true) : ∃ i, i < q.length ∧ onI q i p := by
  obtain ⟨i, hi, e⟩ := onR_some h
  exact ⟨i, hi, onB_iff.1 e⟩
theorem loc_same {rs : List (List (Int × Int))} (A : AreaR rs) (p : Int × Int) : locI rs p = lcS rs p (rs.length - 1) := by
  have h0 := A.n0
  unfold locI
  cases hon : onA rs p rs.length
  · have off : ∀ j, j < rs.length → onR (rowA rs j) p.1 p.2 (rowA rs j).length = false := fun j hj => onA_none hon hj
    have ap : ∀ j, j < rs.length → arQ (edL (rowA rs j)) p = parR (rowA rs j) p := fun j hj => arQ_parR (A.len j hj) (off j hj)
    have iv : ∀ j, j < rs.length → inV (rowA rs j) p.1 p.2 = if parR (rowA rs j) p then 2 else 0 := fun j hj => inV_off (off j hj)
    cases c0 : parR (rowA rs 0) p
    · have ev : ∀ j, j < rs.length → arQ (edL (rowA rs j)) p = false := by
        intro j hj
        rw [ap j hj]
        rcases Nat.eq_zero_or_pos j with z | z
        · rw [z]; exact c0
        · cases e : parR (rowA rs j) p
          · rfl
          · obtain ⟨a1, a2⟩ := A.out j z hj
            have := hole_in (A.len 0 h0) (A.len j hj) a1 a2 e
            rw [c0] at this
            cases this
      rw [xrR_even _ ev]
      have i0 : inV (rowA rs 0) p.1 p.2 = 0 := by rw [iv 0 h0, c0]; rfl
      have := lcS_stay (rs := rs) (p := p) (j := 0) (by show inV (rowA rs 0) p.1 p.2 ≠ 2; rw [i0]; decide) (rs.length - 1) (by omega)
      rw [this]
      show _ = inV (rowA rs 0) p.1 p.2
      rw [i0]
      rfl
    · have i0 : inV (rowA rs 0) p.1 p.2 = 2 := by rw [iv 0 h0, c0]; rfl
      rcases Classical.em (∃ j, 0 < j ∧ j < rs.length ∧ parR (rowA rs j) p = true) with ⟨j, j0, hj, cj⟩ | none
      · have others : ∀ k, 0 < k → k < rs.length → k ≠ j → parR (rowA rs k) p = false := by
          intro k k0 hk hkj
          rcases Nat.lt_or_ge k j with c | c
          · obtain ⟨a1, a2, a3⟩ := A.holes j k k0 c hj
            exact holes_out (A.len j hj) (A.len k hk) a1 a2 a3 cj
          · obtain ⟨a1, a2, a3⟩ := A.holes k j j0 (by omega) hk
            exact holes_out (A.len j hj) (A.len k hk) a1.comm a3 a2 cj
        rw [xrR_two (l := 0) (m := j) (by rw [ap 0 h0]; exact c0) (by rw [ap j hj]; exact cj) j0 rs.length hj (fun k hk k0 kj => by rw [ap k hk]; exact others k (by omega) hk kj)]
        obtain ⟨i, rfl⟩ : ∃ i, j = i + 1 := ⟨j - 1, by omega⟩
        have two := lcS_through i0 i (fun k k0 ki => by rw [iv k (by omega), others k k0 (by omega) (by omega)]; rfl)
        have at_j : lcS rs p (i + 1) = 0 := by
          show (if lcS rs p i = 2 then 2 - inV (rowA rs (i + 1)) p.1 p.2 else _) = _
          rw [two, if_pos rfl, iv (i + 1) hj, cj]
          rfl
        rw [lcS_stay (j := i + 1) (by rw [at_j]; decide) (rs.length - 1) (by omega), at_j]
        rfl
      · have others : ∀ k, 0 < k → k < rs.length → parR (rowA rs k) p = false := by
          intro k k0 hk
          cases e : parR (rowA rs k) p
          · rfl
          · exact absurd ⟨k, k0, hk, e⟩ none
        rw [xrR_one (m := 0) (by rw [ap 0 h0]; exact c0) rs.length h0 (fun k hk k0 => by rw [ap k hk]; exact others k (by omega) hk)]
        rw [lcS_through i0 (rs.length - 1) (fun k k0 ki => by rw [iv k (by omega), others k k0 (by omega)]; rfl)]
        rfl
  · obtain ⟨j, hj, hjo⟩ := onA_some hon
    obtain ⟨i, hi, on⟩ := onI_of hjo
    show (1 : Int) = _
    rcases Nat.eq_zero_or_pos j with z | z
    · subst z
      have i0 : lcS rs p 0 = 1 := inV_on hjo
      rw [lcS_stay (j := 0) (by rw [i0]; decide) (rs.length - 1) (by omega), i0]
    · obtain ⟨a1, a2⟩ := A.out j z hj
      have off : ∀ k, k < rs.length → apartR (rowA rs j) (rowA rs k) → onR (rowA rs k) p.1 p.2 (rowA rs k).length = false := by
        intro k hk a
        cases e : onR (rowA rs k) p.1 p.2 (rowA rs k).length
        · rfl
        · obtain ⟨i2, hi2, on2⟩ := onI_of e
          exact absurd (MT_common on2 on) (a i hi i2 hi2)
      have i0 : inV (rowA rs 0) p.1 p.2 = 2 := by
        rw [inV_off (off 0 h0 a1), parR_edge (A.len 0 h0) a1 hi on, a2]
        rfl
      obtain ⟨m, rfl⟩ : ∃ m, j = m + 1 := ⟨j - 1, by omega⟩
      have two := lcS_through i0 m (fun k k0 km => by
        obtain ⟨b1, b2, b3⟩ := A.holes (m + 1) k k0 (by omega) hj
        rw [inV_off (off k (by omega) b1), parR_edge (A.len k (by omega)) b1 hi on, b2]
        rfl)
      have at_j : lcS rs p (m + 1) = 1 := by
        show (if lcS rs p m = 2 then 2 - inV (rowA rs (m + 1)) p.1 p.2 else _) = _
        rw [two, if_pos rfl, inV_on hjo]
        rfl
      rw [lcS_stay (j := m + 1) (by rw [at_j]; decide) (rs.length - 1) (by omega), at_j]

/-- Segments one behind the other count what each counts. -/
theorem par_shift (f : Nat → Bool) (a : Nat) : ∀ b, par f (a + b) = (par f a ^^ par (fun i => f (a + i)) b)
  | 0 => by simp [par]
  | b + 1 => by
    rw [← Nat.add_assoc]
    simp only [par]
    rw [par_shift f a b]
    cases par f a <;> cases par (fun i => f (a + i)) b <;> cases f (a + b) <;> rfl
theorem arQ_append (es fs : List Sg) (p : Int × Int) : arQ (es ++ fs) p = (arQ es p ^^ arQ fs p) := by
  unfold arQ
  rw [List.length_append, par_shift]
  congr 1
  · apply par_congr
    intro i hi
    unfold hqE sgA
    rw [List.getElem?_append_left hi]
  · apply par_congr
    intro i hi
    unfold hqE sgA
    rw [List.getElem?_append_right (by omega), Nat.add_sub_cancel_left]
theorem arQ_rows {rs : List (List (Int × Int))} {p : Int × Int} : ∀ j, j ≤ rs.length → arQ (segL 5 (rs.take j)) p = xrR rs p j
  | 0, _ => rfl
  | j + 1, h => by
    rw [segL_step (by omega), arQ_append, arQ_rows j (by omega)]
    rfl
/-- The point is on one of some segments. -/
def onQ (es : List Sg) (p : Int × Int) : Bool := es.any fun e => onB e.1.1 e.1.2 e.2.1 e.2.2 p.1 p.2
theorem onR_any (ps : List (Int × Int)) (px py : Int) : ∀ n, onR ps px py n = (List.range n).any (onE ps px py)
  | 0 => rfl
  | n + 1 => by
    simp only [onR]
    rw [onR_any ps px py n, List.range_succ, List.any_append]
    simp
theorem onQ_edL (ps : List (Int × Int)) (p : Int × Int) : onQ (edL ps) p = onR ps p.1 p.2 ps.length := by
  rw [onR_any]
  unfold onQ edL
  rw [List.any_map]
  rfl
theorem onQ_rows {rs : List (List (Int × Int))} {p : Int × Int} : ∀ j, j ≤ rs.length → onQ (segL 5 (rs.take j)) p = onA rs p j
  | 0, _ => rfl
  | j + 1, h => by
    rw [segL_step (by omega)]
    unfold onQ
    rw [List.any_append]
    simp only [onA]
    rw [← onQ_rows j (by omega), ← onQ_edL]
    rfl
/-- Where a point lies by segments, as the program tells. -/
def locQ (es : List Sg) (p : Int × Int) : Int := if onQ es p then 1 else if arQ es p then 2 else 0
theorem locQ_rows (rs : List (List (Int × Int))) (p : Int × Int) : locQ (segL 5 rs) p = locI rs p := by
  have h1 := onQ_rows (rs := rs) (p := p) rs.length (Nat.le_refl _)
  have h2 := arQ_rows (rs := rs) (p := p) rs.length (Nat.le_refl _)
  rw [List.take_length] at h1 h2
  unfold locQ locI
  rw [h1, h2]
end Go.Proofs.Ythafhfdhahbdoaa
