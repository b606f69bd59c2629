import Derived.Test.YtdkhaghcnijilaaGreatTrR
import Derived.Test.YtdkhaghcnijilaaGreatTrV
import Derived.Test.YtdkhaghcnijilaaGreatTrF
import Derived.Test.YtdkhaghcnijilaaGreatBoxO
/- The mathematics of TreeOk: a tree is right just if each node of each level is. -/
namespace Go.Proofs.YtdkhaghcnijilaaGreat
open Go.RowKit

/-- A level of a list of trees. -/
def lvL : List Nd → Nat → List Nd
  | ts, 0 => ts
  | ts, k + 1 => lvL (ts.flatMap Nd.ks) k
theorem lvL_app : ∀ (k : Nat) (a b : List Nd), lvL (a ++ b) k = lvL a k ++ lvL b k
  | 0, _, _ => rfl
  | k + 1, a, b => by simp only [lvL, List.flatMap_append]; exact lvL_app k _ _
theorem lvL_nil : ∀ k : Nat, lvL [] k = []
  | 0 => rfl
  | k + 1 => lvL_nil k
theorem lvL_succ : ∀ (k : Nat) (ts : List Nd), lvL ts (k + 1) = (lvL ts k).flatMap Nd.ks
  | 0, _ => rfl
  | k + 1, ts => by
    show lvL (ts.flatMap Nd.ks) (k + 1) = _
    rw [lvL_succ k]
    rfl
/-- How many numbers the trees of a list have at a depth. -/
def cnt (ts : List Nd) (d : Nat) : Nat := ((lvL ts d).flatMap Nd.is).length
theorem cnt_app (a b : List Nd) (d : Nat) : cnt (a ++ b) d = cnt a d + cnt b d := by
  simp only [cnt, lvL_app, List.flatMap_append, List.length_append]
/-- A tree of this depth is right, as the specification looks. -/
def Gd : Bool → Nd → Nat → Prop
  | top, t, 0 => t.ks = [] ∧ leafB top t.b t.bs t.is = true ∧ allOk t.bs t.bs.length = true
  | _, t, d + 1 => t.ks ≠ [] ∧ innB t.b t.bs t.is t.ks = true ∧ ∀ k ∈ t.ks, Gd false k d
theorem take_ndA {ts : List Nd} {j : Nat} (h : j < ts.length) : ts.take (j + 1) = ts.take j ++ [ndA ts j] := by
  rw [List.take_add_one, List.getElem?_eq_getElem h]
  unfold ndA
  rw [List.getElem?_eq_getElem h]
  rfl
theorem gd_lk : ∀ (d : Nat) (top : Bool) (t : Nd), Gd top t d → lk t top = (d + 1, cnt [t] d)
  | 0, top, .mk b bs is ks, h => by
    obtain ⟨h1, h2, h3⟩ := h
    have h1' : ks = [] := h1
    subst h1'
    unfold lk
    rw [if_pos (show ([] : List Nd).length = 0 from rfl), if_pos (by rw [Bool.and_eq_true]; exact ⟨h2, h3⟩)]
    simp [cnt, lvL, Nd.is]
  | d + 1, top, .mk b bs is ks, h => by
    obtain ⟨h1, h2, h3⟩ := h
    have h1' : ks ≠ [] := h1
    have h3' : ∀ k ∈ ks, Gd false k d := h3
    have h2' : innB b bs is ks = true := h2
    have hp : 0 < ks.length := List.length_pos_iff.2 h1'
    have U : ∀ j, j ≤ ks.length → lkU (lk.lks ks) j = some (if j = 0 then 0 else d + 1, cnt (ks.take j) d) := by
      intro j
      induction j with
      | zero => intro _; simp [lkU, cnt, List.take_zero, lvL_nil]
      | succ j ih =>
        intro hj
        have e := gd_lk d false (ndA ks j) (h3' _ (ndA_mem (by omega)))
        simp only [lkU, ih (by omega), lks_at ks j (by omega), e]
        rw [if_neg (by rintro (c | ⟨c1, c2⟩); · omega
                       · rw [if_neg (by omega)] at c2; exact c2 rfl)]
        rw [take_ndA (by omega), cnt_app, if_neg (by omega)]
    unfold lk
    rw [if_neg (by omega), if_pos h2', U _ (Nat.le_refl _), if_neg (by omega), List.take_length]
    simp [lkO, cnt, lvL, Nd.ks]
theorem lkU_some (rs : List (Nat × Nat)) : ∀ (j : Nat) (p : Nat × Nat), lkU rs j = some p → ∀ i, i < j → (rs[i]?.getD (0, 0)).1 = p.1 ∧ 0 < p.1
  | 0, _, _, i, h => absurd h (by omega)
  | j + 1, p, e, i, h => by
    simp only [lkU] at e
    cases e2 : lkU rs j with
    | none => rw [e2] at e; cases e
    | some p' =>
      rw [e2] at e
      dsimp only at e
      split at e
      · cases e
      · rename_i hn
        injection e with e
        subst e
        dsimp only
        have n1 : (rs[j]?.getD (0, 0)).1 ≠ 0 := fun q => hn (.inl q)
        rcases Nat.lt_or_ge i j with c | c
        · have := (lkU_some rs j p' e2 i c).1
          have n2 : (rs[j]?.getD (0, 0)).1 = p'.1 := Classical.byContradiction fun q => hn (.inr ⟨by omega, q⟩)
          omega
        · obtain rfl : i = j := by omega
          exact ⟨rfl, by omega⟩
theorem lk_gd : ∀ (t : Nd) (top : Bool), 0 < (lk t top).1 → ∃ d, Gd top t d := by
  refine Nd.ind (P := fun t => ∀ top, 0 < (lk t top).1 → ∃ d, Gd top t d) ?_
  intro b bs is ks ih top h
  unfold lk at h
  split at h
  · rename_i h0
    split at h
    · rename_i h1
      rw [Bool.and_eq_true] at h1
      exact ⟨0, List.eq_nil_of_length_eq_zero h0, h1.1, h1.2⟩
    · exact absurd h (by simp)
  · rename_i h0
    split at h
    · rename_i h1
      cases e : lkU (lk.lks ks) ks.length with
      | none => rw [e] at h; exact absurd h (by simp [lkO])
      | some p =>
        have A := lkU_some _ _ _ e
        refine ⟨p.1 - 1 + 1, fun q => h0 (by rw [show ks = [] from q]; rfl), h1, fun k hk0 => ?_⟩
        have hk : k ∈ ks := hk0
        clear hk0
        obtain ⟨i, hi, rfl⟩ := List.getElem_of_mem hk
        obtain ⟨a1, a2⟩ := A i hi
        rw [lks_at ks i hi] at a1
        have e1 : ndA ks i = ks[i] := by unfold ndA; rw [List.getElem?_eq_getElem hi]; rfl
        rw [e1] at a1
        obtain ⟨d, hd⟩ := ih _ hk false (by omega)
        have := gd_lk d false _ hd
        rw [this] at a1
        dsimp only at a1
        rw [show p.1 - 1 = d by omega]
        exact hd
    · exact absurd h (by simp)
theorem okT_gd (t : Nd) : okT t = true ↔ ∃ d, Gd true t d ∧ cnt [t] d ≤ 600 := by
  unfold okT
  rw [Bool.and_eq_true, decide_eq_true_eq, decide_eq_true_eq]
  constructor
  · rintro ⟨h1, h2⟩
    obtain ⟨d, hd⟩ := lk_gd t true h1
    rw [gd_lk d true t hd] at h2
    exact ⟨d, hd, h2⟩
  · rintro ⟨d, hd, h⟩
    rw [gd_lk d true t hd]
    exact ⟨by simp, h⟩
end Go.Proofs.YtdkhaghcnijilaaGreat

/- The mathematics of TreeOk, by levels: what the program looks at, node by node. -/
namespace Go.Proofs.YtdkhaghcnijilaaGreat
open Go.RowKit

theorem jn2_self (x : Bx) : jn2 x x = x := by
  obtain ⟨a, b, c, d⟩ := x
  unfold jn2 jA jB jC jD
  cases boxOk a b c d <;> simp
theorem jn2_jnB {x y : Bx} (h : okX y = true) : jn2 x y = jnB x y := by
  unfold okX at h
  unfold jn2 jnB oA oB oC oD
  rw [h]
  simp
theorem okX_jn2 (x y : Bx) : okX (jn2 x y) = (okX x || okX y) := joined_ok ..
theorem allOk_iff (bs : List Bx) : ∀ n, allOk bs n = true ↔ ∀ i, i < n → okX (bxAt bs i) = true
  | 0 => ⟨fun _ i h => absurd h (by omega), fun _ => rfl⟩
  | n + 1 => by
    simp only [allOk, Bool.and_eq_true, allOk_iff bs n]
    constructor
    · rintro ⟨h1, h2⟩ i hi
      rcases Nat.lt_or_ge i n with c | c
      · exact h1 i c
      · rw [show i = n by omega]; exact h2
    · exact fun h => ⟨fun i hi => h i (by omega), h n (by omega)⟩
theorem jnJ_jnU {bs : List Bx} (h : ∀ i, i < bs.length → okX (bxAt bs i) = true) : ∀ j, j + 1 ≤ bs.length → jnJ bs (j + 1) = jnU bs (j + 1)
  | 0, _ => jn2_self _
  | j + 1, hj => by
    show jn2 (jnJ bs (j + 1)) _ = jnB (jnU bs (j + 1)) _
    rw [jnJ_jnU h j (by omega), jn2_jnB (h _ (by omega))]
theorem jnI_jnS {bs : List Bx} (h : allOk bs bs.length = true) : jnI bs = jnS bs := by
  rw [allOk_iff] at h
  unfold jnI jnS
  split
  · rename_i h0; rw [h0]; rfl
  · rename_i h0
    obtain ⟨n, hn⟩ : ∃ n, bs.length = n + 1 := ⟨bs.length - 1, by omega⟩
    have := jnJ_jnU h n (by omega)
    rw [hn]
    exact this
theorem jnJ_ok {bs : List Bx} (h : okX (bxAt bs 0) = true) : ∀ j, okX (jnJ bs j) = true
  | 0 => h
  | j + 1 => by
    show okX (jn2 _ _) = true
    rw [okX_jn2, jnJ_ok h j]
    rfl
theorem jnI_ok {bs : List Bx} (h : allOk bs bs.length = true) (h0 : bs.length ≠ 0) : okX (jnI bs) = true := by
  unfold jnI
  rw [if_neg h0]
  exact jnJ_ok ((allOk_iff _ _).1 h 0 (by omega)) _
theorem kids_ok {ks : List Nd} (h : ∀ k ∈ ks, okX k.b = true) : allOk (ks.map Nd.b) (ks.map Nd.b).length = true := by
  rw [allOk_iff]
  intro i hi
  rw [List.length_map] at hi
  have : bxAt (ks.map Nd.b) i = ks[i].b := by unfold bxAt; rw [List.getElem?_map, List.getElem?_eq_getElem hi]; rfl
  rw [this]
  exact h _ (List.getElem_mem hi)
theorem leafB_iff (top : Bool) (b : Bx) (bs : List Bx) (is : List Int) : leafB top b bs is = true ↔ bs.length = is.length ∧ is.length ≤ 4 ∧ (is.length ≠ 0 ∨ top = true) ∧ b = jnS bs := by
  unfold leafB
  simp only [Bool.and_eq_true, Bool.or_eq_true, decide_eq_true_eq, Bool.not_eq_true', decide_eq_false_iff_not, ne_eq]
theorem innB_iff (b : Bx) (bs : List Bx) (is : List Int) (ks : List Nd) : innB b bs is ks = true ↔ ks.length ≤ 4 ∧ bs.length = 0 ∧ is.length = 0 ∧ b = jnS (ks.map Nd.b) := by
  unfold innB
  simp only [Bool.and_eq_true, decide_eq_true_eq]
theorem gd_ok : ∀ (d : Nat) (t : Nd), Gd false t d → okX t.b = true
  | 0, t, ⟨_, h2, h3⟩ => by
    rw [leafB_iff] at h2
    obtain ⟨e1, _, e3, e4⟩ := h2
    rw [e4, ← jnI_jnS h3]
    exact jnI_ok h3 (by rcases e3 with c | c; · omega
                        · cases c)
  | d + 1, t, ⟨h1, h2, h3⟩ => by
    rw [innB_iff] at h2
    have ok := kids_ok (ks := t.ks) (fun k hk => gd_ok d k (h3 k hk))
    rw [h2.2.2.2, ← jnI_jnS ok]
    exact jnI_ok ok (by rw [List.length_map]; intro e; exact h1 (List.eq_nil_of_length_eq_zero e))
/-- The box that the program puts together for a node. -/
def bxT (t : Nd) : Bx := if t.ks.length = 0 then jnI t.bs else jnI (t.ks.map Nd.b)
/-- What the program looks at in a node. -/
def nodeF (t : Nd) : Prop := formW t.bs t.is t.ks = false ∧ t.b = bxT t
def chkN (m : Nat) (t : Nd) : Prop := nodeF t ∧ (m = 0 ∨ ¬ (t.bs.length = 0 ∧ t.ks.length = 0))
theorem formW_leaf {bs : List Bx} {is : List Int} : formW bs is [] = false ↔ bs.length = is.length ∧ is.length ≤ 4 ∧ allOk bs bs.length = true := by
  unfold formW
  rw [if_neg (by simp)]
  cases allOk bs bs.length <;> simp
theorem formW_inn {bs : List Bx} {is : List Int} {ks : List Nd} (h : 0 < ks.length) : formW bs is ks = false ↔ ks.length ≤ 4 ∧ bs.length = 0 ∧ is.length = 0 := by
  unfold formW
  rw [if_pos h]
  simp
/-- A tree of this depth is right, as the program looks. -/
def Hd : Bool → Nd → Nat → Prop
  | top, t, 0 => t.ks = [] ∧ nodeF t ∧ (top = true ∨ t.bs.length ≠ 0)
  | _, t, d + 1 => t.ks ≠ [] ∧ nodeF t ∧ ∀ k ∈ t.ks, Hd false k d
theorem hd_gd : ∀ (d : Nat) (top : Bool) (t : Nd), Hd top t d ↔ Gd top t d
  | 0, top, .mk b bs is ks => by
    show ks = [] ∧ (formW bs is ks = false ∧ b = bxT (.mk b bs is ks)) ∧ (top = true ∨ bs.length ≠ 0) ↔ ks = [] ∧ leafB top b bs is = true ∧ allOk bs bs.length = true
    rw [leafB_iff]
    constructor
    · rintro ⟨rfl, ⟨h1, h2⟩, h3⟩
      obtain ⟨f1, f2, f3⟩ := formW_leaf.1 h1
      refine ⟨rfl, ⟨f1, f2, by rcases h3 with c | c; · exact .inr c
                               · exact .inl (by omega), ?_⟩, f3⟩
      rw [h2, ← jnI_jnS f3]
      rfl
    · rintro ⟨rfl, ⟨f1, f2, f4, f5⟩, f3⟩
      refine ⟨rfl, ⟨formW_leaf.2 ⟨f1, f2, f3⟩, ?_⟩, by rcases f4 with c | c; · exact .inr (by omega)
                                                       · exact .inl c⟩
      rw [f5, ← jnI_jnS f3]
      rfl
  | d + 1, top, .mk b bs is ks => by
    show ks ≠ [] ∧ (formW bs is ks = false ∧ b = bxT (.mk b bs is ks)) ∧ (∀ k ∈ ks, Hd false k d) ↔ ks ≠ [] ∧ innB b bs is ks = true ∧ ∀ k ∈ ks, Gd false k d
    rw [innB_iff]
    constructor
    · rintro ⟨h0, ⟨h1, h2⟩, h3⟩
      have hp := List.length_pos_iff.2 h0
      have G : ∀ k ∈ ks, Gd false k d := fun k hk => (hd_gd d false k).1 (h3 k hk)
      obtain ⟨f1, f2, f3⟩ := (formW_inn hp).1 h1
      refine ⟨h0, ⟨f1, f2, f3, ?_⟩, G⟩
      rw [h2, ← jnI_jnS (kids_ok fun k hk => gd_ok d k (G k hk))]
      exact if_neg (show ¬ ks.length = 0 by omega)
    · rintro ⟨h0, ⟨f1, f2, f3, f4⟩, G⟩
      have hp := List.length_pos_iff.2 h0
      refine ⟨h0, ⟨(formW_inn hp).2 ⟨f1, f2, f3⟩, ?_⟩, fun k hk => (hd_gd d false k).2 (G k hk)⟩
      rw [f4, ← jnI_jnS (kids_ok fun k hk => gd_ok d k (G k hk))]
      exact (if_neg (show ¬ ks.length = 0 by omega)).symm
theorem hdL : ∀ (d : Nat) (ts : List Nd), (∀ t ∈ ts, Hd false t d) ↔ (∀ k, k < d → ∀ x ∈ lvL ts k, x.ks ≠ [] ∧ nodeF x) ∧ ∀ x ∈ lvL ts d, Hd false x 0
  | 0, ts => ⟨fun h => ⟨fun k hk => absurd hk (by omega), h⟩, fun h => h.2⟩
  | d + 1, ts => by
    have ih := hdL d (ts.flatMap Nd.ks)
    constructor
    · intro h
      have h2 := ih.1 (fun k hk => by
        obtain ⟨t, ht, hk⟩ := List.mem_flatMap.1 hk
        exact (h t ht).2.2 k hk)
      refine ⟨fun k hk x hx => ?_, h2.2⟩
      cases k with
      | zero => exact ⟨(h x hx).1, (h x hx).2.1⟩
      | succ k => exact h2.1 k (by omega) x hx
    · rintro ⟨h1, h2⟩ t ht
      have h3 := ih.2 ⟨fun k hk x hx => h1 (k + 1) (by omega) x hx, h2⟩
      exact ⟨(h1 0 (by omega) t ht).1, (h1 0 (by omega) t ht).2, fun k hk => h3 k (List.mem_flatMap.2 ⟨t, ht, hk⟩)⟩
/-- A tree is right at a depth, level by level. -/
def LvS (t : Nd) (m : Nat) : Prop := (∀ k, k < m → ∀ x ∈ lvL [t] k, x.ks ≠ [] ∧ nodeF x) ∧ ∀ x ∈ lvL [t] m, x.ks = [] ∧ nodeF x ∧ (m = 0 ∨ x.bs.length ≠ 0)
theorem hd_lvS (t : Nd) : ∀ m, Hd true t m ↔ LvS t m
  | 0 => by
    constructor
    · rintro ⟨h1, h2, _⟩
      refine ⟨fun k hk => absurd hk (by omega), fun x hx => ?_⟩
      rw [show x = t from List.mem_singleton.1 hx]
      exact ⟨h1, h2, .inl rfl⟩
    · intro h
      obtain ⟨h1, h2, _⟩ := h.2 t (List.mem_singleton.2 rfl)
      exact ⟨h1, h2, .inl rfl⟩
  | m + 1 => by
    have e := hdL (m + 1) [t]
    constructor
    · intro h
      obtain ⟨h1, h2⟩ := e.1 (fun x hx => by rw [show x = t from List.mem_singleton.1 hx]; exact h)
      refine ⟨h1, fun x hx => ?_⟩
      obtain ⟨a1, a2, a3⟩ := h2 x hx
      exact ⟨a1, a2, .inr (by rcases a3 with c | c; · cases c
                              · exact c)⟩
    · rintro ⟨h1, h2⟩
      exact e.2 ⟨h1, fun x hx => by
        obtain ⟨a1, a2, a3⟩ := h2 x hx
        exact ⟨a1, a2, .inr (by rcases a3 with c | c; · omega
                                · exact c)⟩⟩ t (List.mem_singleton.2 rfl)
theorem okT_lvS (t : Nd) : okT t = true ↔ ∃ m, LvS t m ∧ cnt [t] m ≤ 600 := by
  rw [okT_gd]
  constructor
  · rintro ⟨d, h1, h2⟩
    exact ⟨d, (hd_lvS t d).1 ((hd_gd d true t).2 h1), h2⟩
  · rintro ⟨d, h1, h2⟩
    exact ⟨d, (hd_gd d true t).1 ((hd_lvS t d).2 h1), h2⟩
end Go.Proofs.YtdkhaghcnijilaaGreat

/- The mathematics of TreeFind: what is found in a right tree; what a box bars lies in no box below. -/
namespace Go.Proofs.YtdkhaghcnijilaaGreat
open Go.RowKit

def ovX (x y : Bx) : Bool := ovl x.1 x.2.1 x.2.2.1 x.2.2.2 y.1 y.2.1 y.2.2.1 y.2.2.2
/-- The numbers whose boxes overlap the window. -/
def fdI (wn : Bx) (bs : List Bx) : List Int → Nat → List Int
  | _, 0 => []
  | is, n + 1 => fdI wn bs is n ++ (if ovX (bxAt bs n) wn then [is[n]?.getD 0] else [])
/-- All that is found in a tree. -/
def fdV (wn : Bx) : Nd → List Int
  | .mk _ bs is ks => fdI wn bs is is.length ++ fdL ks
where fdL : List Nd → List Int
  | [] => []
  | k :: ks => fdV wn k ++ fdL ks
theorem fdL_app (wn : Bx) (f : List Nd) : ∀ g : List Nd, fdV.fdL wn (f ++ g) = fdV.fdL wn f ++ fdV.fdL wn g := by
  induction f with
  | nil => intro g; simp [fdV.fdL]
  | cons a f ih => intro g; simp only [List.cons_append, fdV.fdL, ih, List.append_assoc]
theorem fdL_mem (wn : Bx) : ∀ (ks : List Nd) (x : Int), x ∈ fdV.fdL wn ks → ∃ k ∈ ks, x ∈ fdV wn k
  | [], x, h => by simp [fdV.fdL] at h
  | k :: ks, x, h => by
    simp only [fdV.fdL, List.mem_append] at h
    rcases h with h | h
    · exact ⟨k, List.mem_cons_self .., h⟩
    · obtain ⟨k', hk, hx⟩ := fdL_mem wn ks x h
      exact ⟨k', List.mem_cons_of_mem _ hk, hx⟩
theorem fdI_mem (wn : Bx) (bs : List Bx) (is : List Int) : ∀ (n : Nat) (x : Int), x ∈ fdI wn bs is n → ∃ i, i < n ∧ ovX (bxAt bs i) wn = true
  | 0, x, h => by simp [fdI] at h
  | n + 1, x, h => by
    simp only [fdI, List.mem_append] at h
    rcases h with h | h
    · obtain ⟨i, hi, ho⟩ := fdI_mem wn bs is n x h
      exact ⟨i, by omega, ho⟩
    · split at h
      · rename_i ho; exact ⟨n, by omega, ho⟩
      · cases h
theorem fdI_le (wn : Bx) (bs : List Bx) (is : List Int) : ∀ n, (fdI wn bs is n).length ≤ n
  | 0 => by simp [fdI]
  | n + 1 => by
    have := fdI_le wn bs is n
    simp only [fdI, List.length_append]
    split <;> simp <;> omega
theorem ov_ok {x y : Bx} (h : ovX x y = true) : okX x = true ∧ okX y = true := by
  unfold ovX ovl at h
  simp only [Bool.and_eq_true] at h
  exact ⟨h.1, h.2.1⟩
theorem ov_left {x y wn : Bx} (h : ovX x wn = true) : ovX (jn2 x y) wn = true := by
  obtain ⟨h1, h2⟩ := ov_ok h
  have hj : okX (jn2 x y) = true := by rw [okX_jn2, h1]; rfl
  obtain ⟨a, b, c, d⟩ := x
  obtain ⟨m, n, r, s⟩ := y
  unfold okX at h1 h2 hj
  unfold ovX ovl at h ⊢
  simp only [Bool.and_eq_true, decide_eq_true_eq] at h ⊢
  refine ⟨hj, h2, ?_⟩
  unfold jn2 jA jB jC jD
  dsimp only at h1 h ⊢
  rw [h1]
  split <;> (try simp) <;> omega
theorem ov_right {x y wn : Bx} (h : ovX y wn = true) : ovX (jn2 x y) wn = true := by
  obtain ⟨h1, h2⟩ := ov_ok h
  have hj : okX (jn2 x y) = true := by rw [okX_jn2, h1]; simp
  obtain ⟨a, b, c, d⟩ := x
  obtain ⟨m, n, r, s⟩ := y
  unfold okX at h1 h2 hj
  unfold ovX ovl at h ⊢
  simp only [Bool.and_eq_true, decide_eq_true_eq] at h ⊢
  refine ⟨hj, h2, ?_⟩
  unfold jn2 jA jB jC jD
  dsimp only at h1 h ⊢
  rw [h1]
  cases boxOk a b c d <;> (try simp) <;> omega
theorem ov_jnJ {bs : List Bx} {wn : Bx} {i : Nat} (h : ovX (bxAt bs i) wn = true) : ∀ n, i < n → ovX (jnJ bs n) wn = true
  | 0, hi => by omega
  | n + 1, hi => by
    show ovX (jn2 (jnJ bs n) (bxAt bs n)) wn = true
    rcases Nat.lt_or_ge i n with c | c
    · exact ov_left (ov_jnJ h n c)
    · rw [show n = i by omega]
      exact ov_right h
theorem ov_jnI {bs : List Bx} {wn : Bx} {i : Nat} (hi : i < bs.length) (h : ovX (bxAt bs i) wn = true) : ovX (jnI bs) wn = true := by
  unfold jnI
  rw [if_neg (by omega)]
  exact ov_jnJ h _ hi
/-- What the box of a right tree bars lies in no box of the tree. -/
theorem fd_ov : ∀ (d : Nat) (top : Bool) (t : Nd) (wn : Bx) (x : Int), Hd top t d → x ∈ fdV wn t → ovX t.b wn = true
  | 0, top, .mk b bs is ks, wn, x, ⟨h1, ⟨h2, h3⟩, _⟩, hx => by
    have h1' : ks = [] := h1
    subst h1'
    have h3' : b = bxT (.mk b bs is []) := h3
    obtain ⟨f1, _, _⟩ := formW_leaf.1 (show formW bs is [] = false from h2)
    simp only [fdV, fdV.fdL, List.append_nil] at hx
    obtain ⟨i, hi, ho⟩ := fdI_mem wn bs is _ x hx
    show ovX b wn = true
    rw [h3']
    show ovX (jnI bs) wn = true
    exact ov_jnI (by omega) ho
  | d + 1, top, .mk b bs is ks, wn, x, ⟨h1, ⟨h2, h3⟩, h4⟩, hx => by
    have h1' : ks ≠ [] := h1
    have hp := List.length_pos_iff.2 h1'
    have h4' : ∀ k ∈ ks, Hd false k d := h4
    have h3' : b = bxT (.mk b bs is ks) := h3
    obtain ⟨_, _, f3⟩ := (formW_inn hp).1 (show formW bs is ks = false from h2)
    obtain rfl := List.eq_nil_of_length_eq_zero f3
    simp only [fdV, List.length_nil, fdI, List.nil_append] at hx
    obtain ⟨k, hk, hxk⟩ := fdL_mem wn ks x hx
    have ho := fd_ov d false k wn x (h4' k hk) hxk
    obtain ⟨i, hi, rfl⟩ := List.getElem_of_mem hk
    show ovX b wn = true
    rw [h3', show bxT (.mk b bs [] ks) = jnI (ks.map Nd.b) from if_neg (show ¬ ks.length = 0 by omega)]
    refine ov_jnI (i := i) (by rw [List.length_map]; exact hi) ?_
    have e : bxAt (ks.map Nd.b) i = ks[i].b := by unfold bxAt; rw [List.getElem?_map, List.getElem?_eq_getElem hi]; rfl
    rw [e]
    exact ho
theorem fd_none {d : Nat} {top : Bool} {t : Nd} {wn : Bx} (h : Hd top t d) (ho : ovX t.b wn = false) : fdV wn t = [] := by
  cases e : fdV wn t with
  | nil => rfl
  | cons x l =>
    have := fd_ov d top t wn x h (by rw [e]; exact List.mem_cons_self ..)
    rw [ho] at this
    cases this
/-- One node is taken off a stack, what it has is told, its kids are put behind. -/
theorem fd_pop {wn : Bx} {b : Bx} {bs : List Bx} {is : List Int} {ks st : List Nd} {pre : List Int} {tot : List Int} (h : (pre ++ fdV.fdL wn (st ++ [.mk b bs is ks])).Perm tot) : ((pre ++ fdI wn bs is is.length) ++ fdV.fdL wn (st ++ ks)).Perm tot := by
  refine List.Perm.trans ?_ h
  rw [fdL_app, fdL_app]
  simp only [fdV.fdL, fdV, List.append_nil, List.append_assoc]
  refine List.Perm.append_left _ ?_
  rw [← List.append_assoc, ← List.append_assoc]
  exact List.Perm.append_right _ List.perm_append_comm
end Go.Proofs.YtdkhaghcnijilaaGreat

/- The mathematics of TreeOk, the end: a tree is right just if its levels are, and each node of them. -/
namespace Go.Proofs.YtdkhaghcnijilaaGreat
open Go.RowKit

theorem kdN_flat (ts : List Nd) : ∀ j, j ≤ ts.length → kdN ts j = (ts.take j).flatMap Nd.ks
  | 0, _ => by simp [kdN]
  | j + 1, h => by
    rw [take_ndA (by omega), List.flatMap_append, ← kdN_flat ts j (by omega)]
    simp [kdN]
theorem idN_flat (ts : List Nd) : ∀ j, j ≤ ts.length → idN ts j = (ts.take j).flatMap Nd.is
  | 0, _ => by simp [idN]
  | j + 1, h => by
    rw [take_ndA (by omega), List.flatMap_append, ← idN_flat ts j (by omega)]
    simp [idN]
theorem lvl_lvL (t : Nd) : ∀ k, lvl t k = lvL [t] k
  | 0 => rfl
  | k + 1 => by
    rw [lvL_succ, ← lvl_lvL t k]
    show kdN _ _ = _
    rw [kdN_flat _ _ (Nat.le_refl _), List.take_length]
theorem ids_cnt (t : Nd) (m : Nat) : (idN (lvl t m) (lvl t m).length).length = cnt [t] m := by
  rw [idN_flat _ _ (Nat.le_refl _), List.take_length, lvl_lvL]
  rfl
theorem ndA_get {ts : List Nd} {i : Nat} (h : i < ts.length) : ndA ts i = ts[i] := by
  unfold ndA
  rw [List.getElem?_eq_getElem h]
  rfl
theorem lfN_zero (ts : List Nd) : ∀ j, lfN ts j = 0 ↔ ∀ i, i < j → (ndA ts i).ks ≠ []
  | 0 => ⟨fun _ i h => absurd h (by omega), fun _ => rfl⟩
  | j + 1 => by
    simp only [lfN]
    constructor
    · intro h i hi
      rcases Nat.lt_or_ge i j with c | c
      · exact (lfN_zero ts j).1 (by omega) i c
      · rw [show i = j by omega]
        intro e
        rw [e] at h
        simp at h
    · intro h
      rw [(lfN_zero ts j).2 (fun i hi => h i (by omega)), if_neg (fun e => h j (by omega) (List.eq_nil_of_length_eq_zero e))]
theorem lfN_full (ts : List Nd) : ∀ j, lfN ts j = j ↔ ∀ i, i < j → (ndA ts i).ks = []
  | 0 => ⟨fun _ i h => absurd h (by omega), fun _ => rfl⟩
  | j + 1 => by
    have le := lfN_le ts j
    simp only [lfN]
    constructor
    · intro h i hi
      by_cases c0 : (ndA ts j).ks.length = 0
      · rw [if_pos c0] at h
        rcases Nat.lt_or_ge i j with c | c
        · exact (lfN_full ts j).1 (by omega) i c
        · rw [show i = j by omega]
          exact List.eq_nil_of_length_eq_zero c0
      · rw [if_neg c0] at h
        omega
    · intro h
      rw [(lfN_full ts j).2 (fun i hi => h i (by omega)), if_pos (by rw [h j (by omega)]; rfl)]
theorem all_at {ts : List Nd} {P : Nd → Prop} : (∀ i, i < ts.length → P (ndA ts i)) ↔ ∀ x ∈ ts, P x := by
  constructor
  · intro h x hx
    obtain ⟨i, hi, rfl⟩ := List.getElem_of_mem hx
    rw [← ndA_get hi]
    exact h i hi
  · exact fun h i hi => h _ (ndA_mem hi)
theorem flat_long {α : Type} (f : Nd → List α) : ∀ ts : List Nd, (∀ x ∈ ts, f x ≠ []) → ts.length ≤ (ts.flatMap f).length
  | [], _ => Nat.le_refl _
  | t :: ts, h => by
    have h1 := flat_long f ts (fun x hx => h x (List.mem_cons_of_mem _ hx))
    have h2 := List.length_pos_iff.2 (h t (List.mem_cons_self ..))
    simp only [List.flatMap_cons, List.length_append, List.length_cons]
    omega
theorem lvS_le {t : Nd} {m : Nat} (h : LvS t m) (h6 : cnt [t] m ≤ 600) (hm : 0 < m) : ∀ j, j ≤ m → (lvL [t] (m - j)).length ≤ 600
  | 0, _ => by
    refine Nat.le_trans (flat_long Nd.is (lvL [t] m) (fun x hx => ?_)) h6
    obtain ⟨h1, ⟨h2, _⟩, h3⟩ := h.2 x hx
    rw [h1] at h2
    have := formW_leaf.1 h2
    rcases h3 with c | c
    · omega
    · intro e
      rw [e] at this
      exact c this.1
  | j + 1, hj => by
    have h1 := lvS_le h h6 hm j (by omega)
    have e : m - j = (m - (j + 1)) + 1 := by omega
    rw [e, lvL_succ] at h1
    exact Nat.le_trans (flat_long Nd.ks _ (fun x hx => (h.1 _ (by omega) x hx).1)) h1
/-- What the program finds: the levels are good, each node is, and there are not too many numbers. -/
def PrS (t : Nd) (m : Nat) : Prop := lvGood t m ∧ (∀ k, k ≤ m → ∀ x ∈ lvl t k, chkN m x) ∧ (idN (lvl t m) (lvl t m).length).length ≤ 600
theorem lvS_prS (t : Nd) (m : Nat) : LvS t m ∧ cnt [t] m ≤ 600 ↔ PrS t m := by
  unfold PrS lvGood lvFine
  rw [ids_cnt]
  constructor
  · rintro ⟨h, h6⟩
    refine ⟨⟨fun i hi => ⟨?_, ?_⟩, ?_⟩, fun k hk x hx => ?_, h6⟩
    · rw [lfN_zero, all_at (P := fun x => x.ks ≠ []), lvl_lvL]
      exact fun x hx => (h.1 i hi x hx).1
    · rw [lvl_lvL]
      have := lvS_le h h6 (by omega) (m - (i + 1)) (by omega)
      rw [show m - (m - (i + 1)) = i + 1 by omega] at this
      exact this
    · rw [lfN_full, all_at (P := fun x => x.ks = []), lvl_lvL]
      exact fun x hx => (h.2 x hx).1
    · rw [lvl_lvL] at hx
      rcases Nat.lt_or_ge k m with c | c
      · obtain ⟨h1, h2⟩ := h.1 k c x hx
        exact ⟨h2, .inr fun e => h1 (List.eq_nil_of_length_eq_zero e.2)⟩
      · rw [show k = m by omega] at hx
        obtain ⟨h1, h2, h3⟩ := h.2 x hx
        exact ⟨h2, by rcases h3 with c | c; · exact .inl c
                      · exact .inr fun e => c e.1⟩
  · rintro ⟨⟨h1, h2⟩, h3, h6⟩
    refine ⟨⟨fun k hk x hx => ?_, fun x hx => ?_⟩, h6⟩
    · have a1 := (h1 k hk).1
      rw [lfN_zero, all_at (P := fun x => x.ks ≠ []), lvl_lvL] at a1
      exact ⟨a1 x hx, (h3 k (by omega) x (by rw [lvl_lvL]; exact hx)).1⟩
    · rw [lfN_full, all_at (P := fun x => x.ks = []), lvl_lvL] at h2
      obtain ⟨b1, b2⟩ := h3 m (Nat.le_refl _) x (by rw [lvl_lvL]; exact hx)
      refine ⟨h2 x hx, b1, ?_⟩
      rcases b2 with c | c
      · exact .inl c
      · exact .inr fun e => c ⟨e, by rw [h2 x hx]; rfl⟩
theorem okT_prS (t : Nd) : okT t = true ↔ ∃ m, PrS t m := by
  rw [okT_lvS]
  exact ⟨fun ⟨m, h⟩ => ⟨m, (lvS_prS t m).1 h⟩, fun ⟨m, h⟩ => ⟨m, (lvS_prS t m).2 h⟩⟩
theorem okT_bad {t : Nd} (h : lvBad t) : okT t = false := by
  cases e : okT t with
  | false => rfl
  | true =>
    obtain ⟨m, hm⟩ := (okT_prS t).1 e
    exact absurd h (lv_one hm.1).1
theorem okT_good {t : Nd} {m : Nat} (h : lvGood t m) : okT t = true ↔ (∀ k, k ≤ m → ∀ x ∈ lvl t k, chkN m x) ∧ (idN (lvl t m) (lvl t m).length).length ≤ 600 := by
  rw [okT_prS]
  constructor
  · rintro ⟨m', hm⟩
    obtain rfl := (lv_one h).2 m' hm.1
    exact hm.2
  · exact fun k => ⟨m, h, k⟩
end Go.Proofs.YtdkhaghcnijilaaGreat
