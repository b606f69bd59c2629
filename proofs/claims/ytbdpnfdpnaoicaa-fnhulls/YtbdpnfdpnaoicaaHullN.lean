import Derived.Test.YtbdpnfdpnaoicaaHullM
/- Hulls, what they are: the chain of left turns has all points to its left, and is the only one that has; the hull of a hull is itself. No program is named here. -/
namespace Go.Proofs.Ytbdpnfdpnaoicaa

/-- The side of c of the way from a to b. -/
abbrev tn (a b c : Pn) : Int := ar a.1 a.2 b.1 b.2 c.1 c.2
/-- A way to go along: how far a point is on it. -/
def fw (M N : Int) (p : Pn) : Int := M * p.1 + N * p.2

theorem fw_neg (M N : Int) (p : Pn) : fw (-M) (-N) p = - fw M N p := by unfold fw; grind
theorem id1 (M N : Int) (a b p q : Pn) : (fw M N p - fw M N b) * tn a p q = (fw M N p - fw M N a) * tn b p q + (fw M N p - fw M N q) * tn a p b := by unfold fw tn ar; grind
theorem id2 (M N : Int) (a b p q : Pn) : (fw M N b - fw M N a) * tn a p q = (fw M N p - fw M N a) * tn a b q - (fw M N q - fw M N a) * tn a b p := by unfold fw tn ar; grind
theorem id3 (M N : Int) (a b p q : Pn) : (fw M N b - fw M N a) * tn b p q = (fw M N p - fw M N b) * tn a b q + (fw M N b - fw M N q) * tn a b p := by unfold fw tn ar; grind
theorem id4 (M N : Int) (a b c p : Pn) : (fw M N c - fw M N b) * tn a b p = (fw M N p - fw M N b) * tn a b c + (fw M N b - fw M N a) * tn b c p := by unfold fw tn ar; grind
theorem id5 (M N : Int) (a b c d : Pn) : (fw M N b - fw M N a) * tn b c d = (fw M N c - fw M N b) * tn a b d - (fw M N d - fw M N b) * tn a b c := by unfold fw tn ar; grind
theorem id6 (M N : Int) (a b p q r : Pn) : (fw M N b - fw M N a) * tn p q r = (fw M N r - fw M N q) * tn a b p + (fw M N p - fw M N r) * tn a b q + (fw M N q - fw M N p) * tn a b r := by unfold fw tn ar; grind
theorem tn_swap (a p b : Pn) : tn a p b = - tn a b p := by unfold tn ar; grind
theorem tn_same (a b : Pn) : tn a b a = 0 ∧ tn a b b = 0 ∧ tn a a b = 0 := by unfold tn ar; grind
theorem pos_mul {g x : Int} (hg : 0 < g) (h : 0 ≤ g * x) : 0 ≤ x := by
  apply Classical.byContradiction
  intro hx
  have : g * x ≤ g * (-1) := Int.mul_le_mul_of_nonneg_left (by omega) (by omega)
  omega
theorem pos_mul' {g x : Int} (hg : 0 < g) (h : 0 < g * x) : 0 < x := by
  apply Classical.byContradiction
  intro hx
  have : g * x ≤ g * 0 := Int.mul_le_mul_of_nonneg_left (by omega) (by omega)
  omega
theorem neg_mul' {g x : Int} (hg : 0 < g) (h : g * x < 0) : x < 0 := by
  apply Classical.byContradiction
  intro hx
  have : 0 ≤ g * x := Int.mul_nonneg (by omega) (by omega)
  omega

/-- A row with its last point first: it goes forth. -/
def Dn (M N : Int) : List Pn → Prop
  | b :: a :: r => fw M N a < fw M N b ∧ Dn M N (a :: r)
  | _ => True
/-- .. it turns left at each point. -/
def TnR : List Pn → Prop
  | c :: b :: a :: r => 0 < tn a b c ∧ TnR (b :: a :: r)
  | _ => True
/-- .. and has points to its left. -/
def EdR (Q : Pn → Prop) : List Pn → Prop
  | b :: a :: r => (∀ q, Q q → 0 ≤ tn a b q) ∧ EdR Q (a :: r)
  | _ => True
theorem Dn.tl {M N : Int} {b : Pn} {r : List Pn} (h : Dn M N (b :: r)) : Dn M N r := by
  cases r with
  | nil => trivial
  | cons a r => exact h.2
theorem TnR.tl {b : Pn} {r : List Pn} (h : TnR (b :: r)) : TnR r := by
  match r, h with
  | [], _ => trivial
  | [a], _ => trivial
  | b :: a :: r, h => exact h.2
theorem EdR.tl {Q : Pn → Prop} {b : Pn} {r : List Pn} (h : EdR Q (b :: r)) : EdR Q r := by
  cases r with
  | nil => trivial
  | cons a r => exact h.2
theorem EdR.mono {Q Q' : Pn → Prop} (h : ∀ q, Q' q → Q q) : ∀ {r : List Pn}, EdR Q r → EdR Q' r
  | [], _ => trivial
  | [_], _ => trivial
  | _ :: _ :: _, k => ⟨fun q hq => k.1 q (h q hq), EdR.mono h k.2⟩
/-- A point farther on, to the left of the last way, is to the left of all. -/
theorem left_all {M N : Int} {p : Pn} : ∀ {r : List Pn} {b a : Pn}, Dn M N (b :: a :: r) → TnR (b :: a :: r) → fw M N b < fw M N p → 0 < tn a b p → EdR (fun q => q = p) (b :: a :: r)
  | [], b, a, _, _, _, h => ⟨fun q e => by rw [e]; omega, trivial⟩
  | c :: r, b, a, d, t, hp, h => by
    refine ⟨fun q e => by rw [e]; omega, left_all d.2 t.2 (by have := d.1; omega) ?_⟩
    have e := id4 M N c a b p
    have d1 := d.1
    have d2 := d.2.1
    have t1 := t.1
    have m1 : 0 < (fw M N p - fw M N a) * tn c a b := Int.mul_pos (by omega) t1
    have m2 : 0 < (fw M N a - fw M N c) * tn a b p := Int.mul_pos (by omega) h
    exact pos_mul' (g := fw M N b - fw M N a) (by omega) (by omega)

/-- What is told of a row behind all points Q. -/
structure Gd (M N : Int) (Q : Pn → Prop) (ks : List Pn) : Prop where
  dn : Dn M N ks
  tn : TnR ks
  ed : EdR Q ks
theorem pop_good {M N : Int} {Q : Pn → Prop} {p : Pn} (hp : ∀ q, Q q → fw M N q < fw M N p) : ∀ {ks : List Pn} {b : Pn}, Gd M N Q (b :: ks) → (∀ q ∈ (b :: ks), Q q) → (∀ q, Q q → fw M N b ≤ fw M N q → 0 ≤ Go.Proofs.Ytbdpnfdpnaoicaa.tn b p q) → (∀ q, Q q → ∀ z, (b :: ks).getLast? = some z → fw M N z ≤ fw M N q) → Gd M N (fun q => Q q ∨ q = p) (p :: popR (b :: ks) p)
  | [], b, g, m, i, z => by
    refine ⟨⟨hp b (m b (List.mem_cons_self ..)), trivial⟩, trivial, ⟨fun q hq => ?_, trivial⟩⟩
    rcases hq with hq | rfl
    · exact i q hq (z q hq b rfl)
    · exact Int.le_of_eq (tn_same b q).2.1.symm
  | a :: r, b, g, m, i, z => by
    have hb : Q b := m b (List.mem_cons_self ..)
    have ha : Q a := m a (List.mem_cons_of_mem _ (List.mem_cons_self ..))
    have pb := hp b hb
    have pa := hp a ha
    have ab : fw M N a < fw M N b := g.dn.1
    by_cases c : ar a.1 a.2 b.1 b.2 p.1 p.2 ≤ 0
    · rw [popR_pop c]
      refine pop_good hp ⟨g.dn.2, g.tn.tl, g.ed.2⟩ (fun q hq => m q (List.mem_cons_of_mem _ hq)) (fun q hq ha' => ?_) (fun q hq zz hz => z q hq zz (by rw [List.getLast?_cons_cons]; exact hz))
      have pq := hp q hq
      have cs : 0 ≤ Go.Proofs.Ytbdpnfdpnaoicaa.tn a p b := by rw [tn_swap]; unfold Go.Proofs.Ytbdpnfdpnaoicaa.tn; omega
      by_cases hq2 : fw M N b ≤ fw M N q
      · have e := id1 M N a b p q
        have m1 : 0 ≤ (fw M N p - fw M N a) * Go.Proofs.Ytbdpnfdpnaoicaa.tn b p q := Int.mul_nonneg (by omega) (i q hq hq2)
        have m2 : 0 ≤ (fw M N p - fw M N q) * Go.Proofs.Ytbdpnfdpnaoicaa.tn a p b := Int.mul_nonneg (by omega) cs
        exact pos_mul (g := fw M N p - fw M N b) (by omega) (by omega)
      · have e := id2 M N a b p q
        have m1 : 0 ≤ (fw M N p - fw M N a) * Go.Proofs.Ytbdpnfdpnaoicaa.tn a b q := Int.mul_nonneg (by omega) (g.ed.1 q hq)
        have m2 : 0 ≤ (fw M N q - fw M N a) * (- Go.Proofs.Ytbdpnfdpnaoicaa.tn a b p) := Int.mul_nonneg (by omega) (by unfold Go.Proofs.Ytbdpnfdpnaoicaa.tn; omega)
        rw [Int.mul_neg] at m2
        exact pos_mul (g := fw M N b - fw M N a) (by omega) (by omega)
    · rw [popR_stay c]
      have c' : 0 < Go.Proofs.Ytbdpnfdpnaoicaa.tn a b p := by unfold Go.Proofs.Ytbdpnfdpnaoicaa.tn; omega
      have L := left_all g.dn g.tn pb c'
      refine ⟨⟨pb, g.dn⟩, ⟨c', g.tn⟩, ⟨fun q hq => ?_, ?_⟩⟩
      · rcases hq with hq | rfl
        · by_cases hq2 : fw M N b ≤ fw M N q
          · exact i q hq hq2
          · have e := id3 M N a b p q
            have m1 : 0 ≤ (fw M N p - fw M N b) * Go.Proofs.Ytbdpnfdpnaoicaa.tn a b q := Int.mul_nonneg (by omega) (g.ed.1 q hq)
            have m2 : 0 ≤ (fw M N b - fw M N q) * Go.Proofs.Ytbdpnfdpnaoicaa.tn a b p := Int.mul_nonneg (by omega) (by omega)
            exact pos_mul (g := fw M N b - fw M N a) (by omega) (by omega)
        · exact Int.le_of_eq (tn_same b q).2.1.symm
      · have both : ∀ {r : List Pn}, EdR Q r → EdR (fun q => q = p) r → EdR (fun q => Q q ∨ q = p) r := by
          intro r
          induction r with
          | nil => intro _ _; trivial
          | cons x r ih =>
            cases r with
            | nil => intro _ _; trivial
            | cons y r => exact fun h k => ⟨fun q hq => hq.elim (h.1 q) (k.1 q), ih h.2 k.2⟩
        exact both g.ed L
theorem popR_last : ∀ (ks : List Pn) (p : Pn), (popR ks p).getLast? = ks.getLast?
  | [], _ => rfl
  | [_], _ => rfl
  | b :: a :: r, p => by
    by_cases c : ar a.1 a.2 b.1 b.2 p.1 p.2 ≤ 0
    · rw [popR_pop c, popR_last, List.getLast?_cons_cons]
    · rw [popR_stay c]
/-- What is told of the chain of a row that goes forth. -/
structure Ch (M N : Int) (Q : Pn → Prop) (ks : List Pn) : Prop where
  gd : Gd M N Q ks
  mem : ∀ q ∈ ks, Q q
  top : ∀ z, ks.head? = some z → ∀ q, Q q → fw M N q ≤ fw M N z
  low : ∀ z, ks.getLast? = some z → ∀ q, Q q → fw M N z ≤ fw M N q
theorem Ch.step {M N : Int} {Q : Pn → Prop} {b p : Pn} {ks : List Pn} (h : Ch M N Q (b :: ks)) (inj : ∀ x y, Q x → Q y → fw M N x = fw M N y → x = y) (hp : ∀ q, Q q → fw M N q < fw M N p) : Ch M N (fun q => Q q ∨ q = p) (p :: popR (b :: ks) p) := by
  refine ⟨pop_good hp h.gd h.mem (fun q hq hb => ?_) (fun q hq z hz => h.low z hz q hq), fun q hq => ?_, fun z hz q hq => ?_, fun z hz q hq => ?_⟩
  · have h1 := h.top b rfl q hq
    have e := inj q b hq (h.mem b (List.mem_cons_self ..)) (by omega)
    rw [e]
    exact Int.le_of_eq (tn_same b p).1.symm
  · rcases List.mem_cons.1 hq with rfl | hq
    · exact .inr rfl
    · exact .inl (h.mem q (popR_mem _ _ _ hq))
  · cases hz
    rcases hq with hq | rfl
    · have := hp q hq; omega
    · omega
  · have e : (p :: popR (b :: ks) p).getLast? = (b :: ks).getLast? := by
      cases hk : popR (b :: ks) p with
      | nil => have := (popR_len (b :: ks) p).2 (by simp); rw [hk] at this; simp at this
      | cons x y => rw [List.getLast?_cons_cons, ← hk, popR_last]
    rw [e] at hz
    rcases hq with hq | rfl
    · exact h.low z hz q hq
    · have := h.low z hz b (h.mem b (List.mem_cons_self ..)); have := hp b (h.mem b (List.mem_cons_self ..)); omega
end Go.Proofs.Ytbdpnfdpnaoicaa

/- Hulls: the chain of a row is the only one of its kind; the hull of a hull is itself; its ways one behind the other. No program is named here. -/
namespace Go.Proofs.Ytbdpnfdpnaoicaa

theorem id7 (M N : Int) (a b c d : Pn) : (fw M N b - fw M N a) * tn c a d = (fw M N a - fw M N c) * tn a b d - (fw M N a - fw M N d) * tn c a b := by unfold fw tn ar; grind
theorem Gd.congr {M N : Int} {Q Q' : Pn → Prop} {ks : List Pn} (h : Gd M N Q ks) (e : ∀ q, Q' q → Q q) : Gd M N Q' ks := ⟨h.dn, h.tn, h.ed.mono e⟩
theorem Ch.congr {M N : Int} {Q Q' : Pn → Prop} {ks : List Pn} (h : Ch M N Q ks) (e : ∀ q, Q' q ↔ Q q) : Ch M N Q' ks :=
  ⟨h.gd.congr (fun q hq => (e q).1 hq), fun q hq => (e q).2 (h.mem q hq), fun z hz q hq => h.top z hz q ((e q).1 hq), fun z hz q hq => h.low z hz q ((e q).1 hq)⟩
theorem Ch.chain {M N : Int} : ∀ (ps : List Pn) {Q : Pn → Prop} {ks : List Pn}, ks ≠ [] → Ch M N Q ks → (∀ x y, Q x → Q y → fw M N x = fw M N y → x = y) → (∀ q, Q q → ∀ p ∈ ps, fw M N q < fw M N p) → ps.Pairwise (fun a b => fw M N a < fw M N b) → Ch M N (fun q => Q q ∨ q ∈ ps) (chnR ks ps)
  | [], Q, ks, _, h, _, _, _ => h.congr (fun q => by simp)
  | p :: r, Q, [], hk, _, _, _, _ => absurd rfl hk
  | p :: r, Q, b :: ks, _, h, inj, lt, inc => by
    rw [List.pairwise_cons] at inc
    have hp : ∀ q, Q q → fw M N q < fw M N p := fun q hq => lt q hq p (List.mem_cons_self ..)
    have s := h.step inj hp
    have c := Ch.chain r (List.cons_ne_nil _ _) s (fun x y hx hy e => by
      rcases hx with hx | rfl
      · rcases hy with hy | rfl
        · exact inj x y hx hy e
        · have := hp x hx; omega
      · rcases hy with hy | rfl
        · have := hp y hy; omega
        · rfl) (fun q hq z hz => by
      rcases hq with hq | rfl
      · exact lt q hq z (List.mem_cons_of_mem _ hz)
      · exact inc.1 z hz) inc.2
    refine c.congr (fun q => ?_)
    rw [List.mem_cons]
    constructor
    · rintro (q | q | q)
      · exact .inl (.inl q)
      · exact .inl (.inr q)
      · exact .inr q
    · rintro ((q | q) | q)
      · exact .inl q
      · exact .inr (.inl q)
      · exact .inr (.inr q)
/-- The chain of a row that goes forth. -/
theorem chn_ch {M N : Int} {S : List Pn} (h : S ≠ []) (inc : S.Pairwise (fun a b => fw M N a < fw M N b)) : Ch M N (fun q => q ∈ S) (chnR [] S) := by
  match S, h with
  | p :: r, _ =>
    rw [List.pairwise_cons] at inc
    have b : Ch M N (fun q => q = p) [p] := ⟨⟨trivial, trivial, trivial⟩, fun q hq => by simpa using hq, fun z hz q hq => by cases hz; rw [hq]; exact Int.le_refl _, fun z hz q hq => by cases hz; rw [hq]; exact Int.le_refl _⟩
    have c := Ch.chain r (List.cons_ne_nil p []) b (fun x y hx hy _ => by rw [hx, hy]) (fun q hq z hz => by rw [hq]; exact inc.1 z hz) inc.2
    exact c.congr (fun q => by rw [List.mem_cons])
theorem inc_inj {M N : Int} : ∀ {S : List Pn}, S.Pairwise (fun a b => fw M N a < fw M N b) → ∀ x ∈ S, ∀ y ∈ S, fw M N x = fw M N y → x = y
  | [], _, x, hx, _, _, _ => by cases hx
  | p :: r, inc, x, hx, y, hy, e => by
    rw [List.pairwise_cons] at inc
    rcases List.mem_cons.1 hx with h1 | h1
    · rcases List.mem_cons.1 hy with h2 | h2
      · rw [h1, h2]
      · have := inc.1 y h2; rw [← h1] at this; omega
    · rcases List.mem_cons.1 hy with h2 | h2
      · have := inc.1 x h1; rw [← h2] at this; omega
      · exact inc_inj inc.2 x h1 y h2 e
theorem Dn.all {M N : Int} : ∀ {ks : List Pn} {b : Pn}, Dn M N (b :: ks) → ∀ q ∈ ks, fw M N q < fw M N b
  | [], _, _, q, hq => by cases hq
  | a :: r, b, d, q, hq => by
    rcases List.mem_cons.1 hq with rfl | hq
    · exact d.1
    · have := Dn.all d.2 q hq; have := d.1; omega
theorem last_le {M N : Int} {ks : List Pn} {b z : Pn} (d : Dn M N (b :: ks)) (h : (b :: ks).getLast? = some z) : fw M N z ≤ fw M N b := by
  have := List.mem_of_getLast? h
  rcases List.mem_cons.1 this with rfl | q
  · exact Int.le_refl _
  · exact Int.le_of_lt (d.all z q)
/-- Two chains, each to the left of the other one: their next points are the same. -/
theorem next_not {M N : Int} {b a a' z : Pn} {r r' : List Pn} (d : Dn M N (b :: a :: r)) (d' : Dn M N (b :: a' :: r')) (t : TnR (b :: a :: r)) (h1 : 0 ≤ tn a b a') (h2 : 0 ≤ tn a' b a) (h3 : EdR (fun q => q = a') (a :: r)) (hl : (a :: r).getLast? = some z) (hl' : (a' :: r').getLast? = some z) : ¬ fw M N a' < fw M N a := by
  intro lt
  have e0 : tn a b a' = 0 := by
    have : tn a' b a = - tn a b a' := by unfold tn ar; grind
    omega
  cases r with
  | nil =>
    have hz : a = z := by simpa using hl
    have := last_le d'.2 hl'
    rw [← hz] at this
    omega
  | cons c r =>
    have e := id7 M N a b c a'
    rw [e0, Int.mul_zero] at e
    have k := h3.1 a' rfl
    have m : 0 < (fw M N a - fw M N a') * tn c a b := Int.mul_pos (by omega) t.1
    have n : (fw M N b - fw M N a) * tn c a a' < 0 := by omega
    have := neg_mul' (g := fw M N b - fw M N a) (by have := d.1; omega) n
    omega
theorem chain_one {M N : Int} : ∀ (ks ks' : List Pn), Dn M N ks → Dn M N ks' → TnR ks → TnR ks' → EdR (fun q => q ∈ ks') ks → EdR (fun q => q ∈ ks) ks' → ks.head? = ks'.head? → ks.getLast? = ks'.getLast? → (∀ x ∈ ks, ∀ y ∈ ks', fw M N x = fw M N y → x = y) → ks = ks'
  | [], [], _, _, _, _, _, _, _, _, _ => rfl
  | [], _ :: _, _, _, _, _, _, _, h, _, _ => by cases h
  | _ :: _, [], _, _, _, _, _, _, h, _, _ => by cases h
  | [b], [b'], _, _, _, _, _, _, h, _, _ => by cases h; rfl
  | [b], b' :: a' :: r', d, d', _, _, _, _, h, l, _ => by
    cases h
    have hz : (b :: a' :: r').getLast? = some b := l.symm
    rw [List.getLast?_cons_cons] at hz
    have := last_le d'.2 hz
    have := d'.1
    omega
  | b :: a :: r, [b'], d, d', _, _, _, _, h, l, _ => by
    cases h
    have hz : (b :: a :: r).getLast? = some b := l
    rw [List.getLast?_cons_cons] at hz
    have := last_le d.2 hz
    have := d.1
    omega
  | b :: a :: r, b' :: a' :: r', d, d', t, t', e, e', h, l, inj => by
    have hb : b = b' := by simpa using h
    subst hb
    rw [List.getLast?_cons_cons, List.getLast?_cons_cons] at l
    obtain ⟨z, hz⟩ : ∃ z, (a :: r).getLast? = some z := ⟨_, List.getLast?_eq_some_getLast (List.cons_ne_nil a r)⟩
    have hz' := l.symm.trans hz
    have ia : a ∈ (b :: a :: r) := List.mem_cons_of_mem _ (List.mem_cons_self ..)
    have ia' : a' ∈ (b :: a' :: r') := List.mem_cons_of_mem _ (List.mem_cons_self ..)
    have k1 := e.1 a' ia'
    have k2 := e'.1 a ia
    have n1 := next_not d d' t k1 k2 (e.2.mono (fun q hq => by rw [hq]; exact ia')) hz hz'
    have n2 := next_not d' d t' k2 k1 (e'.2.mono (fun q hq => by rw [hq]; exact ia)) hz' hz
    have ea : a = a' := inj a ia a' ia' (by omega)
    subst ea
    rw [chain_one (a :: r) (a :: r') d.2 d'.2 t.tl t'.tl (e.2.mono (fun q hq => List.mem_cons_of_mem _ hq)) (e'.2.mono (fun q hq => List.mem_cons_of_mem _ hq)) rfl (hz.trans hz'.symm) (fun x hx y hy => inj x (List.mem_cons_of_mem _ hx) y (List.mem_cons_of_mem _ hy))]
theorem chnR_ne {S : List Pn} (h : S ≠ []) : chnR [] S ≠ [] := fun e => by
  have := (chnR_len S []).2.2.1 (by have := List.length_pos_iff.2 h; simpa using this)
  rw [e] at this
  simp at this
/-- A row that has the chain's points has the same chain. -/
theorem chn_same {M N : Int} {S T : List Pn} (hs : S ≠ []) (ht : T ≠ []) (is : S.Pairwise (fun a b => fw M N a < fw M N b)) (it : T.Pairwise (fun a b => fw M N a < fw M N b)) (sub : ∀ q ∈ T, q ∈ S) (sup : ∀ q ∈ chnR [] S, q ∈ T) : chnR [] T = chnR [] S := by
  have cs := chn_ch hs is
  have ct := chn_ch ht it
  have inj := inc_inj is
  obtain ⟨z1, h1⟩ : ∃ z, (chnR [] S).head? = some z := ⟨_, List.head?_eq_some_head (chnR_ne hs)⟩
  obtain ⟨z2, h2⟩ : ∃ z, (chnR [] T).head? = some z := ⟨_, List.head?_eq_some_head (chnR_ne ht)⟩
  obtain ⟨y1, l1⟩ : ∃ z, (chnR [] S).getLast? = some z := ⟨_, List.getLast?_eq_some_getLast (chnR_ne hs)⟩
  obtain ⟨y2, l2⟩ : ∃ z, (chnR [] T).getLast? = some z := ⟨_, List.getLast?_eq_some_getLast (chnR_ne ht)⟩
  have m1 := List.mem_of_head? h1
  have m2 := List.mem_of_head? h2
  have n1 := List.mem_of_getLast? l1
  have n2 := List.mem_of_getLast? l2
  have e1 : z2 = z1 := inj z2 (sub _ (ct.mem _ m2)) z1 (cs.mem _ m1) (by have := ct.top z2 h2 z1 (sup _ m1); have := cs.top z1 h1 z2 (sub _ (ct.mem _ m2)); omega)
  have e2 : y2 = y1 := inj y2 (sub _ (ct.mem _ n2)) y1 (cs.mem _ n1) (by have := ct.low y2 l2 y1 (sup _ n1); have := cs.low y1 l1 y2 (sub _ (ct.mem _ n2)); omega)
  exact chain_one _ _ ct.gd.dn cs.gd.dn ct.gd.tn cs.gd.tn (ct.gd.ed.mono (fun q hq => sup q hq)) (cs.gd.ed.mono (fun q hq => sub q (ct.mem q hq))) (by rw [h1, h2, e1]) (by rw [l1, l2, e2]) (fun x hx y hy e => inj x (sub x (ct.mem x hx)) y (cs.mem y hy) e)
end Go.Proofs.Ytbdpnfdpnaoicaa

/- Hulls: the hull of points in order: its ways have all points to their left, it turns left at each corner, it is its own hull. No program is named here. -/
namespace Go.Proofs.Ytbdpnfdpnaoicaa

/-- A coordinate that may be. -/
def Bd (p : Pn) : Prop := (-10000000 ≤ p.1 ∧ p.1 ≤ 10000000) ∧ (-10000000 ≤ p.2 ∧ p.2 ≤ 10000000)
theorem fw_lt {a b : Pn} (ha : Bd a) (hb : Bd b) (h : ltP a b) : fw 20000001 1 a < fw 20000001 1 b := by unfold fw; unfold ltP at h; unfold Bd at ha hb; omega
theorem fw_inc {S : List Pn} (h : S.Pairwise ltP) (ok : ∀ q ∈ S, Bd q) : S.Pairwise (fun a b => fw 20000001 1 a < fw 20000001 1 b) :=
  List.Pairwise.imp_of_mem (fun ha hb k => fw_lt (ok _ ha) (ok _ hb) k) h
theorem fw_dec {S : List Pn} (h : S.Pairwise ltP) (ok : ∀ q ∈ S, Bd q) : S.reverse.Pairwise (fun a b => fw (-20000001) (-1) a < fw (-20000001) (-1) b) := by
  rw [List.pairwise_reverse]
  exact List.Pairwise.imp (fun k => by rw [fw_neg, fw_neg]; omega) (fw_inc h ok)

/-- The points of the hull. -/
theorem chnR_two {S : List Pn} (h : 2 ≤ S.length) : ∃ b a r, chnR [] S = b :: a :: r := by
  have := chn_two h
  unfold chn at this
  rw [List.length_reverse] at this
  match chnR [] S, this with
  | b :: a :: r, _ => exact ⟨b, a, r, rfl⟩
theorem ends_meet {S : List Pn} (hs : 2 ≤ S.length) (h : S.Pairwise ltP) (ok : ∀ q ∈ S, Bd q) : (chnR [] S).head? = (chnR [] S.reverse).getLast? ∧ (chnR [] S).getLast? = (chnR [] S.reverse).head? := by
  have n1 : S ≠ [] := fun e => by rw [e] at hs; simp at hs
  have n2 : S.reverse ≠ [] := fun e => n1 (by simpa using e)
  have cs := chn_ch n1 (fw_inc h ok)
  have ct := chn_ch n2 (fw_dec h ok)
  have inj := inc_inj (fw_inc h ok)
  obtain ⟨z1, h1⟩ : ∃ z, (chnR [] S).head? = some z := ⟨_, List.head?_eq_some_head (chnR_ne n1)⟩
  obtain ⟨z2, h2⟩ : ∃ z, (chnR [] S.reverse).head? = some z := ⟨_, List.head?_eq_some_head (chnR_ne n2)⟩
  obtain ⟨y1, l1⟩ : ∃ z, (chnR [] S).getLast? = some z := ⟨_, List.getLast?_eq_some_getLast (chnR_ne n1)⟩
  obtain ⟨y2, l2⟩ : ∃ z, (chnR [] S.reverse).getLast? = some z := ⟨_, List.getLast?_eq_some_getLast (chnR_ne n2)⟩
  have m1 := cs.mem _ (List.mem_of_head? h1)
  have m2 := List.mem_reverse.1 (ct.mem _ (List.mem_of_head? h2))
  have k1 := cs.mem _ (List.mem_of_getLast? l1)
  have k2 := List.mem_reverse.1 (ct.mem _ (List.mem_of_getLast? l2))
  have e1 : z1 = y2 := inj _ m1 _ k2 (by
    have a := cs.top z1 h1 y2 k2
    have b := ct.low y2 l2 z1 (List.mem_reverse.2 m1)
    rw [fw_neg, fw_neg] at b
    omega)
  have e2 : y1 = z2 := inj _ k1 _ m2 (by
    have a := cs.low y1 l1 z2 m2
    have b := ct.top z2 h2 y1 (List.mem_reverse.2 k1)
    rw [fw_neg, fw_neg] at b
    omega)
  exact ⟨by rw [h1, l2, e1], by rw [l1, h2, e2]⟩
theorem dropLast_rev {α : Type} (l : List α) : l.reverse.dropLast = l.tail.reverse := by simp
/-- The hull by its two halves, each with its last point first. -/
theorem hul_eq {S : List Pn} (hs : 2 ≤ S.length) : hul S = (chnR [] S).tail.reverse ++ (chnR [] S.reverse).tail.reverse := by
  unfold hul chn
  rw [if_neg (by omega), dropLast_rev, dropLast_rev]
theorem hul_mem {S : List Pn} (hs : 2 ≤ S.length) (h : S.Pairwise ltP) (ok : ∀ q ∈ S, Bd q) (q : Pn) : q ∈ hul S ↔ q ∈ chnR [] S ∨ q ∈ chnR [] S.reverse := by
  obtain ⟨b, a, r, e1⟩ := chnR_two hs
  obtain ⟨b', a', r', e2⟩ := chnR_two (S := S.reverse) (by rw [List.length_reverse]; exact hs)
  obtain ⟨m1, m2⟩ := ends_meet hs h ok
  rw [hul_eq hs]
  rw [e1, e2] at m1 m2 ⊢
  rw [List.getLast?_cons_cons] at m1 m2
  have g1 : b ∈ (a' :: r') := List.mem_of_getLast? m1.symm
  have g2 : b' ∈ (a :: r) := List.mem_of_getLast? m2
  simp only [List.tail_cons, List.mem_append, List.mem_reverse]
  constructor
  · rintro (k | k)
    · exact .inl (List.mem_cons_of_mem _ k)
    · exact .inr (List.mem_cons_of_mem _ k)
  · rintro (k | k)
    · rcases List.mem_cons.1 k with rfl | k
      · exact .inr g1
      · exact .inl k
    · rcases List.mem_cons.1 k with rfl | k
      · exact .inl g2
      · exact .inr k
theorem hul_sub {S : List Pn} (h : S.Pairwise ltP) (ok : ∀ q ∈ S, Bd q) : ∀ q ∈ hul S, q ∈ S := by
  by_cases hs : 2 ≤ S.length
  · intro q hq
    rcases (hul_mem hs h ok q).1 hq with k | k
    · rcases chnR_mem _ _ _ k with k | k
      · cases k
      · exact k
    · rcases chnR_mem _ _ _ k with k | k
      · cases k
      · exact List.mem_reverse.1 k
  · intro q hq
    unfold hul at hq
    rw [if_pos (by omega)] at hq
    exact hq
/-- The hull of the hull is itself. -/
theorem hul_hul {S T : List Pn} (h : S.Pairwise ltP) (ok : ∀ q ∈ S, Bd q) (k : Sus (hul S) T) : hul T = hul S := by
  by_cases hs : 2 ≤ S.length
  · have n1 : S ≠ [] := fun e => by rw [e] at hs; simp at hs
    have n2 : S.reverse ≠ [] := fun e => n1 (by simpa using e)
    have sub : ∀ q ∈ T, q ∈ S := fun q hq => hul_sub h ok q ((k.2 q).1 hq)
    have okT : ∀ q ∈ T, Bd q := fun q hq => ok q (sub q hq)
    obtain ⟨b, a, r, e1⟩ := chnR_two hs
    have ib : b ∈ T := (k.2 b).2 ((hul_mem hs h ok b).2 (.inl (by rw [e1]; exact List.mem_cons_self ..)))
    have ia : a ∈ T := (k.2 a).2 ((hul_mem hs h ok a).2 (.inl (by rw [e1]; exact List.mem_cons_of_mem _ (List.mem_cons_self ..))))
    have ne : a ≠ b := fun e => by
      have := (chn_ch n1 (fw_inc h ok)).gd.dn
      rw [e1] at this
      have := this.1
      rw [e] at this
      omega
    have t2 : 2 ≤ T.length := by
      match T, ia, ib with
      | [x], ia, ib => exact absurd ((List.mem_singleton.1 ia).trans (List.mem_singleton.1 ib).symm) ne
      | _ :: _ :: _, _, _ => simp
    have n3 : T ≠ [] := fun e => by rw [e] at t2; simp at t2
    have n4 : T.reverse ≠ [] := fun e => n3 (by simpa using e)
    have c1 := chn_same n1 n3 (fw_inc h ok) (fw_inc k.1 okT) sub (fun q hq => (k.2 q).2 ((hul_mem hs h ok q).2 (.inl hq)))
    have c2 := chn_same n2 n4 (fw_dec h ok) (fw_dec k.1 okT) (fun q hq => List.mem_reverse.2 (sub q (List.mem_reverse.1 hq))) (fun q hq => List.mem_reverse.2 ((k.2 q).2 ((hul_mem hs h ok q).2 (.inr hq))))
    rw [hul_eq t2, hul_eq hs, c1, c2]
  · have e : hul S = S := by unfold hul; rw [if_pos (by omega)]
    rw [e] at k ⊢
    have : T = S := sus_one k.2 k.1 h
    rw [this, e]

/-- A point of a row. -/
def ixP (l : List Pn) (i : Nat) : Pn := l[i]?.getD (0, 0)
theorem ixP_left {l m : List Pn} {i : Nat} (h : i < l.length) : ixP (l ++ m) i = ixP l i := by unfold ixP; rw [List.getElem?_append_left h]
theorem ixP_right {l m : List Pn} (i : Nat) : ixP (l ++ m) (l.length + i) = ixP m i := by unfold ixP; rw [List.getElem?_append_right (by omega), show l.length + i - l.length = i by omega]
theorem ixP_rev {l : List Pn} {i : Nat} (h : i < l.length) : ixP l.reverse i = ixP l (l.length - 1 - i) := by unfold ixP; rw [List.getElem?_reverse h]
theorem EdR_at {Q : Pn → Prop} : ∀ {ks : List Pn}, EdR Q ks → ∀ i, i + 1 < ks.length → ∀ q, Q q → 0 ≤ tn (ixP ks (i + 1)) (ixP ks i) q
  | [], _, i, hi, _, _ => by simp at hi
  | [_], _, i, hi, _, _ => by simp at hi
  | b :: a :: r, e, 0, _, q, hq => e.1 q hq
  | b :: a :: r, e, i + 1, hi, q, hq => EdR_at e.2 i (by simpa using hi) q hq
theorem TnR_at : ∀ {ks : List Pn}, TnR ks → ∀ i, i + 2 < ks.length → 0 < tn (ixP ks (i + 2)) (ixP ks (i + 1)) (ixP ks i)
  | [], _, i, hi => by simp at hi
  | [_], _, i, hi => by simp at hi
  | [_, _], _, i, hi => by simp only [List.length_cons, List.length_nil] at hi; omega
  | c :: b :: a :: r, t, 0, _ => t.1
  | c :: b :: a :: r, t, i + 1, hi => TnR_at t.2 i (by simpa using hi)
theorem EdR_app {Q : Pn → Prop} {b : Pn} {r : List Pn} : ∀ (xs : List Pn), EdR Q (xs ++ [b]) → EdR Q (b :: r) → EdR Q (xs ++ b :: r)
  | [], _, k => k
  | [_], e, k => ⟨e.1, k⟩
  | _ :: y :: xs, e, k => ⟨e.1, EdR_app (y :: xs) e.2 k⟩
theorem TnR_app {a b c : Pn} {r : List Pn} (j : 0 < tn a b c) : ∀ (xs : List Pn), TnR (xs ++ [c, b]) → TnR (b :: a :: r) → TnR (xs ++ c :: b :: a :: r)
  | [], _, k => ⟨j, k⟩
  | [_], e, k => ⟨e.1, ⟨j, k⟩⟩
  | [_, _], e, k => ⟨e.1, e.2.1, ⟨j, k⟩⟩
  | _ :: y :: z :: xs, e, k => ⟨e.1, TnR_app j (y :: z :: xs) e.2 k⟩
theorem two_last {l : List Pn} (h : 2 ≤ l.length) : ∃ xs c b, l = xs ++ [c, b] ∧ l.getLast? = some b := by
  obtain ⟨ys, b, rfl⟩ : ∃ ys b, l = ys ++ [b] := ⟨l.dropLast, l.getLast (fun e => by rw [e] at h; simp at h), (List.dropLast_concat_getLast _).symm⟩
  have h1 : 1 ≤ ys.length := by simpa using h
  obtain ⟨xs, c, rfl⟩ : ∃ xs c, ys = xs ++ [c] := ⟨ys.dropLast, ys.getLast (fun e => by rw [e] at h1; simp at h1), (List.dropLast_concat_getLast _).symm⟩
  exact ⟨xs, c, b, by simp, by simp⟩
theorem EdR_end {Q : Pn → Prop} {c b : Pn} : ∀ (xs : List Pn), EdR Q (xs ++ [c, b]) → ∀ q, Q q → 0 ≤ tn b c q
  | [], e => e.1
  | [_], e => e.2.1
  | _ :: y :: xs, e => EdR_end (y :: xs) e.2
theorem Dn_end {M N : Int} {c b : Pn} : ∀ (xs : List Pn), Dn M N (xs ++ [c, b]) → fw M N b < fw M N c
  | [], e => e.1
  | [_], e => e.2.1
  | _ :: y :: xs, e => Dn_end (y :: xs) e.2
/-- Where both halves meet, the hull turns left, if it has more than two corners. -/
theorem junction {M N : Int} {S : List Pn} {a b c : Pn} {r xs : List Pn} (cs : Ch M N (fun q => q ∈ S) (b :: a :: r)) (ct : Ch (-M) (-N) (fun q => q ∈ S.reverse) (xs ++ [c, b])) (h : ¬(r = [] ∧ xs = [])) : 0 < tn a b c := by
  have ic : c ∈ S := List.mem_reverse.1 (ct.mem c (by simp))
  have k0 := cs.gd.ed.1 c ic
  apply Classical.byContradiction
  intro hn
  have e0 : tn a b c = 0 := by omega
  have d1 : fw M N a < fw M N b := cs.gd.dn.1
  have d2 : fw M N c < fw M N b := by have := Dn_end xs ct.gd.dn; rw [fw_neg, fw_neg] at this; omega
  have all : ∀ q ∈ S, tn a b q = 0 := fun q hq => by
    have k1 := cs.gd.ed.1 q hq
    have k2 := EdR_end xs ct.gd.ed q (List.mem_reverse.2 hq)
    have e := id5 M N a b c q
    rw [e0, Int.mul_zero, Int.sub_zero] at e
    have m : 0 ≤ (fw M N b - fw M N a) * tn b c q := Int.mul_nonneg (by omega) k2
    apply Classical.byContradiction
    intro hq0
    have m2 : 0 < (fw M N b - fw M N c) * tn a b q := Int.mul_pos (by omega) (by omega)
    have e3 : (fw M N c - fw M N b) * tn a b q = - ((fw M N b - fw M N c) * tn a b q) := by rw [← Int.neg_mul]; congr 1; omega
    omega
  have flat : ∀ p ∈ S, ∀ q ∈ S, ∀ z ∈ S, tn p q z = 0 := fun p hp q hq z hz => by
    have e := id6 M N a b p q z
    rw [all p hp, all q hq, all z hz] at e
    simp only [Int.mul_zero, Int.add_zero] at e
    rcases Int.mul_eq_zero.1 e with k | k
    · omega
    · exact k
  apply h
  constructor
  · cases r with
    | nil => rfl
    | cons a2 r =>
      have := cs.gd.tn.1
      rw [flat a2 (cs.mem _ (by simp)) a (cs.mem _ (by simp)) b (cs.mem _ (by simp))] at this
      omega
  · cases xs with
    | nil => rfl
    | cons x xs =>
      have ms : ∀ q ∈ (x :: xs ++ [c, b]), q ∈ S := fun q hq => List.mem_reverse.1 (ct.mem q hq)
      have t := TnR_at ct.gd.tn 0 (by simp)
      have g : ∀ i, i < 3 → ixP (x :: xs ++ [c, b]) i ∈ S := fun i hi => by
        have hl : i < (x :: xs ++ [c, b]).length := by simp; omega
        unfold ixP
        rw [List.getElem?_eq_getElem hl]
        exact ms _ (List.getElem_mem _)
      rw [flat _ (g 2 (by omega)) _ (g 1 (by omega)) _ (g 0 (by omega))] at t
      omega

/-- The hull's walk, two points more at its end. -/
theorem hul_walk {S : List Pn} (hs : 2 ≤ S.length) (h : S.Pairwise ltP) (ok : ∀ q ∈ S, Bd q) : ∃ z y : Pn, ∃ m : List Pn, hul S = z :: y :: m ∧ EdR (fun q => q ∈ S) (hul S ++ [z, y]).reverse ∧ ((hul S).length ≠ 2 → TnR (hul S ++ [z, y]).reverse) ∧ (∀ q ∈ S, fw 20000001 1 z ≤ fw 20000001 1 q) ∧ ((hul S).length = 2 → ∀ q ∈ S, fw 20000001 1 q ≤ fw 20000001 1 y) := by
  have n1 : S ≠ [] := fun e => by rw [e] at hs; simp at hs
  have n2 : S.reverse ≠ [] := fun e => n1 (by simpa using e)
  have cs := chn_ch n1 (fw_inc h ok)
  have ct := chn_ch n2 (fw_dec h ok)
  obtain ⟨m1, m2⟩ := ends_meet hs h ok
  have l1 : 2 ≤ (chnR [] S).length := by obtain ⟨b, a, r, e⟩ := chnR_two hs; rw [e]; simp
  have l2 : 2 ≤ (chnR [] S.reverse).length := by obtain ⟨b, a, r, e⟩ := chnR_two (S := S.reverse) (by rw [List.length_reverse]; exact hs); rw [e]; simp
  rw [hul_eq hs]
  generalize chnR [] S = ks at *
  generalize chnR [] S.reverse = us at *
  obtain ⟨xs, y, z, rfl, g1⟩ := two_last l1
  obtain ⟨ys, c, b, rfl, g2⟩ := two_last l2
  -- the first point of each row is the last one of the other
  have hb : (xs ++ [y, z]).head? = some b := m1.trans g2
  have hz : (ys ++ [c, b]).head? = some z := m2.symm.trans g1
  obtain ⟨a, r, ek⟩ : ∃ a r, xs ++ [y, z] = b :: a :: r := by
    match xs, hb with
    | [], hb => simp at hb; exact ⟨z, [], by simp [hb]⟩
    | [x], hb => simp at hb; exact ⟨y, [z], by simp [hb]⟩
    | x :: x2 :: xs, hb => simp at hb; exact ⟨x2, xs ++ [y, z], by simp [hb]⟩
  obtain ⟨c', r', eu⟩ : ∃ a r, ys ++ [c, b] = z :: a :: r := by
    match ys, hz with
    | [], hz => simp at hz; exact ⟨b, [], by simp [hz]⟩
    | [x], hz => simp at hz; exact ⟨c, [b], by simp [hz]⟩
    | x :: x2 :: xs, hz => simp at hz; exact ⟨x2, xs ++ [c, b], by simp [hz]⟩
  have ct' : Ch (- -20000001) (- -1) (fun q => q ∈ S.reverse.reverse) (xs ++ [y, z]) := by simpa using cs
  -- the walk with its last point first
  have eW : ((xs ++ [y, z]).tail.reverse ++ (ys ++ [c, b]).tail.reverse ++ [z, y]).reverse = y :: (ys ++ c :: b :: a :: r) := by
    have e1 : (xs ++ [y, z]).tail = a :: r := by rw [ek]; rfl
    have e2 : z :: (ys ++ [c, b]).tail = ys ++ [c, b] := by rw [eu]; rfl
    rw [e1]
    simp only [List.reverse_append, List.reverse_reverse, List.reverse_cons, List.reverse_nil, List.nil_append, List.cons_append, List.append_assoc]
    rw [← List.cons_append, e2]
    simp
  have E1 : EdR (fun q => q ∈ S) (ys ++ c :: b :: a :: r) := by
    have k1 : EdR (fun q => q ∈ S) (ys ++ [c] ++ [b]) := by
      have := ct.gd.ed.mono (fun q (hq : q ∈ S) => List.mem_reverse.2 hq)
      simpa using this
    have k2 : EdR (fun q => q ∈ S) (b :: a :: r) := by rw [← ek]; exact cs.gd.ed
    have := EdR_app (ys ++ [c]) k1 k2
    simpa using this
  have hq : ∃ m, ys ++ c :: b :: a :: r = z :: m ∧ True := by
    have : ys ++ c :: b :: a :: r = (ys ++ [c, b]) ++ (a :: r) := by simp
    rw [this, eu]
    exact ⟨_, rfl, trivial⟩
  obtain ⟨mm, em, _⟩ := hq
  -- its first two points
  have eH : ∃ m, (xs ++ [y, z]).tail.reverse ++ (ys ++ [c, b]).tail.reverse = z :: y :: m := by
    match xs, ek with
    | [], ek =>
      simp at ek
      obtain ⟨rfl, rfl, rfl⟩ := ek
      refine ⟨(ys ++ [c]).tail.reverse, ?_⟩
      match ys, eu with
      | [], eu => simp at eu ⊢
      | w :: ws, eu => simp
    | x :: xs, ek => exact ⟨xs.reverse ++ (ys ++ [c, b]).tail.reverse, by simp⟩
  obtain ⟨m, eH⟩ := eH
  refine ⟨z, y, m, eH, ?_, fun hn => ?_, fun q hq => cs.low z g1 q hq, fun hn q hq => ?_⟩
  · rw [eW, em]
    refine ⟨fun q hq => ?_, by rw [← em]; exact E1⟩
    exact EdR_end xs cs.gd.ed q hq
  · have big : ¬(r = [] ∧ ys = []) := fun ⟨e1, e2⟩ => hn (by
      have k1 : (xs ++ [y, z]).tail = a :: r := by rw [ek]; rfl
      rw [k1, e1, e2]
      simp)
    have big' : ¬(r' = [] ∧ xs = []) := fun ⟨e1, e2⟩ => hn (by
      have k1 : (ys ++ [c, b]).tail = c' :: r' := by rw [eu]; rfl
      rw [k1, e1, e2]
      simp)
    have j1 : 0 < tn a b c := junction (M := 20000001) (N := 1) (S := S) (by rw [← ek]; exact cs) ct big
    have j2 : 0 < tn c' z y := junction (M := -20000001) (N := -1) (S := S.reverse) (by rw [← eu]; exact ct) ct' big'
    have T1 : TnR (ys ++ c :: b :: a :: r) := TnR_app j1 ys ct.gd.tn (by rw [← ek]; exact cs.gd.tn)
    have e3 : ys ++ c :: b :: a :: r = z :: c' :: (r' ++ (a :: r)) := by
      have : ys ++ c :: b :: a :: r = (ys ++ [c, b]) ++ (a :: r) := by simp
      rw [this, eu]
      rfl
    rw [eW, e3]
    rw [e3] at T1
    exact ⟨j2, T1⟩
  · have k1 : (xs ++ [y, z]).tail = a :: r := by rw [ek]; rfl
    have k2 : (ys ++ [c, b]).tail = c' :: r' := by rw [eu]; rfl
    rw [k1, k2] at hn
    simp at hn
    have er : r = [] := List.eq_nil_of_length_eq_zero (by omega)
    subst er
    have ex : xs = [] := by
      have := congrArg List.length ek
      rw [List.length_append] at this
      simp only [List.length_cons, List.length_nil] at this
      exact List.eq_nil_of_length_eq_zero (by omega)
    subst ex
    simp at ek
    rw [ek.1]
    exact cs.top b (by simp [ek.1]) q hq
theorem hul_ix {H : List Pn} {z y : Pn} {m : List Pn} (e : H = z :: y :: m) {j : Nat} (hj : j ≤ H.length + 1) : ixP (H ++ [z, y]) j = ixP H (j % H.length) := by
  have hn : 2 ≤ H.length := by rw [e]; simp
  by_cases h1 : j < H.length
  · rw [ixP_left h1, Nat.mod_eq_of_lt h1]
  · by_cases h2 : j = H.length
    · rw [h2, Nat.mod_self, show H.length = H.length + 0 from rfl, ixP_right 0, e]
      rfl
    · have h3 : j = H.length + 1 := by omega
      rw [h3, ixP_right 1, Nat.add_mod_left, Nat.mod_eq_of_lt (by omega), e]
      rfl
/-- What a hull is: all points lie to the left of its ways. -/
theorem hul_left {S : List Pn} (hs : 2 ≤ S.length) (h : S.Pairwise ltP) (ok : ∀ q ∈ S, Bd q) {i : Nat} (hi : i < (hul S).length) {q : Pn} (hq : q ∈ S) : 0 ≤ tn (ixP (hul S) i) (ixP (hul S) ((i + 1) % (hul S).length)) q := by
  obtain ⟨z, y, m, e, E, _, _⟩ := hul_walk hs h ok
  have l : (hul S ++ [z, y]).length = (hul S).length + 2 := by simp
  have k := EdR_at E ((hul S).length - i) (by rw [List.length_reverse, l]; omega) q hq
  rw [ixP_rev (by rw [l]; omega), ixP_rev (by rw [l]; omega), l, hul_ix e (by omega), hul_ix e (by omega)] at k
  rw [show (hul S).length + 2 - 1 - ((hul S).length - i + 1) = i by omega, show (hul S).length + 2 - 1 - ((hul S).length - i) = i + 1 by omega, Nat.mod_eq_of_lt hi] at k
  exact k
/-- .. and it turns left at each corner. -/
theorem hul_turns {S : List Pn} (hs : 2 ≤ S.length) (h : S.Pairwise ltP) (ok : ∀ q ∈ S, Bd q) (hn : 2 < (hul S).length) {i : Nat} (hi : i < (hul S).length) : 0 < tn (ixP (hul S) i) (ixP (hul S) ((i + 1) % (hul S).length)) (ixP (hul S) ((i + 2) % (hul S).length)) := by
  obtain ⟨z, y, m, e, _, T, _⟩ := hul_walk hs h ok
  have l : (hul S ++ [z, y]).length = (hul S).length + 2 := by simp
  have k := TnR_at (T (by omega)) ((hul S).length - 1 - i) (by rw [List.length_reverse, l]; omega)
  rw [ixP_rev (by rw [l]; omega), ixP_rev (by rw [l]; omega), ixP_rev (by rw [l]; omega), l, hul_ix e (by omega), hul_ix e (by omega), hul_ix e (by omega)] at k
  rw [show (hul S).length + 2 - 1 - ((hul S).length - 1 - i + 2) = i by omega, show (hul S).length + 2 - 1 - ((hul S).length - 1 - i + 1) = i + 1 by omega, show (hul S).length + 2 - 1 - ((hul S).length - 1 - i) = i + 2 by omega, Nat.mod_eq_of_lt hi] at k
  exact k
theorem btw_of {a b c d n m : Int} (e : n * c = m * d) (h0 : 0 ≤ d) (h1 : d ≤ n) (hn : 0 < n) (ha : c = a) (hb : m = b) : (0 ≤ a ∧ a ≤ b) ∨ (b ≤ a ∧ a ≤ 0) := by
  subst ha hb
  by_cases hm : 0 ≤ m
  · left
    have k : 0 ≤ n * c := by rw [e]; exact Int.mul_nonneg hm h0
    refine ⟨pos_mul hn k, ?_⟩
    have k2 : m * d ≤ m * n := Int.mul_le_mul_of_nonneg_left h1 hm
    have k3 : 0 ≤ n * (m - c) := by rw [Int.mul_sub, e, Int.mul_comm n m]; omega
    have := pos_mul hn k3
    omega
  · right
    have k : 0 ≤ n * (-c) := by rw [Int.mul_neg, e, ← Int.neg_mul]; exact Int.mul_nonneg (by omega) h0
    have k1 := pos_mul hn k
    have k2 : (-m) * d ≤ (-m) * n := Int.mul_le_mul_of_nonneg_left h1 (by omega)
    rw [Int.neg_mul, Int.neg_mul] at k2
    have k3 : 0 ≤ n * (c - m) := by rw [Int.mul_sub, e, Int.mul_comm n m]; omega
    have := pos_mul hn k3
    omega
/-- .. with two corners alone all points lie between them. -/
theorem hul_line {S : List Pn} (hs : 2 ≤ S.length) (h : S.Pairwise ltP) (ok : ∀ q ∈ S, Bd q) (hn : (hul S).length = 2) {q : Pn} (hq : q ∈ S) : onB (ixP (hul S) 0).1 (ixP (hul S) 0).2 (ixP (hul S) 1).1 (ixP (hul S) 1).2 q.1 q.2 = true := by
  have k0 := hul_left hs h ok (i := 0) (by omega) hq
  have k1 := hul_left hs h ok (i := 1) (by omega) hq
  have sub := hul_sub h ok
  obtain ⟨z, y, m, e, _, _, lo, hi⟩ := hul_walk hs h ok
  have lo := lo q hq
  have hi := hi hn q hq
  rw [hn] at k0 k1
  have e0 : ixP (hul S) 0 = z := by rw [e]; rfl
  have e1 : ixP (hul S) 1 = y := by rw [e]; rfl
  rw [show (0 + 1) % 2 = 1 from rfl, e0, e1] at k0
  rw [show (1 + 1) % 2 = 0 from rfl, e0, e1] at k1
  rw [e0, e1]
  have bz := ok z (sub z (by rw [e]; simp))
  have by' := ok y (sub y (by rw [e]; simp))
  have bq := ok q hq
  obtain ⟨z1, z2⟩ := z
  obtain ⟨y1, y2⟩ := y
  obtain ⟨q1, q2⟩ := q
  unfold Bd at bz by' bq
  unfold fw at lo hi
  dsimp only at *
  have a0 : ar z1 z2 y1 y2 q1 q2 = 0 := by
    have : tn (y1, y2) (z1, z2) (q1, q2) = - tn (z1, z2) (y1, y2) (q1, q2) := by unfold tn ar; grind
    unfold tn at this k0 k1
    dsimp only at *
    omega
  unfold onB
  rw [decide_eq_true a0, Bool.true_and, Bool.and_eq_true, btw_iff, btw_iff]
  have x1 : z1 ≤ q1 := by omega
  have x2 : q1 ≤ y1 := by omega
  refine ⟨.inl ⟨x1, x2⟩, ?_⟩
  by_cases hx : z1 = y1
  · left; omega
  · have e : (y1 - z1) * (q2 - z2) = (y2 - z2) * (q1 - z1) := by unfold ar at a0; omega
    rcases btw_of e (by omega) (by omega) (by omega) rfl rfl with ⟨k1, k2⟩ | ⟨k1, k2⟩
    · left; omega
    · right; omega
end Go.Proofs.Ytbdpnfdpnaoicaa
