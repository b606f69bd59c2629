/- Whether the program's disk takes a write; whether it is good. -/
import Derived.Test.YtgcaemhcdpddiaaDoorStoI
namespace Go.Proofs.YtgcaemhcdpddiaaDoor
open Go.RowKit

theorem secA_one (ds : List Int) : (secA ds).all (·.oneCell') = true := by
  rw [Array.all_eq_true_iff_forall_mem]
  intro v hv
  exact ones8 ds v (by simpa [secA] using hv)
theorem secN_len {bs : List Int} {k : Nat} {t : Int} (hk : bs.length / 64 = k) (h0 : 0 ≤ t) (h1 : t < (k : Int)) : (secN bs t.toNat).length = 64 := by unfold secN; simp; omega
theorem StoRes.parts {b : Addr} {bs : List Int} {k : Nat} {t : Int} {e : Ending} (h : StoRes b bs k t e) (hk : bs.length / 64 = k) : ∃ cs er, e = .returned (.tuple #[.agg cs, er]) ∧ cs.size = 64 ∧ cs.all (·.oneCell') = true ∧ ((0 ≤ t ∧ t < (k : Int) ∧ er = .nilIface ∧ cs = secA (secN bs t.toNat)) ∨ (¬(0 ≤ t ∧ t < (k : Int)) ∧ er = noSec t b)) := by
  rcases h with ⟨h0, h1, rfl⟩ | ⟨h0, rfl⟩
  · exact ⟨_, _, rfl, by rw [secA_size, secN_len hk h0 h1], secA_one _, .inl ⟨h0, h1, rfl, rfl⟩⟩
  · exact ⟨_, _, rfl, rfl, nil64_one, .inr ⟨h0, rfl⟩⟩

set_option maxRecDepth 20000 in
set_option maxHeartbeats 4000000 in
theorem takes_any (b : Addr) (a a2 a3 : Option Addr) (c c2 n2 k c3 n3 : Nat) (t : Int) (bs : List Int) (w : World) (h : SeesB w a c bs) (E : Er b w) (hk : Hid (bs.length / 64 = k)) (hb0 : bs.length ≤ 2000000) :
    Calls Tryd.prog 42 #[.agg #[.slice a bs.length c, .slice a2 n2 c2], .agg #[.int .i64 t, .slice a3 n3 c3]] w fun e w' => ∃ r : Bool, e = .returned (.bool r) ∧ Hid (r = true ↔ 0 ≤ t ∧ t < (k : Int) ∧ n3 = 64) ∧ Below w.heap.size w w' := by
  have b1 := below1 w (.cells #[.slice a bs.length c, .slice a2 n2 c2] 34)
  have V1 := Box2.new w (lo := w.heap.size) (Nat.le_refl _) (.slice a bs.length c) (.slice a2 n2 c2) 34
  have b2 := below1 (w.alloc (.cells #[.slice a bs.length c, .slice a2 n2 c2] 34)) (.cells #[.int .i64 t, .slice a3 n3 c3] 67)
  have V2 := Box2.new (w.alloc (.cells #[.slice a bs.length c, .slice a2 n2 c2] 34)) (lo := w.heap.size) (by simp) (.int .i64 t) (.slice a3 n3 c3) 67
  rw [World.size_alloc] at V2
  have B := b1.trans (b2.mono b1.size)
  replace V1 := V1.below b2
  have HS : Hid (SeesB w a c bs) := h
  have HE : Hid (Er b w) := E
  have wp := E.pos
  clear b1 b2 h E
  go_enter Tryd.func42, Tryd.ntmps42
  go_upto_region 1 with fail
  generalize (w.alloc (.cells #[.slice a bs.length c, .slice a2 n2 c2] 34)).alloc (.cells #[.int .i64 t, .slice a3 n3 c3] 67) = W0 at *
  obtain ⟨t0, t1, tf, _⟩ := id V1
  obtain ⟨u0, u1, uf, _⟩ := id V2
  go_wp2_with fail
  refine (stored_any b a a2 c c2 n2 k t bs _ (HS.out.below B) (HE.out.below B wp) hk hb0).mono ?_
  rintro e w1 ⟨hr, hb⟩
  obtain ⟨cs, er, rfl, hsz, h1, hcase⟩ := hr.parts hk.out
  have HC : Hid ((0 ≤ t ∧ t < (k : Int) ∧ er = .nilIface ∧ cs = secA (secN bs t.toNat)) ∨ (¬(0 ≤ t ∧ t < (k : Int)) ∧ er = noSec t b)) := hcase
  replace V1 := V1.below hb
  replace V2 := V2.below hb
  replace B := B.trans (hb.mono B.size)
  have bn := below1 w1 (.cells cs 81)
  have V2' := V2.below bn
  have B' := B.trans (bn.mono B.size)
  have E2 : Er b (w1.alloc (.cells cs 81)) := HE.out.below B' wp
  unfold Er at E2
  clear hr hb hcase t0 t1 tf u0 u1 uf bn V1 V2 B
  obtain ⟨u0, u1, uf, _⟩ := id V2'
  go_upto_region 2 with (refine wpList_store_row rfl 81 (.tmp 5) (.tmp 12) rfl w1.heap.size cs rfl rfl 81 _ (heap_alloc_new w1 _) (by rw [hsz]; exact infoSec) (by rw [hsz]; rfl) h1 ?_; rw [World.setRow_alloc_new])
  generalize w1.alloc (.cells cs 81) = w2 at *
  rcases HC.out with ⟨q0, q1, rfl, -⟩ | ⟨q0, rfl⟩
  · have HF : Hid ((((n3 : Int) == 64) = true) ↔ 0 ≤ t ∧ t < (k : Int) ∧ n3 = 64) := by
      show _ ↔ _
      constructor
      · intro e
        have e2 : (n3 : Int) = 64 := by simpa using e
        exact ⟨q0, q1, by omega⟩
      · intro e
        rw [e.2.2]
        rfl
    clear HC
    go_wp2_with fail
    refine (is_nil b _).mono ?_
    rintro e w3 ⟨rfl, hb⟩
    replace V2' := V2'.below hb
    replace B' := B'.trans (hb.mono B'.size)
    clear hb u0 u1 uf
    obtain ⟨u0, u1, uf, _⟩ := id V2'
    go_wp2
    go_ret
    exact ⟨_, rfl, HF, B'⟩
  · have HQ : Hid (¬(0 ≤ t ∧ t < (k : Int))) := q0
    clear HC
    go_wp2_with fail
    refine (is_wrap t b _).mono ?_
    rintro e w3 ⟨rfl, hb⟩
    replace V2' := V2'.below hb
    replace B' := B'.trans (hb.mono B'.size)
    clear hb u0 u1 uf
    obtain ⟨u0, u1, uf, _⟩ := id V2'
    go_wp2
    go_ret
    exact ⟨false, rfl, show _ ↔ _ from ⟨fun e => (by cases e), fun e => absurd ⟨e.1, e.2.1⟩ HQ.out⟩, B'⟩

set_option maxRecDepth 20000 in
set_option maxHeartbeats 4000000 in
theorem implDiskOk {lo : Nat} (b0 : Addr) (a a2 : Option Addr) (c c2 : Nat) (vs : List Value) (bs : List Int) (qs : List Wr) (w : World) (h : DkR lo w (.slice a bs.length c) (.slice a2 qs.length c2) vs bs qs) (E : Er b0 w) :
    Calls Tryd.prog 34 #[.agg #[.slice a bs.length c, .slice a2 qs.length c2]] w fun e w' => ∃ r : Bool, e = .returned (.bool r) ∧ (r = true ↔ DkOk bs qs) ∧ Below w.heap.size w w' := by
  have B := below1 w (.cells #[.slice a bs.length c, .slice a2 qs.length c2] 34)
  have X := Box2.new w (lo := 0) (by omega) (.slice a bs.length c) (.slice a2 qs.length c2) 34
  obtain ⟨hf, hm⟩ := h.row.caps
  obtain ⟨-, hf2, hm2⟩ := h.que.caps
  unfold maxLen at hm hm2
  have HQ : Hid (QuR lo w (.slice a2 qs.length c2) vs qs) := h.que
  have HB : Hid (SeesB w a c bs) := h.row.seesB
  have HE : Hid (Er b0 w) := E
  have wp := E.pos
  clear h E
  obtain ⟨n, hn⟩ : ∃ n, Hid (bs.length = n) := ⟨_, rfl⟩
  obtain ⟨m, hnm⟩ : ∃ m, Hid (n / 64 = m) := ⟨_, rfl⟩
  have no1 : Hid (¬(n % 64 = 0 ∧ 1 ≤ m ∧ m ≤ 400) → ¬DkOk bs qs) := fun q d => q (by have := d.1; have := d.2.1; have := d.2.2.1; rw [hn.out] at *; rw [hnm.out] at *; exact ⟨by assumption, by assumption, by assumption⟩)
  have no2 : Hid (∀ i, i < qs.length → ¬WrOk m (wrN qs i) → ¬DkOk bs qs) := fun i hi q d => q (by have := d.2.2.2 i hi; rw [hn.out, hnm.out] at this; exact this)
  have yes : Hid (n % 64 = 0 → 1 ≤ m → m ≤ 400 → (∀ i, i < qs.length → WrOk m (wrN qs i)) → DkOk bs qs) := fun q1 q2 q3 q4 => by unfold DkOk; rw [hn.out, hnm.out]; exact ⟨q1, q2, q3, q4⟩
  rw [hn.out] at B X hf ⊢
  have hr : (n : Int).tmod 64 = ((n % 64 : Nat) : Int) := by rw [Int.tmod_eq_emod_of_nonneg (by omega)]; omega
  have hq : (n : Int).tdiv 64 = ((m : Nat) : Int) := by rw [Int.tdiv_eq_ediv_of_nonneg (by omega)]; have := hnm.out; omega
  have hmb : m ≤ 9223372036854775807 := by have := hnm.out; omega
  obtain ⟨x0, x1, xf, _⟩ := id X
  by_cases h0 : n = 0
  · have HN : Hid (¬DkOk bs qs) := no1.out (fun q => by have := hnm.out; omega)
    subst h0
    clear no1 no2 yes hr hq
    go_enter Tryd.func34, Tryd.ntmps34
    go_wp2
    go_ret
    exact ⟨false, rfl, ⟨(fun e => by cases e), fun d => absurd d HN.out⟩, B⟩
  · have h0' : ((n : Int) == 0) = false := by simp; omega
    by_cases h1 : n % 64 = 0
    · have hr2 : (n : Int).tmod 64 = 0 := by omega
      clear hr
      by_cases h2 : m ≤ 400
      · have h3 : 1 ≤ m := by have := hnm.out; omega
        go_enter Tryd.func34, Tryd.ntmps34
        go_wp2
        go_loopw [24] (fun i wr => ∃ j : Nat, j ≤ qs.length ∧ i = .int .i64 j ∧ Hid (∀ k, k < j → WrOk m (wrN qs k)) ∧ Box2 0 wr w.heap.size (.slice a n c) (.slice a2 qs.length c2) ∧ Below w.heap.size w wr) (fun i _ => qs.length - (intOf i).toNat)
        case atStart => exact ⟨0, Nat.zero_le _, rfl, (fun k hk => absurd hk (by omega)), X, B⟩
        case round =>
          clear X B x0 x1 xf
          obtain ⟨j, hj, rfl, hk, X, B⟩ := hrel
          rename World => wr
          obtain ⟨x0, x1, xf, _⟩ := id X
          by_cases hlt : j < qs.length
          · obtain ⟨g, cc, a', c', e, _, g1, g2, PB, _⟩ := (HQ.out.below B).at' hlt
            injection e with e1 e2 e3
            subst e1
            clear e2 e3
            obtain ⟨q, eq⟩ : ∃ q, Hid (wrN qs j = q) := ⟨_, rfl⟩
            rw [eq.out] at g1 g2 PB
            obtain ⟨x, ds⟩ := q
            dsimp only at g1 g2 PB
            obtain ⟨pf, pm⟩ := PB.caps
            unfold maxLen at pm
            obtain ⟨l, hl⟩ : ∃ l, Hid (ds.length = l) := ⟨_, rfl⟩
            rw [hl.out] at g2 pf
            have bad : Hid (¬(0 ≤ x ∧ x < (m : Int) ∧ l = 64) → ¬DkOk bs qs) := fun q => no2.out j hlt (by rw [eq.out]; intro d; exact q ⟨d.1, d.2.1, by rw [← hl.out]; exact d.2.2⟩)
            have good : Hid (0 ≤ x → x < (m : Int) → l = 64 → ∀ k, k < j + 1 → WrOk m (wrN qs k)) := fun q1 q2 q3 k hk' => by
              by_cases e : k = j
              · subst e; rw [eq.out]; exact ⟨q1, q2, hl.out.trans q3⟩
              · exact hk.out k (by omega)
            have bn := below1 wr (.cells #[.int .i64 x, .slice a' l c'] 67)
            have X2 := X.below bn
            have B2 := B.trans (bn.mono B.size)
            have V := Box2.new wr (lo := 0) (by omega) (.int .i64 x) (.slice a' l c') 67
            clear hk PB
            go_upto_region 7 with fail
            clear X B x0 x1 xf g1 g2 bn
            generalize wr.heap.size = p1 at *
            generalize wr.alloc (.cells #[.int .i64 x, .slice a' l c'] 67) = W1 at *
            obtain ⟨x0, x1, xf, _⟩ := id X2
            obtain ⟨v0, v1, vf, _⟩ := id V
            go_wp2_with fail
            have HB2 : SeesB W1 a c bs := HB.out.below B2
            have TK := takes_any b0 a (some ⟨g, 0, none⟩) a' c c2 qs.length m c' l x bs W1 HB2 (HE.out.below B2 wp) (by show _ = _; rw [hn.out]; exact hnm.out) (by rw [hn.out]; have := hnm.out; omega)
            rw [hn.out] at TK
            refine TK.mono ?_
            rintro e w3 ⟨r, rfl, hr3, hb⟩
            replace X2 := X2.below hb
            replace B2 := B2.trans (hb.mono B2.size)
            clear hb x0 x1 xf v0 v1 vf V HB2 TK
            cases r with
            | true =>
              have hg := hr3.out.1 rfl
              have HG : Hid (∀ k, k < j + 1 → WrOk m (wrN qs k)) := good.out hg.1 hg.2.1 hg.2.2
              clear good bad hr3 hg
              go_wp2_with fail
              go_roundw
              case rel => exact ⟨j + 1, by omega, by go_num, HG, X2, B2⟩
              case measure => simp [intOf]; omega
            | false =>
              have HN : Hid (¬DkOk bs qs) := bad.out (fun q => by have := hr3.out.2 q; cases this)
              clear good bad hr3
              go_wp2
              go_ret
              exact ⟨false, rfl, ⟨(fun e => by cases e), fun d => absurd d HN.out⟩, B2⟩
          · obtain rfl : j = qs.length := by omega
            have HY : Hid (DkOk bs qs) := yes.out h1 h3 h2 hk.out
            go_wp2
            go_ret
            exact ⟨true, rfl, ⟨(fun _ => HY.out), fun _ => rfl⟩, B⟩
      · have HN : Hid (¬DkOk bs qs) := no1.out (fun q => h2 q.2.2)
        clear no1 no2 yes
        go_enter Tryd.func34, Tryd.ntmps34
        go_wp2
        go_ret
        exact ⟨false, rfl, ⟨(fun e => by cases e), fun d => absurd d HN.out⟩, B⟩
    · have HN : Hid (¬DkOk bs qs) := no1.out (fun q => h1 q.1)
      have hne : ((n : Int).tmod 64 != 0) = true := by simp; omega
      clear no1 no2 yes hq
      go_enter Tryd.func34, Tryd.ntmps34
      go_wp2
      go_ret
      exact ⟨false, rfl, ⟨(fun e => by cases e), fun d => absurd d HN.out⟩, B⟩
end Go.Proofs.YtgcaemhcdpddiaaDoor
