/- The program's ReadSector. -/
import Derived.Test.YtfdfcgjdigpofaaDoorQueI
import Derived.Test.YtfdfcgjdigpofaaDoorDkRd
namespace Go.Proofs.YtfdfcgjdigpofaaDoor
open Go.RowKit

theorem rsN_found {bs : List Int} {qs : List Wr} {t i : Nat} (h : Fnd qs (t : Int) i) : ∀ j, i < j → j ≤ qs.length → rsN bs qs t j = (wrN qs i).2
  | 0, h0, _ => by omega
  | j + 1, h0, hj => by
    show (if (wrN qs j).1 = (t : Int) then (wrN qs j).2 else rsN bs qs t j) = _
    by_cases e : i = j
    · subst e
      rw [if_pos h.2.1]
    · rw [if_neg (h.2.2 j (by omega) (by omega))]
      exact rsN_found h j (by omega) (by omega)
theorem rsN_none {bs : List Int} {qs : List Wr} {t : Nat} (h : ∀ i, i < qs.length → (wrN qs i).1 ≠ (t : Int)) : ∀ j, j ≤ qs.length → rsN bs qs t j = secN bs t
  | 0, _ => rfl
  | j + 1, hj => by
    show (if (wrN qs j).1 = (t : Int) then (wrN qs j).2 else rsN bs qs t j) = _
    rw [if_neg (h j (by omega))]
    exact rsN_none h j (by omega)
theorem RowE.sec {w : World} {p base : Nat} {ds : List Int} (h : w.heap[p]? = some (.cells (secA ds) 49 (0, 0))) (hl : ds.length = 64) (hb : base ≤ p) : RowE 49 base w (.slice (some ⟨p, 0, none⟩) ds.length 64) ds := by
  refine ⟨by simp, .inr ⟨p, 64, secA ds, rfl, hb, h, by omega, by simp [maxLen], by rw [secA_size, hl], ?_⟩⟩
  rw [Nat.mul_one, List.take_of_length_le (by simp [secA])]
  simp [secA]
theorem RowE.none (t : TypeId) (base : Nat) (w : World) : RowE t base w (.slice none 0 0) [] := ⟨rfl, .inl ⟨rfl, rfl⟩⟩
theorem Fnd.nat {qs : List Wr} {t : Int} {i : Nat} (h : Fnd qs t i) {bs : List Int} (hk : DkOk bs qs) : 0 ≤ t ∧ t < ((bs.length / 64 : Nat) : Int) := by
  have := hk.2.2.2 i h.1
  rw [← h.2.1]
  exact ⟨this.1, this.2.1⟩
theorem QdRes.parts {b : Addr} {bs : List Int} {qs : List Wr} {t : Int} {e : Ending} (h : QdRes b qs t e) (hk : DkOk bs qs) : ∃ cs er, e = .returned (.tuple #[.agg cs, er]) ∧ cs.size = 64 ∧ cs.all (·.oneCell') = true ∧ ((RsOk bs qs t ∧ er = .nilIface ∧ cs = secA (rsN bs qs t.toNat qs.length) ∧ (rsN bs qs t.toNat qs.length).length = 64) ∨ ((∀ i, i < qs.length → (wrN qs i).1 ≠ t) ∧ er = noSec t b)) := by
  rcases h with ⟨i, hi, rfl⟩ | ⟨hi, rfl⟩
  · have hn := hi.nat hk
    have ht : t = ((t.toNat : Nat) : Int) := by omega
    have hl : (wrN qs i).2.length = 64 := (hk.2.2.2 i hi.1).2.2
    have e1 : rsN bs qs t.toNat qs.length = (wrN qs i).2 := rsN_found (by rw [← ht]; exact hi) qs.length hi.1 (Nat.le_refl _)
    exact ⟨_, _, rfl, by rw [secA_size, hl], secA_one _, .inl ⟨⟨hk, hn.1, hn.2⟩, rfl, by rw [e1], by rw [e1, hl]⟩⟩
  · exact ⟨_, _, rfl, rfl, nil64_one, .inr ⟨hi, rfl⟩⟩

set_option maxRecDepth 20000 in
set_option maxHeartbeats 4000000 in
theorem implReadSector {lo : Nat} (b0 : Addr) (ad : Addr) (a2 : Option Addr) (c c2 : Nat) (vs0 : List Value) (bs : List Int) (qs : List Wr) (t : Int) (w : World) (h : DkR lo w (.slice (some ad) bs.length c) (.slice a2 qs.length c2) vs0 bs qs) (hb0 : bs.length ≤ 2000000) (hs : uptoQ qs qs.length ≤ 2000000) (E : Er b0 w) :
    Calls Tryd.prog 11 #[.agg #[.slice (some ad) bs.length c, .slice a2 qs.length c2], .int .i64 t] w fun e w' => ∃ a' c' res r, e = .returned (.tuple #[.slice a' res.length c', .bool r]) ∧ RsRes bs qs t res r ∧ RowE 49 w.heap.size w' (.slice a' res.length c') res ∧ Below w.heap.size w w' := by
  have hn : qs.length ≤ 2000000 := by have := uptoQ_mono qs (Nat.zero_le qs.length); simp only [uptoQ] at this; omega
  have B := below1 w (.cells #[.slice (some ad) bs.length c, .slice a2 qs.length c2] 26)
  have V1 := Box2.new w (lo := w.heap.size) (Nat.le_refl _) (.slice (some ad) bs.length c) (.slice a2 qs.length c2) 26
  have HD : Hid (DkR lo w (.slice (some ad) bs.length c) (.slice a2 qs.length c2) vs0 bs qs) := h
  have HR : Hid (Er b0 w) := E
  have wp := E.pos
  clear h E hs
  go_enter Tryd.func11, Tryd.ntmps11
  go_upto_region 1 with fail
  generalize w.alloc (.cells #[.slice (some ad) bs.length c, .slice a2 qs.length c2] 26) = W0 at *
  obtain ⟨t0, t1, tf, _⟩ := id V1
  go_wp2_with fail
  refine (implDiskOk b0 (some ad) a2 c c2 vs0 bs qs _ (HD.out.below B) (HR.out.below B wp)).mono ?_
  rintro e w1 ⟨r, rfl, hr, hb⟩
  have HRr : Hid (r = true ↔ DkOk bs qs) := hr
  replace V1 := V1.below hb
  replace B := B.trans (hb.mono B.size)
  clear hb t0 t1 tf hr
  cases r with
  | false =>
    have HN : Hid (RsRes bs qs t [] false) := .inr ⟨(fun q => by have := HRr.out.2 q.1; cases this), rfl, rfl⟩
    clear V1
    go_wp2
    exact bodyPost_ret (v := .tuple #[.slice none 0 0, .bool false]) (by simp [results, Tryd.results11, go_sem]) rfl ⟨none, 0, [], false, rfl, HN.out, RowE.none _ _ _, B⟩
  | true =>
    have HOk : Hid (DkOk bs qs) := HRr.out.1 rfl
    clear HRr
    obtain ⟨t0, t1, tf, _⟩ := id V1
    go_wp2_with fail
    refine (queued_any b0 (some ad) a2 bs.length c c2 vs0 qs t _ (HD.out.que.below B) (fun i hi => (HOk.out.2.2.2 i hi).2.2) hn (HR.out.below B wp)).mono ?_
    rintro e w2 ⟨hq, hb⟩
    obtain ⟨cs, er, rfl, hsz, h1, hcase⟩ := hq.parts HOk.out
    have HC : Hid ((RsOk bs qs t ∧ er = .nilIface ∧ cs = secA (rsN bs qs t.toNat qs.length) ∧ (rsN bs qs t.toNat qs.length).length = 64) ∨ ((∀ i, i < qs.length → (wrN qs i).1 ≠ t) ∧ er = noSec t b0)) := hcase
    replace V1 := V1.below hb
    replace B := B.trans (hb.mono B.size)
    have bn := below1 w2 (.cells cs 49)
    have ga := heap_alloc_new w2 (.cells cs 49)
    have V2 := V1.below bn
    have sz0 : w.heap.size ≤ w2.heap.size := B.size
    have B2 := B.trans (bn.mono B.size)
    have E2 : Er b0 (w2.alloc (.cells cs 49)) := HR.out.below B2 wp
    unfold Er at E2
    clear hq hb hcase t0 t1 tf bn V1 B
    go_upto_region 4 with (refine wpList_store_row rfl 49 (.tmp 6) (.tmp 15) rfl w2.heap.size cs rfl rfl 49 _ (heap_alloc_new w2 _) (by rw [hsz]; exact infoSec) (by rw [hsz]; rfl) h1 ?_; rw [World.setRow_alloc_new])
    generalize hp : w2.heap.size = p at *
    generalize w2.alloc (.cells cs 49) = W2 at *
    rcases HC.out with ⟨q0, rfl, rfl, q3⟩ | ⟨q0, rfl⟩
    · have HN : Hid (RsRes bs qs t (rsN bs qs t.toNat qs.length) true) := .inl ⟨q0, rfl, rfl⟩
      have HL : Hid ((rsN bs qs t.toNat qs.length).length = 64) := q3
      have GA : Hid (W2.heap[p]? = some (.cells (secA (rsN bs qs t.toNat qs.length)) 49 (0, 0))) := ga
      clear HC q0 q3 ga hsz h1
      generalize rsN bs qs t.toNat qs.length = res at *
      go_wp2_with fail
      refine (is_nil b0 _).mono ?_
      rintro e w3 ⟨rfl, hb⟩
      have E3 : Er b0 w3 := HR.out.below (B2.trans (hb.mono B2.size)) wp
      unfold Er at E3
      replace B2 := B2.trans (hb.mono B2.size)
      have GA2 : Hid (w3.heap[p]? = some (.cells (secA res) 49 (0, 0))) := (hb.block p (Array.getElem?_eq_some_iff.1 GA.out).1).trans GA.out
      clear hb E2 V2 GA
      go_wp2_with fail
      refine (is_nil b0 _).mono ?_
      rintro e w4 ⟨rfl, hb⟩
      replace B2 := B2.trans (hb.mono B2.size)
      have GA3 : w4.heap[p]? = some (.cells (secA res) 49 (0, 0)) := (hb.block p (Array.getElem?_eq_some_iff.1 GA2.out).1).trans GA2.out
      have RW := RowE.sec (base := w.heap.size) GA3 HL.out sz0
      clear hb GA2 E3
      go_wp2
      exact bodyPost_ret (v := .tuple #[.slice (some ⟨p, 0, none⟩) 64 64, .bool true]) (by simp [results, Tryd.results11, go_sem]) rfl ⟨_, 64, res, true, by rw [HL.out], HN.out, RW, B2⟩
    · have HNF : Hid (∀ i, i < qs.length → (wrN qs i).1 ≠ t) := q0
      clear HC q0
      go_wp2_with fail
      refine (is_wrap t b0 _).mono ?_
      rintro e w3 ⟨rfl, hb⟩
      replace V2 := V2.below hb
      replace B2 := B2.trans (hb.mono B2.size)
      have GA2 : w3.heap[p]? = some (.cells cs 49 (0, 0)) := (hb.block p (Array.getElem?_eq_some_iff.1 ga).1).trans ga
      clear hb E2 ga
      obtain ⟨t0, t1, tf, _⟩ := id V2
      obtain ⟨k, hk⟩ : ∃ k, Hid (bs.length / 64 = k) := ⟨_, rfl⟩
      go_wp2_with fail
      refine (stored_any b0 (some ad) a2 c c2 qs.length k t bs _ (HD.out.row.below B2).seesB (HR.out.below B2 wp) hk hb0).mono ?_
      rintro e w4 ⟨hr, hb⟩
      obtain ⟨cs2, er, rfl, hsz2, h12, hcase⟩ := hr.parts hk.out
      have HC : Hid ((0 ≤ t ∧ t < (k : Int) ∧ er = .nilIface ∧ cs2 = secA (secN bs t.toNat)) ∨ (¬(0 ≤ t ∧ t < (k : Int)) ∧ er = noSec t b0)) := hcase
      replace B2 := B2.trans (hb.mono B2.size)
      have GA3 : w4.heap[p]? = some (.cells cs 49 (0, 0)) := (hb.block p (Array.getElem?_eq_some_iff.1 GA2).1).trans GA2
      have hold : cs.size = cs2.size := by rw [hsz, hsz2]
      clear hb hr hcase t0 t1 tf V2 GA2 hsz h1
      have GA4 := setRow_heap w4 p _ cs2 _ _ GA3
      have gq := grownBy_setRow w4 p cs2
      have B3 := B2.grown gq B2.size (fun k hk => by injection hk with hk; omega)
      have E3 : Er b0 (w4.setRow p cs2) := HR.out.below B3 wp
      unfold Er at E3
      clear gq
      go_upto_region 6 with (refine wpList_store_row rfl 49 (.tmp 6) (.tmp 24) rfl p cs2 rfl rfl 49 cs GA3 (by rw [hsz2]; exact infoSec) hold h12 ?_)
      generalize w4.setRow p cs2 = W5 at *
      clear GA3 B2
      rcases HC.out with ⟨q0, q1, rfl, rfl⟩ | ⟨q0, rfl⟩
      · have ht : t = ((t.toNat : Nat) : Int) := by omega
        have HN : Hid (RsRes bs qs t (secN bs t.toNat) true) := .inl ⟨⟨HOk.out, q0, by rw [hk.out]; exact q1⟩, (rsN_none (by rw [← ht]; exact HNF.out) qs.length (Nat.le_refl _)).symm, rfl⟩
        have HL : Hid ((secN bs t.toNat).length = 64) := secN_len hk.out q0 q1
        have GA5 : Hid (W5.heap[p]? = some (.cells (secA (secN bs t.toNat)) 49 (0, 0))) := GA4
        clear HC q0 q1 ht GA4 hsz2 h12 hold
        generalize secN bs t.toNat = res at *
        go_wp2_with fail
        refine (is_nil b0 _).mono ?_
        rintro e w6 ⟨rfl, hb⟩
        replace B3 := B3.trans (hb.mono B3.size)
        have GA6 : w6.heap[p]? = some (.cells (secA res) 49 (0, 0)) := (hb.block p (Array.getElem?_eq_some_iff.1 GA5.out).1).trans GA5.out
        have RW := RowE.sec (base := w.heap.size) GA6 HL.out sz0
        clear hb GA5 E3
        go_wp2
        exact bodyPost_ret (v := .tuple #[.slice (some ⟨p, 0, none⟩) 64 64, .bool true]) (by simp [results, Tryd.results11, go_sem]) rfl ⟨_, 64, res, true, by rw [HL.out], HN.out, RW, B3⟩
      · have HN : Hid (RsRes bs qs t [] false) := .inr ⟨fun q => q0 ⟨q.2.1, by rw [← hk.out]; exact q.2.2⟩, rfl, rfl⟩
        clear HC q0 GA4
        go_wp2_with fail
        refine (is_wrap t b0 _).mono ?_
        rintro e w6 ⟨rfl, hb⟩
        replace B3 := B3.trans (hb.mono B3.size)
        clear hb E3
        go_wp2
        exact bodyPost_ret (v := .tuple #[.slice none 0 0, .bool false]) (by simp [results, Tryd.results11, go_sem]) rfl ⟨none, 0, [], false, rfl, HN.out, RowE.none _ _ _, B3⟩
end Go.Proofs.YtfdfcgjdigpofaaDoor
