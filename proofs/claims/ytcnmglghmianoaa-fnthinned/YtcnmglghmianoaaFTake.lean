/- What a fraction is taken as: impl.nought, impl.Frac's taken, spec.l2Right. -/
import Derived.Test.YtcnmglghmianoaaCmp
import Derived.Test.YtcnmglghmianoaaOfW
import Derived.Test.YtcnmglghmianoaaEq
namespace Go.Proofs.Ytcnmglghmianoaa
open Go.RowKit

/-- The value is a fraction whose parts are n and d. -/
def SeesFr (w : World) (v : Value) (n d : Int) : Prop :=
  ∃ a c ns b e ds, v = .agg #[.bool (decide (n < 0)), .slice a ns.length c, .bool (decide (d < 0)), .slice b ds.length e] ∧ Sees w a c ns ∧ Sees w b e ds ∧ Nrm ns ∧ Nrm ds ∧ val ns = mg n ∧ val ds = mg d ∧ ns.length ≤ 24 ∧ ds.length ≤ 24
theorem SeesFr.below {w w' : World} {v : Value} {n d : Int} (h : SeesFr w v n d) (hb : Below w.heap.size w w') : SeesFr w' v n d := by
  obtain ⟨a, c, ns, b, e, ds, e1, s1, s2, r⟩ := h
  exact ⟨a, c, ns, b, e, ds, e1, s1.below hb, s2.below hb, r⟩

/-- The parts that are taken. -/
def fN (g : Bool) (xs : List Int) (h : Bool) (ys : List Int) : Int := if fOk g xs h ys = true then tk g xs else 0
def fD (g : Bool) (xs : List Int) (h : Bool) (ys : List Int) : Int := if fOk g xs h ys = true then tk h ys else 1

theorem ok_parts {g : Bool} {xs : List Int} (hl : Lim xs) (h : okB g xs = true) : decide (tk g xs < 0) = g ∧ val xs = mg (tk g xs) ∧ Nrm xs ∧ xs.length ≤ 24 := by
  obtain ⟨tl, tn, t24, t0⟩ := tk_facts g xs hl
  have e1 : tkL g xs = xs := by unfold tkL; rw [if_pos h]
  have e2 : tkG g xs = g := by unfold tkG; rw [h]; simp
  rw [e1] at tn t24 t0
  rw [e2] at t0
  have ht : tk g xs = sg g (val xs) := by unfold tk; rw [e1, e2]
  rw [ht]
  refine ⟨?_, (mg_sg (val_nonneg hl)).symm, tn, t24⟩
  rw [sg_flag hl tn]
  by_cases h0 : xs = []
  · rw [t0 h0]; rfl
  · rw [decide_eq_true (List.length_pos_iff.2 h0), Bool.and_true]
theorem fOk_parts {g h : Bool} {xs ys : List Int} (e : fOk g xs h ys = true) : okB g xs = true ∧ okB h ys = true := by
  unfold fOk at e
  simp only [Bool.and_eq_true] at e
  exact e.1
theorem SeesFr.right {w : World} {g h : Bool} {a b : Option Addr} {c d : Nat} {xs ys : List Int} (hx : Sees w a c xs) (hy : Sees w b d ys) (e : fOk g xs h ys = true) :
    SeesFr w (.agg #[.bool g, .slice a xs.length c, .bool h, .slice b ys.length d]) (fN g xs h ys) (fD g xs h ys) := by
  obtain ⟨o1, o2⟩ := fOk_parts e
  obtain ⟨p1, p2, p3, p4⟩ := ok_parts hx.lim o1
  obtain ⟨q1, q2, q3, q4⟩ := ok_parts hy.lim o2
  have en : fN g xs h ys = tk g xs := by unfold fN; rw [if_pos e]
  have ed : fD g xs h ys = tk h ys := by unfold fD; rw [if_pos e]
  rw [en, ed]
  exact ⟨a, c, xs, b, d, ys, by rw [p1, q1], hx, hy, p3, q3, p2, q2, p4, q4⟩
theorem SeesFr.wrong {w : World} {g h : Bool} {xs ys : List Int} {b : Option Addr} {e : Nat} {ds : List Int} (ho : Sees w b e ds) (hn : Nrm ds) (hv : val ds = 1) (ne : fOk g xs h ys = false) :
    SeesFr w (.agg #[.bool false, .slice none 0 0, .bool false, .slice b ds.length e]) (fN g xs h ys) (fD g xs h ys) := by
  have en : fN g xs h ys = 0 := by unfold fN; rw [ne]; simp
  have ed : fD g xs h ys = 1 := by unfold fD; rw [ne]; simp
  rw [en, ed]
  refine ⟨none, 0, [], b, e, ds, rfl, (Own.nil 0 _).toSees, ho, trivial, hn, rfl, hv, by simp, ?_⟩
  exact Nat.le_trans (len_le ho.lim hn (k := 1) (by rw [hv]; decide)) (by decide)

set_option maxHeartbeats 1000000 in
theorem noughtC (w : World) :
    Calls Try.prog 39 #[] w fun e w' => ∃ b c ds, e = .returned (.agg #[.bool false, .slice none 0 0, .bool false, .slice b ds.length c]) ∧ Own w.heap.size w' b c ds ∧ Nrm ds ∧ val ds = 1 ∧ Below w.heap.size w w' := by
  go_enter Try.func39, Try.ntmps39
  go_wp2_with fail
  refine (implOf 1 _ (by decide) (by decide)).mono ?_
  rintro e w1 ⟨v, rfl, hI, hb⟩
  obtain ⟨b, c, ds, rfl, ho, hn, hv⟩ := hI
  obtain ⟨q1, r1⟩ := at_block hb (b := w.heap.size) (by simp)
  have B1 := (below1 w (.cells #[.bool false, .slice none 0 0, .bool false, .slice none 0 0] 37)).trans (hb.mono (by simp))
  have hz : w.heap.size < w1.heap.size := by have := hb.size; simp at this; omega
  simp only [World.size_alloc] at ho
  clear hb
  go_wp2
  refine bodyPost_ret (v := .agg #[.bool false, .slice none 0 0, .bool false, .slice b ds.length c]) (by simp [results, Try.results39, go_sem, q1]) rfl ?_
  refine ⟨b, c, ds, rfl, ?_, hn, hv, ?_⟩
  · exact ((((ho.setCell (by dsimp only; omega) _).setCell (by dsimp only; omega) _).setCell (by dsimp only; omega) _).setCell (by dsimp only; omega) _).base_le (by omega)
  · exact (((B1.setCell (by dsimp only; omega) _).setCell (by dsimp only; omega) _).setCell (by dsimp only; omega) _).setCell (by dsimp only; omega) _

set_option maxHeartbeats 1000000 in
theorem implTakenF (g h : Bool) (a b : Option Addr) (c d : Nat) (xs ys : List Int) (w : World) (hx : Sees w a c xs) (hy : Sees w b d ys) :
    Calls Try.prog 27 #[.agg #[.bool g, .slice a xs.length c, .bool h, .slice b ys.length d]] w fun e w' => ∃ v, e = .returned v ∧ SeesFr w' v (fN g xs h ys) (fD g xs h ys) ∧ Below w.heap.size w w' := by
  have hb0 := below2 w (.cells #[.bool g, .slice a xs.length c, .bool h, .slice b ys.length d] 37) (.cells #[.bool false, .slice none 0 0, .bool false, .slice none 0 0] 37)
  by_cases h1 : fOk g xs h ys = true
  · have E : Hid (fOk g xs h ys = true) := h1
    go_enter Try.func27, Try.ntmps27
    go_wp2_with fail
    refine (implFracOk g h a b c d xs ys _ (hx.below hb0) (hy.below hb0)).mono ?_
    rintro e w1 ⟨rfl, hb⟩
    rw [h1]
    obtain ⟨q0, _⟩ := at_block hb (b := w.heap.size) (by simp; omega)
    obtain ⟨q1, r1⟩ := at_block hb (b := w.heap.size + 1) (by simp)
    have B1 := hb0.trans (hb.mono (by simp; omega))
    have hz : w.heap.size + 1 < w1.heap.size := by have := hb.size; simp at this; omega
    clear hb h1
    go_wp2
    have BF := (((B1.setCell (p := ⟨w.heap.size + 1, 0, none⟩) (by dsimp only; omega) (.bool g)).setCell (p := ⟨w.heap.size + 1, 1, none⟩) (by dsimp only; omega) (.slice a xs.length c)).setCell (p := ⟨w.heap.size + 1, 2, none⟩) (by dsimp only; omega) (.bool h)).setCell (p := ⟨w.heap.size + 1, 3, none⟩) (by dsimp only; omega) (.slice b ys.length d)
    refine bodyPost_ret (v := .agg #[.bool g, .slice a xs.length c, .bool h, .slice b ys.length d]) (by simp [results, Try.results27, go_sem, q1]) rfl ?_
    exact ⟨_, rfl, SeesFr.right (hx.below BF) (hy.below BF) E.out, BF⟩
  · have h1' : fOk g xs h ys = false := by simpa using h1
    have E : Hid (fOk g xs h ys = false) := h1'
    clear h1
    go_enter Try.func27, Try.ntmps27
    go_wp2_with fail
    refine (implFracOk g h a b c d xs ys _ (hx.below hb0) (hy.below hb0)).mono ?_
    rintro e w1 ⟨rfl, hb⟩
    rw [h1']
    obtain ⟨q1, r1⟩ := at_block hb (b := w.heap.size + 1) (by simp)
    have B1 := hb0.trans (hb.mono (by simp; omega))
    have hz : w.heap.size + 1 < w1.heap.size := by have := hb.size; simp at this; omega
    clear hb h1' hx hy
    go_wp2_with fail
    refine (noughtC _).mono ?_
    rintro e w2 ⟨b2, c2, ds, rfl, ho, hn, hv, hb⟩
    have q2 := fun o => (hb.cell (p := ⟨w.heap.size + 1, o, none⟩) hz).trans (q1 o)
    have r2 := fun o => (hb.frozen (p := ⟨w.heap.size + 1, o, none⟩) hz).trans (r1 o)
    have B2 := B1.trans (hb.mono B1.size)
    have HO : Hid (Nrm ds ∧ val ds = 1) := ⟨hn, hv⟩
    clear hb q1 r1 hn hv
    go_wp2
    have BF := (((B2.setCell (p := ⟨w.heap.size + 1, 0, none⟩) (by dsimp only; omega) (.bool false)).setCell (p := ⟨w.heap.size + 1, 1, none⟩) (by dsimp only; omega) (.slice none 0 0)).setCell (p := ⟨w.heap.size + 1, 2, none⟩) (by dsimp only; omega) (.bool false)).setCell (p := ⟨w.heap.size + 1, 3, none⟩) (by dsimp only; omega) (.slice b2 ds.length c2)
    have OF := (((ho.setCell (p := ⟨w.heap.size + 1, 0, none⟩) hz (.bool false)).setCell (p := ⟨w.heap.size + 1, 1, none⟩) hz (.slice none 0 0)).setCell (p := ⟨w.heap.size + 1, 2, none⟩) hz (.bool false)).setCell (p := ⟨w.heap.size + 1, 3, none⟩) hz (.slice b2 ds.length c2)
    refine bodyPost_ret (v := .agg #[.bool false, .slice none 0 0, .bool false, .slice b2 ds.length c2]) (by simp [results, Try.results27, go_sem, q2]) rfl ?_
    exact ⟨_, rfl, SeesFr.wrong OF.toSees HO.out.1 HO.out.2 E.out, BF⟩

set_option maxHeartbeats 1000000 in
theorem l2RightC (g h : Bool) (a b : Option Addr) (c d : Nat) (xs ys : List Int) (w : World) (hx : Sees w a c xs) (hy : Sees w b d ys) :
    Calls Try.prog 62 #[.agg #[.bool g, .slice a xs.length c, .bool h, .slice b ys.length d]] w fun e w' => ∃ v, e = .returned v ∧ SeesFr w' v (fN g xs h ys) (fD g xs h ys) ∧ Below w.heap.size w w' := by
  have hb0 := below2 w (.cells #[.bool g, .slice a xs.length c, .bool h, .slice b ys.length d] 37) (.cells #[.bool false, .slice none 0 0, .bool false, .slice none 0 0] 37)
  by_cases h1 : fOk g xs h ys = true
  · have E : Hid (fOk g xs h ys = true) := h1
    go_enter Try.func62, Try.ntmps62
    go_wp2_with fail
    refine (specFracOk g h a b c d xs ys _ (hx.below hb0) (hy.below hb0)).mono ?_
    rintro e w1 ⟨rfl, hb⟩
    rw [h1]
    obtain ⟨q0, _⟩ := at_block hb (b := w.heap.size) (by simp; omega)
    obtain ⟨q1, r1⟩ := at_block hb (b := w.heap.size + 1) (by simp)
    have B1 := hb0.trans (hb.mono (by simp; omega))
    have hz : w.heap.size + 1 < w1.heap.size := by have := hb.size; simp at this; omega
    clear hb h1
    go_wp2
    have BF := (((B1.setCell (p := ⟨w.heap.size + 1, 0, none⟩) (by dsimp only; omega) (.bool g)).setCell (p := ⟨w.heap.size + 1, 1, none⟩) (by dsimp only; omega) (.slice a xs.length c)).setCell (p := ⟨w.heap.size + 1, 2, none⟩) (by dsimp only; omega) (.bool h)).setCell (p := ⟨w.heap.size + 1, 3, none⟩) (by dsimp only; omega) (.slice b ys.length d)
    refine bodyPost_ret (v := .agg #[.bool g, .slice a xs.length c, .bool h, .slice b ys.length d]) (by simp [results, Try.results62, go_sem, q1]) rfl ?_
    exact ⟨_, rfl, SeesFr.right (hx.below BF) (hy.below BF) E.out, BF⟩
  · have h1' : fOk g xs h ys = false := by simpa using h1
    have E : Hid (fOk g xs h ys = false) := h1'
    clear h1
    go_enter Try.func62, Try.ntmps62
    go_wp2_with fail
    refine (specFracOk g h a b c d xs ys _ (hx.below hb0) (hy.below hb0)).mono ?_
    rintro e w1 ⟨rfl, hb⟩
    rw [h1']
    obtain ⟨q1, r1⟩ := at_block hb (b := w.heap.size + 1) (by simp)
    have B1 := hb0.trans (hb.mono (by simp; omega))
    have hz : w.heap.size + 1 < w1.heap.size := by have := hb.size; simp at this; omega
    clear hb h1' hx hy
    go_wp2_with fail
    refine (specOf 1 _ (by decide) (by decide)).mono ?_
    rintro e w2 ⟨v, rfl, hI, hb⟩
    obtain ⟨b2, c2, ds, rfl, ho, hn, hv⟩ := hI
    have q2 := fun o => (hb.cell (p := ⟨w.heap.size + 1, o, none⟩) hz).trans (q1 o)
    have r2 := fun o => (hb.frozen (p := ⟨w.heap.size + 1, o, none⟩) hz).trans (r1 o)
    have B2 := B1.trans (hb.mono B1.size)
    have HO : Hid (Nrm ds ∧ val ds = 1) := ⟨hn, hv⟩
    clear hb q1 r1 hn hv
    go_wp2
    have BF := (((B2.setCell (p := ⟨w.heap.size + 1, 0, none⟩) (by dsimp only; omega) (.bool false)).setCell (p := ⟨w.heap.size + 1, 1, none⟩) (by dsimp only; omega) (.slice none 0 0)).setCell (p := ⟨w.heap.size + 1, 2, none⟩) (by dsimp only; omega) (.bool false)).setCell (p := ⟨w.heap.size + 1, 3, none⟩) (by dsimp only; omega) (.slice b2 ds.length c2)
    have OF := (((ho.setCell (p := ⟨w.heap.size + 1, 0, none⟩) hz (.bool false)).setCell (p := ⟨w.heap.size + 1, 1, none⟩) hz (.slice none 0 0)).setCell (p := ⟨w.heap.size + 1, 2, none⟩) hz (.bool false)).setCell (p := ⟨w.heap.size + 1, 3, none⟩) hz (.slice b2 ds.length c2)
    refine bodyPost_ret (v := .agg #[.bool false, .slice none 0 0, .bool false, .slice b2 ds.length c2]) (by simp [results, Try.results62, go_sem, q2]) rfl ?_
    exact ⟨_, rfl, SeesFr.wrong OF.toSees HO.out.1 HO.out.2 E.out, BF⟩
end Go.Proofs.Ytcnmglghmianoaa
