/- What a fraction is taken as: impl.nought, impl.Frac's taken, spec.l2Right. -/
import Derived.Test.YtnefdfgonolafaaFracW
import Derived.Test.YtnefdfgonolafaaOfW
import Derived.Test.YtnefdfgonolafaaBounds
namespace Go.Proofs.Ytnefdfgonolafaa
open Go.RowKit

/-- The value is a fraction whose parts are n and d. -/
def SeesFr (w : World) (v : Value) (n d : Int) : Prop :=
  ∃ a c ns b e ds, v = .agg #[.bool (decide (n < 0)), .slice a ns.length c, .bool (decide (d < 0)), .slice b ds.length e] ∧ Sees w a c ns ∧ Sees w b e ds ∧ Nrm ns ∧ Nrm ds ∧ val ns = mg n ∧ val ds = mg d ∧ ns.length ≤ 24 ∧ ds.length ≤ 24
theorem SeesFr.below {w w' : World} {v : Value} {n d : Int} (h : SeesFr w v n d) (hb : Below w.heap.size w w') : SeesFr w' v n d := by
  obtain ⟨a, c, ns, b, e, ds, e1, s1, s2, r⟩ := h
  exact ⟨a, c, ns, b, e, ds, e1, s1.below hb, s2.below hb, r⟩

/-- The parts that are taken. -/
def fN (g : Bool) (xs : List Int) (h : Bool) (ys : List Int) : Int := if fOk g xs h ys = true then tk g xs else 0
def fD (g : Bool) (xs : List Int) (h : Bool) (ys : List Int) : Int := if fOk g xs h ys = true then tk h ys else 1

theorem ok_parts {g : Bool} {xs : List Int} (hl : Lim xs) (h : okB g xs = true) : decide (tk g xs < 0) = g ∧ val xs = mg (tk g xs) ∧ Nrm xs ∧ xs.length ≤ 24 := by
  obtain ⟨tl, tn, t24, t0⟩ := tk_facts g xs hl
  have e1 : tkL g xs = xs := by unfold tkL; rw [if_pos h]
  have e2 : tkG g xs = g := by unfold tkG; rw [h]; simp
  rw [e1] at tn t24 t0
  rw [e2] at t0
  have ht : tk g xs = sg g (val xs) := by unfold tk; rw [e1, e2]
  rw [ht]
  refine ⟨?_, (mg_sg (val_nonneg hl)).symm, tn, t24⟩
  rw [sg_flag hl tn]
  by_cases h0 : xs = []
  · rw [t0 h0]; rfl
  · rw [decide_eq_true (List.length_pos_iff.2 h0), Bool.and_true]
theorem fOk_parts {g h : Bool} {xs ys : List Int} (e : fOk g xs h ys = true) : okB g xs = true ∧ okB h ys = true := by
  unfold fOk at e
  simp only [Bool.and_eq_true] at e
  exact e.1
theorem SeesFr.right {w : World} {g h : Bool} {a b : Option Addr} {c d : Nat} {xs ys : List Int} (hx : Sees w a c xs) (hy : Sees w b d ys) (e : fOk g xs h ys = true) :
    SeesFr w (.agg #[.bool g, .slice a xs.length c, .bool h, .slice b ys.length d]) (fN g xs h ys) (fD g xs h ys) := by
  obtain ⟨o1, o2⟩ := fOk_parts e
  obtain ⟨p1, p2, p3, p4⟩ := ok_parts hx.lim o1
  obtain ⟨q1, q2, q3, q4⟩ := ok_parts hy.lim o2
  have en : fN g xs h ys = tk g xs := by unfold fN; rw [if_pos e]
  have ed : fD g xs h ys = tk h ys := by unfold fD; rw [if_pos e]
  rw [en, ed]
  exact ⟨a, c, xs, b, d, ys, by rw [p1, q1], hx, hy, p3, q3, p2, q2, p4, q4⟩
theorem SeesFr.wrong {w : World} {g h : Bool} {xs ys : List Int} {b : Option Addr} {e : Nat} {ds : List Int} (ho : Sees w b e ds) (hn : Nrm ds) (hv : val ds = 1) (ne : fOk g xs h ys = false) :
    SeesFr w (.agg #[.bool false, .slice none 0 0, .bool false, .slice b ds.length e]) (fN g xs h ys) (fD g xs h ys) := by
  have en : fN g xs h ys = 0 := by unfold fN; rw [ne]; simp
  have ed : fD g xs h ys = 1 := by unfold fD; rw [ne]; simp
  rw [en, ed]
  refine ⟨none, 0, [], b, e, ds, rfl, (Own.nil 0 _).toSees, ho, trivial, hn, rfl, hv, by simp, ?_⟩
  exact Nat.le_trans (len_le ho.lim hn (k := 1) (by rw [hv]; decide)) (by decide)

end Go.Proofs.Ytnefdfgonolafaa
