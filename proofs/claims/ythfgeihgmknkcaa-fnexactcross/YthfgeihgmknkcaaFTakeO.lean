/- What a fraction that is owned is taken as: impl.Frac's taken, spec.l2Most. -/
import Derived.Test.YthfgeihgmknkcaaFTake
import Derived.Test.YthfgeihgmknkcaaLow
namespace Go.Proofs.Ythfgeihgmknkcaa
open Go.RowKit

theorem IsFrac.right {base : Nat} {w : World} {g h : Bool} {a b : Option Addr} {c d : Nat} {xs ys : List Int} (hx : Own base w a c xs) (hy : Own base w b d ys) (ap : Apart a xs b ys) (e : fOk g xs h ys = true) :
    IsFrac base w (.agg #[.bool g, .slice a xs.length c, .bool h, .slice b ys.length d]) (fN g xs h ys) (fD g xs h ys) := by
  obtain ⟨o1, o2⟩ := fOk_parts e
  obtain ⟨p1, p2, p3, p4⟩ := ok_parts hx.lim o1
  obtain ⟨q1, q2, q3, q4⟩ := ok_parts hy.lim o2
  have en : fN g xs h ys = tk g xs := by unfold fN; rw [if_pos e]
  have ed : fD g xs h ys = tk h ys := by unfold fD; rw [if_pos e]
  rw [en, ed]
  exact ⟨a, c, xs, b, d, ys, by rw [p1, q1], hx, hy, p3, q3, p2, q2, ap⟩
theorem IsFrac.wrong {base : Nat} {w : World} {g h : Bool} {xs ys : List Int} {b : Option Addr} {e : Nat} {ds : List Int} (ho : Own base w b e ds) (hn : Nrm ds) (hv : val ds = 1) (ne : fOk g xs h ys = false) :
    IsFrac base w (.agg #[.bool false, .slice none 0 0, .bool false, .slice b ds.length e]) (fN g xs h ys) (fD g xs h ys) := by
  have en : fN g xs h ys = 0 := by unfold fN; rw [ne]; simp
  have ed : fD g xs h ys = 1 := by unfold fD; rw [ne]; simp
  rw [en, ed]
  exact ⟨none, 0, [], b, e, ds, rfl, Own.nil _ _, ho, trivial, hn, rfl, hv, fun _ _ _ hh => absurd rfl hh⟩

end Go.Proofs.Ythfgeihgmknkcaa
