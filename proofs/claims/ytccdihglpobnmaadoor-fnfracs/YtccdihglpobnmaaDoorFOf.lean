/- FracOf: the program's. -/
import Derived.Test.YtccdihglpobnmaaDoorLowN
import Derived.Test.YtccdihglpobnmaaDoorLows
namespace Go.Proofs.YtccdihglpobnmaaDoor
open Go.RowKit

/-- The parts of a fraction of two whole numbers. -/
def zN (n d : Int) : Int := if d = 0 then 0 else (if d < 0 then -n else n) / (Int.gcd n d : Int)
def zD (n d : Int) : Int := if d = 0 then 1 else mg d / (Int.gcd n d : Int)

theorem neg_quot (n d : Int) : n / -(Int.gcd n d : Int) = -n / (Int.gcd n d : Int) := by
  rw [Int.ediv_neg, Int.neg_ediv_of_dvd (Int.gcd_dvd_left _ _)]
theorem neg_quot2 (n d : Int) : -(mg d) / -(Int.gcd n d : Int) = mg d / (Int.gcd n d : Int) := by
  have hd : (Int.gcd n d : Int) ∣ mg d := by
    unfold mg
    split
    · exact Int.dvd_neg.2 (Int.gcd_dvd_right _ _)
    · exact Int.gcd_dvd_right _ _
  rw [Int.ediv_neg, Int.neg_ediv_of_dvd hd, Int.neg_neg]
theorem IsFrac.one {base : Nat} {w : World} {b : Option Addr} {c : Nat} {ds : List Int} (o : Own base w b c ds) (n : Nrm ds) (v : val ds = 1) : IsFrac base w (.agg #[.bool false, .slice none 0 0, .bool false, .slice b ds.length c]) 0 1 :=
  ⟨none, 0, [], b, c, ds, rfl, Own.nil _ _, o, trivial, n, rfl, v, fun _ _ _ hh => absurd rfl hh⟩
theorem int_len {z : Int} {us : List Int} (hl : Lim us) (hn : Nrm us) (hv : val us = mg z) (h1 : -9223372036854775808 ≤ z) (h2 : z ≤ 9223372036854775807) : us.length ≤ 2 := by
  refine len_le hl hn ?_
  rw [hv]
  unfold mg
  have : (4294967296 : Int) ^ 2 = 18446744073709551616 := by decide
  rw [this]
  split <;> omega

end Go.Proofs.YtccdihglpobnmaaDoor
