/- The specification's ReadSector. -/
import Derived.Test.YtonbmeepfgejmaaGreatDoorDkU
namespace Go.Proofs.YtonbmeepfgejmaaGreatDoor
open Go.RowKit

def RsOk (bs : List Int) (qs : List Wr) (at' : Int) : Prop := DkOk bs qs ∧ 0 ≤ at' ∧ at' < ((bs.length / 64 : Nat) : Int)
/-- The sector, when the first j writes are done. -/
def rsN (bs : List Int) (qs : List Wr) (t : Nat) : Nat → List Int
  | 0 => (bs.drop (t * 64)).take 64
  | j + 1 => if (wrN qs j).1 = (t : Int) then (wrN qs j).2 else rsN bs qs t j
/-- What ReadSector answers. -/
def RsRes (bs : List Int) (qs : List Wr) (at' : Int) (res : List Int) (r : Bool) : Prop := (RsOk bs qs at' ∧ res = rsN bs qs at'.toNat qs.length ∧ r = true) ∨ (¬RsOk bs qs at' ∧ res = [] ∧ r = false)
theorem RsRes.one {bs : List Int} {qs : List Wr} {at' : Int} {q1 q2 : List Int} {r1 r2 : Bool} (h : RsRes bs qs at' q1 r1) (k : RsRes bs qs at' q2 r2) : q1 = q2 ∧ r1 = r2 := by
  rcases h with ⟨a, b, c⟩ | ⟨a, b, c⟩
  · rcases k with ⟨a', b', c'⟩ | ⟨a', b', c'⟩
    · exact ⟨b.trans b'.symm, c.trans c'.symm⟩
    · exact absurd a a'
  · rcases k with ⟨a', b', c'⟩ | ⟨a', b', c'⟩
    · exact absurd a' a
    · exact ⟨b.trans b'.symm, c.trans c'.symm⟩

end Go.Proofs.YtonbmeepfgejmaaGreatDoor
