/- Ways through a drawn region that meet: facts on what is left, shared by all of them. -/
import Derived.Test.YteahbmadiideiabHeldQ
import Derived.Test.YteahbmadiideiabTree
namespace Go.Proofs.Yteahbmadiideiab
open Go.RowKit

/-- What is left of a region, behind a letter: so that facts on it can be laid ahead. -/
theorem capture {P : Program} {ops : Array Oper} {Q : Exit → Act → World → Prop} {md : Region.Mode} {S : World → Prop} {fuel : Nat} {listed : Array Bool} {a : Act} {w : World}
    (h : ∀ wp : Nat → Array Bool → Act → World → Prop, (∀ f l a w, wp f l a w = wpAnyH P md ops Q S f l a w) → wp fuel listed a w) : wpAnyH P md ops Q S fuel listed a w :=
  h (fun f l a w => wpAnyH P md ops Q S f l a w) (fun _ _ _ _ => rfl)
theorem met {wp : Nat → Array Bool → Act → World → Prop} {f : Nat} {l l' : Array Bool} {a : Act} {w : World} (h : wp f l' a w) (e : l = l') : wp f l a w := e ▸ h
end Go.Proofs.Yteahbmadiideiab
