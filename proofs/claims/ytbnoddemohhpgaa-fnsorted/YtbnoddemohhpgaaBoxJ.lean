/- A box that grows in place. -/
import Derived.Test.YtbnoddemohhpgaaBoxO
import Derived.BigRegion
namespace Go.Proofs.Ytbnoddemohhpgaa
open Go.RowKit

theorem grownBy_draw {w w' : World} {row : Option Nat} (h : w.grownBy w' row) : w.grownBy w'.drew row := grownBy_drewN h 1
theorem Box4.drew {lo p : Nat} {w : World} {x0 x1 x2 x3 : Value} (h : Box4 lo w p x0 x1 x2 x3) : Box4 lo w.drew p x0 x1 x2 x3 := ⟨h.c0, h.c1, h.c2, h.c3, h.fr, h.lo⟩
theorem Box4.as {lo p : Nat} {w : World} {a b c d a' b' c' d' : Int} (h : Box4 lo w p (.int .i64 a) (.int .i64 b) (.int .i64 c) (.int .i64 d)) (e1 : a = a') (e2 : b = b') (e3 : c = c') (e4 : d = d') :
    Box4 lo w p (.int .i64 a') (.int .i64 b') (.int .i64 c') (.int .i64 d') := by subst e1 e2 e3 e4; exact h

end Go.Proofs.Ytbnoddemohhpgaa
