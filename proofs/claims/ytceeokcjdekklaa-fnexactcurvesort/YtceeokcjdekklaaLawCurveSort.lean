/- The law on CurveSort: at every argument the program's CurveSort is the specification's; it writes into no argument and keeps nothing of one; its answer owns its memory. -/
import Derived.Test.YtceeokcjdekklaaCsZ
import Derived.Test.YtceeokcjdekklaaBxsM
namespace Go.Proofs.Ytceeokcjdekklaa
open Go.RowKit

set_option maxRecDepth 20000 in
set_option maxHeartbeats 2000000 in
theorem lawCurveSort (a : Option Addr) (cap : Nat) (bs : List Bx) (w : World) (h : SeesX w a cap bs) :
    Calls Try.prog 3 #[.slice a bs.length cap] w fun e w' => e = .returned (.bool true) ∧ Below w.heap.size w w' := by
  have hm := h.max
  have hf := h.fits
  unfold maxLen at hm
  by_cases hs : bs.length ≤ 1048576
  · have hM : bs.length ≤ maxLen := by unfold maxLen; omega
    go_enter Try.func3, Try.ntmps3
    go_wp2_with fail
    refine (szBoxs _ _ _ _ _ (by omega) (by omega)).mono ?_
    rintro e w0 ⟨rfl, rfl⟩
    rw [if_neg (by omega)]
    go_wp2_with fail
    refine (toBoxs _ _ _ _ h hs).mono ?_
    rintro e w1 ⟨rfl, X1, B⟩
    go_wp2_with fail
    refine (specCurveSort _ _ _ _ (X1.sees rfl hM)).mono ?_
    rintro e w2 ⟨v0, rfl, l, R0, OK, hb⟩
    have b1 := B.size
    replace B := B.trans (hb.mono B.size)
    clear hb X1
    obtain ⟨L, hL⟩ : ∃ L : List Int, Hid (l.map Int.ofNat = L) := ⟨_, rfl⟩
    have LM : L.length ≤ 500 := by rw [← hL.out, List.length_map]; exact OK.len
    have HO : Hid (∀ l', csOk bs l' → l'.map Int.ofNat = L) := fun l' h => by rw [← OK.one h]; exact hL.out
    rw [hL.out] at R0
    clear hL OK
    obtain ⟨a0, c0, rfl, _, _⟩ := R0.shape'
    have n0 : Hid (∀ q, (Value.slice a0 L.length c0).ownBlock = some q → q < w2.heap.size) := fun q e => (World.ownsRow.lt R0 q e).2
    go_wp2_with fail
    refine (toBoxs _ _ _ _ (h.below B) hs).mono ?_
    rintro e w3 ⟨rfl, X3, hb⟩
    have b2 := B.size
    replace B := B.trans (hb.mono B.size)
    replace R0 := R0.below hb
    have g3 := X3.lt
    clear hb
    generalize hg : w2.heap.size = g at *
    go_wp2_with fail
    refine (implCurveSort _ _ _ _ (X3.sees rfl hM)).mono ?_
    rintro e w4 ⟨v6, rfl, l', R6, OK', hb⟩
    rw [HO.out l' OK'] at R6
    replace B := B.trans (hb.mono B.size)
    replace R0 := R0.below hb
    replace X3 := X3.below hb
    clear hb OK'
    obtain ⟨a6, c6, rfl, _, _⟩ := R6.shape'
    have n6 : Hid (∀ q, (Value.slice a6 L.length c6).ownBlock = some q → g < q) := fun q e => by have := (World.ownsRow.lt R6 q e).1; omega
    go_wp2_with fail
    refine (eqI _ _ _ _ _ _ R6 R0).mono ?_
    rintro e w5 ⟨rfl, hb⟩
    replace B := B.trans (hb.mono B.size)
    replace R0 := R0.below hb
    replace R6 := R6.below hb
    replace X3 := X3.below hb
    clear hb
    go_wp2_with fail
    refine (toBoxs _ _ _ _ (h.below B) hs).mono ?_
    rintro e w6 ⟨rfl, X6, hb⟩
    replace B := B.trans (hb.mono B.size)
    replace R0 := R0.below hb
    replace R6 := R6.below hb
    replace X3 := X3.below hb
    clear hb
    go_wp2_with fail
    refine (eqBoxs _ _ _ _ _ _ (X3.sees rfl hM) (X6.sees rfl hM)).mono ?_
    rintro e w7 ⟨rfl, hb⟩
    replace B := B.trans (hb.mono B.size)
    replace R0 := R0.below hb
    replace R6 := R6.below hb
    replace X3 := X3.below hb
    clear hb X6
    go_wp2_with fail
    refine (markBoxs g bs.length bs _ X3 hs).mono ?_
    rintro e w8 ⟨rfl, G⟩
    have b8 := B.size
    replace B := B.grown G B.size (fun k e => by injection e with e; omega)
    replace R0 := R0.kept G (.inr fun e => by have := n0.out g e; omega)
    replace R6 := R6.kept G (.inr fun e => by have := n6.out g e; omega)
    clear G X3
    go_wp2_with fail
    refine (eqI _ _ _ _ _ _ R6 R0).mono ?_
    rintro e w9 ⟨rfl, hb⟩
    replace B := B.trans (hb.mono B.size)
    replace R0 := R0.below hb
    replace R6 := R6.below hb
    clear hb
    go_wp2_with fail
    refine (markI _ _ _ _ R6 (by omega)).mono ?_
    rintro e w10 ⟨rfl, M6, G⟩
    have b10 := B.size
    replace B := B.grown G B.size (fun k e => by have := n6.out k e; omega)
    replace R0 := R0.kept G (by
      cases e4 : (Value.slice a0 L.length c0).ownBlock with
      | none => exact .inl rfl
      | some q => exact .inr (fun e' => by have := n6.out q e'.symm; have := n0.out q e4; omega))
    clear G R6
    go_wp2_with fail
    refine (heldI _ _ _ _ M6 (by omega)).mono ?_
    rintro e w11 ⟨rfl, rfl⟩
    go_wp2_with fail
    refine (toBoxs _ _ _ _ (h.below B) hs).mono ?_
    rintro e w12 ⟨rfl, X12, hb⟩
    replace B := B.trans (hb.mono B.size)
    replace R0 := R0.below hb
    replace M6 := M6.below hb
    clear hb
    go_wp2_with fail
    refine (implCurveSort _ _ _ _ (X12.sees rfl hM)).mono ?_
    rintro e w13 ⟨v10, rfl, l', R10, OK', hb⟩
    rw [HO.out l' OK'] at R10
    replace B := B.trans (hb.mono B.size)
    replace R0 := R0.below hb
    replace M6 := M6.below hb
    clear hb OK' X12
    obtain ⟨a9, c9, rfl, _, _⟩ := R10.shape'
    go_wp2_with fail
    refine (eqI _ _ _ _ _ _ R10 R0).mono ?_
    rintro e w14 ⟨rfl, hb⟩
    replace B := B.trans (hb.mono B.size)
    replace M6 := M6.below hb
    clear hb R0 R10
    go_wp2_with fail
    refine (heldI _ _ _ _ M6 (by omega)).mono ?_
    rintro e w15 ⟨rfl, rfl⟩
    go_wp2
    go_ret
    exact ⟨rfl, B⟩
  · go_enter Try.func3, Try.ntmps3
    go_wp2_with fail
    refine (szBoxs _ _ _ _ _ (by omega) (by omega)).mono ?_
    rintro e w0 ⟨rfl, rfl⟩
    rw [if_pos (by omega)]
    go_wp2
    go_ret
    exact ⟨rfl, Below.refl _ _⟩
end Go.Proofs.Ytceeokcjdekklaa
