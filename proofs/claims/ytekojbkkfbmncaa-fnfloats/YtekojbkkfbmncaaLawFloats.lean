/- The law FnFloats: a drawn whole number comes back of its bits; greater ones have greater bits. -/
import Derived.Test.YtekojbkkfbmncaaFltN
import Derived.Test.YtekojbkkfbmncaaDrawR
import Derived.Test.YtekojbkkfbmncaaBig
namespace Go.Proofs.Ytekojbkkfbmncaa
open Go.RowKit

def fltL (x : Int) : List Int := [9007199254740992, 9007199254740993, -9007199254740992, 4503599627370497, 9007199254740991, x]
theorem fltL_bounds {x : Int} (h0 : -9223372036854775808 ≤ x) (h1 : x ≤ 9223372036854775807) : ∀ z ∈ fltL x, -9223372036854775808 ≤ z ∧ z ≤ 9223372036854775807 := by
  intro z hz
  simp only [fltL, List.mem_cons, List.not_mem_nil, or_false] at hz
  omega

set_option maxRecDepth 20000 in
set_option maxHeartbeats 2000000 in
theorem drawFloatOf_any (a : Option Addr) (n cap : Nat) (w : World) (hB : Byt w a n) (hm : n ≤ 1048576) :
    Calls Try.prog 7 #[.slice a n cap] w fun e w' => ∃ x : Int, e = .returned (.int .i64 x) ∧ -9223372036854775808 ≤ x ∧ x ≤ 9223372036854775807 ∧ Below w.heap.size w w' := by
  go_enter Try.func7, Try.ntmps7
  go_wp2_with fail
  refine (l1New_any a n cap w hB hm).mono ?_
  rintro e w1 ⟨rfl, hc1, b1⟩
  go_wp2_with fail
  refine (l1Once_any w.heap.size a n cap 2 _ hc1).mono ?_
  rintro e w2 ⟨o, rfl, hc2, g2⟩
  replace b1 := b1.grown g2 b1.size (fun k hk => by injection hk with hk; omega)
  clear hc1 g2
  cases o
  · go_wp2_with fail
    refine (l1Below_any w.heap.size a n cap 16777216 _ hc2).mono ?_
    rintro e w3 ⟨x, rfl, x0, x1, hc3, g3⟩
    have x2 := x1 (by omega)
    replace b1 := b1.grown g3 b1.size (fun k hk => by injection hk with hk; omega)
    have hp : w.heap.size < w3.heap.size := hc3.lt
    have H1 : Cur (w3.alloc (.cells ((fltL (x - 8000000)).map (Value.int .i64)).toArray 3)) w.heap.size a n cap := hc3.below (below1 _ _)
    have HL : ∀ j (hj : j < (fltL (x - 8000000)).length), (w3.alloc (.cells ((fltL (x - 8000000)).map (Value.int .i64)).toArray 3)).cell? ⟨w3.heap.size, 0 + j, none⟩ = some (.int .i64 (fltL (x - 8000000))[j]) := fun j hj => ints_cell _ w3 _ j hj
    have b2 := b1.trans ((below1 w3 (.cells ((fltL (x - 8000000)).map (Value.int .i64)).toArray 3)).mono b1.size)
    have FB := fltL_bounds (x := x - 8000000) (by omega) (by omega)
    clear hc2 hc3 g3 x1 b1
    go_wp2_with fail
    refine (l1Int_list w.heap.size a n cap (fltL (x - 8000000)) w3.heap.size 6 _ H1 (by simp [fltL]) (by simp [fltL]) HL (by omega)).mono ?_
    rintro e w4 ⟨z, hz, rfl, hc4, g4⟩
    have hb := FB z hz
    replace b2 := b2.grown g4 b2.size (fun k hk => by injection hk with hk; omega)
    go_wp2
    go_ret
    exact ⟨z, rfl, hb.1, hb.2, b2⟩
  · go_wp2_with fail
    refine (l1Odd_any w.heap.size a n cap _ hc2).mono ?_
    rintro e w3 ⟨x, x0, x1, rfl, hc3, g3⟩
    replace b1 := b1.grown g3 b1.size (fun k hk => by injection hk with hk; omega)
    go_wp2
    go_ret
    exact ⟨x, rfl, x0, x1, b1⟩

set_option maxRecDepth 100000 in
set_option maxHeartbeats 2000000 in
theorem lawFloats (a : Option Addr) (n cap : Nat) (w : World) (hB : Byt w a n) :
    Calls Try.prog 3 #[.slice a n cap] w fun e w' => e = .returned (.bool true) ∧ Below w.heap.size w w' := by
  by_cases hs : n ≤ 1048576
  · have HM : Hid (n ≤ 1048576) := hs
    have hd : decide (1048576 < (n : Int)) = false := decide_eq_false (by omega)
    clear hs
    go_enter Try.func3, Try.ntmps3
    go_wp2_with fail
    refine (bigB_any a n cap _).mono ?_
    rintro e w0 ⟨rfl, rfl⟩
    rw [hd]
    clear hd
    go_wp2_with fail
    refine (drawFloatOf_any a n cap _ hB HM.out).mono ?_
    rintro e w1 ⟨x, rfl, x0, x1, B0⟩
    clear hB HM
    go_wp2_with fail
    refine (implFloat x _).mono ?_
    rintro e w2 ⟨rfl, rfl⟩
    have FB := flt_bd x
    by_cases hx : x < -9007199254740992 ∨ 9007199254740992 < x
    · rw [flt_out hx]
      go_wp2_with fail
      refine (implInt 0 _ (by decide) (by decide)).mono ?_
      rintro e w2 ⟨rfl, rfl⟩
      rw [int_zero.1, int_zero.2]
      by_cases hx1 : x < -9007199254740992
      · go_wp2
        go_ret
        exact ⟨rfl, B0⟩
      · have hx2 : 9007199254740992 < x := by omega
        go_wp2
        go_ret
        exact ⟨rfl, B0⟩
    · have hx1 : ¬ x < -9007199254740992 := by omega
      have hx2 : ¬ 9007199254740992 < x := by omega
      have IF := int_flt (n := x) (by omega) (by omega)
      have FL : Hid (0 < x → x < 9007199254740992 → flt x < flt (x + 1)) := fun h0 h1 => flt_lt h0 h1
      obtain ⟨f, hf⟩ : ∃ f, Hid (flt x = f) := ⟨_, rfl⟩
      obtain ⟨g, hg⟩ : ∃ g, Hid (flt (x + 1) = g) := ⟨_, rfl⟩
      rw [hf.out] at IF FB ⊢
      rw [hf.out, hg.out] at FL
      go_wp2_with fail
      refine (implInt f _ FB.1 FB.2.1).mono ?_
      rintro e w2 ⟨rfl, rfl⟩
      rw [IF.1, IF.2]
      clear IF FB hx
      by_cases h0 : 0 < x
      · by_cases h1 : x < 9007199254740992
        · have lt := FL.out h0 h1
          clear FL
          go_wp2_with fail
          refine (implFloat (x + 1) _).mono ?_
          rintro e w2 ⟨rfl, rfl⟩
          rw [hg.out]
          go_wp2_with fail
          refine (implFloat x _).mono ?_
          rintro e w2 ⟨rfl, rfl⟩
          rw [hf.out]
          have nl : ¬ g ≤ f := by omega
          go_wp2
          go_ret
          exact ⟨rfl, B0⟩
        · clear FL
          go_wp2
          go_ret
          exact ⟨rfl, B0⟩
      · clear FL
        go_wp2
        go_ret
        exact ⟨rfl, B0⟩
  · have hd : decide (1048576 < (n : Int)) = true := decide_eq_true (by omega)
    go_enter Try.func3, Try.ntmps3
    go_wp2_with fail
    refine (bigB_any a n cap _).mono ?_
    rintro e w0 ⟨rfl, rfl⟩
    rw [hd]
    go_wp2
    go_ret
    exact ⟨rfl, Below.refl _ _⟩
end Go.Proofs.Ytekojbkkfbmncaa
