/- The law on MapOk: at every argument the program's MapOk is the specification's; it writes into no argument. -/
import Derived.Test.YtakfjpenpnjlhaaMapS
namespace Go.Proofs.Ytakfjpenpnjlhaa
open Go.RowKit

set_option maxRecDepth 20000 in
set_option maxHeartbeats 2000000 in
theorem lawMapOk (a : Option Addr) (c : Nat) (es : List En) (w : World) (h : SeesEn w a c es) :
    Calls Try.prog 4 #[.slice a es.length c] w fun e w' => e = .returned (.bool true) ∧ Below w.heap.size w w' := by
  obtain ⟨u1, H1⟩ : ∃ u, Hid (mpB es = u) := ⟨_, rfl⟩
  have hu : (u1 != u1) = false := by cases u1 <;> rfl
  have B0 : Below w.heap.size w w := Below.refl _ _
  go_enter Try.func4, Try.ntmps4
  go_wp2_with fail
  refine (szEntries a c es 1048576 _ h (by omega)).mono ?_
  rintro e w1 ⟨z1, rfl, hz1, hb⟩
  replace B0 := B0.trans (hb.mono B0.size)
  clear hb
  rcases hz1 with rfl | ⟨z10, hz1⟩
  · go_wp2
    go_ret
    exact ⟨rfl, B0⟩
  · have L1 : Hid (uptoE es es.length ≤ 1048576) := by show _ ≤ _; omega
    have L2 : Hid (es.length ≤ maxLen) := by show _ ≤ _; have := uptoE_le es 0 es.length; simp only [uptoE, Nat.zero_add] at this; unfold maxLen; omega
    clear hz1
    go_wp2_with fail
    refine (toEntries a c es _ (h.below B0) L1.out).mono ?_
    rintro e w2 ⟨rfl, ⟨_, _, o3⟩, hb⟩
    have s3 := o3.sees L2.out
    replace B0 := B0.trans (hb.mono B0.size)
    clear hb o3
    go_wp2_with fail
    refine (specMapOk _ _ es _ s3).mono ?_
    rintro e w3 ⟨rfl, hb⟩
    rw [H1.out]
    replace B0 := B0.trans (hb.mono B0.size)
    clear hb s3
    go_wp2_with fail
    refine (toEntries a c es _ (h.below B0) L1.out).mono ?_
    rintro e w4 ⟨rfl, ⟨_, _, o5⟩, hb⟩
    have s5 := o5.sees L2.out
    replace B0 := B0.trans (hb.mono B0.size)
    clear hb o5
    go_wp2_with fail
    refine (implMapOk _ _ es _ s5).mono ?_
    rintro e w5 ⟨rfl, hb⟩
    rw [H1.out]
    replace B0 := B0.trans (hb.mono B0.size)
    replace s5 := s5.below hb
    clear hb
    go_wp2_with fail
    refine (toEntries a c es _ (h.below B0) L1.out).mono ?_
    rintro e w6 ⟨rfl, ⟨_, _, o7⟩, hb⟩
    have s7 := o7.sees L2.out
    replace B0 := B0.trans (hb.mono B0.size)
    replace s5 := s5.below hb
    clear hb o7
    go_wp2_with fail
    refine (eqEntries _ _ _ _ es _ s5 s7).mono ?_
    rintro e w7 ⟨rfl, hb⟩
    replace B0 := B0.trans (hb.mono B0.size)
    clear hb s5 s7
    go_wp2
    go_ret
    exact ⟨rfl, B0⟩
end Go.Proofs.Ytakfjpenpnjlhaa
