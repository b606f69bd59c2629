/- slices.Backward over the levels of a tree. -/
import Derived.Test.YtdkhaghcnijilaaGreatTrC
import Derived.Test.YtdkhaghcnijilaaGreatIterW
import Derived.RangeFuncBound
import Derived.Shelf.Abstract
import Derived.Shelf.RegionOpen
import Derived.WalkKit
import Derived.OwnWalkIn
import Derived.TacticsInMore
import Derived.LoopNIn
import Derived.LoopIn
namespace Go.Proofs.YtdkhaghcnijilaaGreat
open Go.RowKit Go.Shelf
attribute [local go_sem] Oper.semAt_some

/-- What the iterator hands over: a place, and the level there. -/
def encL (vs : List Value) (j : Nat) : Array Value := #[.int .i64 (j : Int), vs[j]?.getD undef]
/-- What it reads. -/
def LvG (b lo : Nat) (a2 : Option Addr) (c2 : Nat) (vs : List Value) (qs : List (List Ptr)) (A : World) : Prop := A.cell? ⟨b, 0, none⟩ = some (.slice a2 qs.length c2) ∧ LvR lo A (.slice a2 qs.length c2) vs qs

set_option maxRecDepth 100000 in
set_option maxHeartbeats 2000000 in
theorem backwardL_seq (b lo : Nat) (a2 : Option Addr) (c2 : Nat) (vs : List Value) (qs : List (List Ptr)) (w : World) (n : Nat) (hn : 1 ≤ n) (hl : qs.length ≤ 2000000) :
    SeqL Fence.wide n Tryz.prog 109 #[.pointer (some ⟨b, 0, none⟩)] (encL vs) (fun (s : Nat) (x : Nat) (s' : Nat) => s = x + 1 ∧ s' = x ∧ x < qs.length) qs.length (fun s => s = 0) (LvG b lo a2 c2 vs qs) w := fun l J D W hW hG hY hJ0 => by
  have g0 := (hG _ _ hJ0).1
  have HY : Hid (∀ (s x s' : Nat) (W1 : World), J s W1 → (s = x + 1 ∧ s' = x ∧ x < qs.length) → YieldAt Fence.wide (n - 1) Tryz.prog l (encL vs x) W1 fun e W' => (e = .returned (.bool true) ∧ J s' W') ∨ (e = .returned (.bool false) ∧ D W')) := hY
  have HG : Hid (∀ s A, J s A → LvG b lo a2 c2 vs qs A) := hG
  clear hW hG hY
  have hz1 : wrap64 ((qs.length : Int) - 1) = (qs.length : Int) - 1 := by unfold wrap64; omega
  refine callsIn_of_wp Tryz.func109 rfl trivial ?_ rfl
  simp only [Tryz.ntmps109, List.size_toArray, List.length_cons, List.length_nil, Nat.reduceAdd, Nat.reduceSub, Array.replicate_succ, Array.replicate_zero, List.push_toArray, List.append_toArray, List.nil_append, List.cons_append]
  gi_wp2
  gi_loopw [3] (fun sh wr => ∃ s : Nat, s ≤ qs.length ∧ sh = .int .i64 ((s : Int) - 1) ∧ J s wr) (fun sh _ => (intOf sh + 1).toNat)
  case atStart => exact ⟨qs.length, Nat.le_refl _, rfl, hJ0⟩
  case round =>
    obtain ⟨s, hs, rfl, hj⟩ := hrel
    rename World => wr
    clear hJ0 g0
    cases s with
    | zero =>
      rw [show ((0 : Nat) : Int) - 1 = -1 from rfl]
      gi_wp2
      go_end0
      exact ⟨⟨_, rfl⟩, .inl ⟨_, rfl, hj⟩⟩
    | succ j =>
      rw [show ((j + 1 : Nat) : Int) - 1 = (j : Int) by omega]
      obtain ⟨g0, QR⟩ := HG.out _ _ hj
      obtain ⟨g, c', e, hg, hf, hm, hc⟩ := LvR.at2 QR (by omega)
      obtain ⟨g', c'', hvj, g1⟩ : ∃ g' c'', vs[j]? = some (.slice (some ⟨g', 0, none⟩) (rowTp qs j).length c'') ∧ wr.cell? ⟨g, j, none⟩ = some (.slice (some ⟨g', 0, none⟩) (rowTp qs j).length c'') := by
        obtain ⟨g', c'', h1, _⟩ := QR.q j (by omega)
        have h9 := World.ownsRow.cells QR.o (show Value.ownBlock _ = some g by rw [e]; rfl) j _ h1
        refine ⟨g', c'', h1, ?_⟩
        simp only [Addr.add, Nat.zero_add] at h9
        split at h9
        · rename_i j0; rw [j0]; rw [j0] at h9; exact h9
        · exact h9
      injection e with e1 e2 e3
      subst e1
      subst e3
      unfold maxLen at hm
      clear e2 QR hc
      obtain ⟨fn, tmps, assign, body, hy1, hR⟩ := HY.out (j + 1) j j wr hj ⟨rfl, rfl, by omega⟩
      unfold encL at hy1
      rw [hvj] at hy1
      simp only [Option.getD_some] at hy1
      generalize (rowTp qs j).length = nn at *
      gi_wp2_with fail
      refine hR.mono ?_
      rintro e w2 (⟨rfl, hj2⟩ | ⟨rfl, hd⟩)
      · clear hR hy1 g1 g0 hvj
        have hz2 : wrap64 ((j : Int) - 1) = (j : Int) - 1 := by unfold wrap64; omega
        gi_wp2
        go_roundw
        case rel => exact ⟨j, by omega, rfl, hj2⟩
        case measure => simp [intOf]
      · clear hR hy1 g1 g0 hvj
        gi_wp2
        exact bodyPost_ret (results_none rfl _ _ _) rfl ⟨⟨_, rfl⟩, .inr hd⟩

theorem backwardL_any (a2 : Option Addr) (n c2 : Nat) (w : World) :
    Calls Tryz.prog 66 #[.slice a2 n c2] w fun e w' => e = .returned (.func (.func 109) #[] #[.pointer (some ⟨w.heap.size, 0, none⟩)]) ∧ w' = w.alloc (.cells #[.slice a2 n c2] 91) := by
  go_enter Tryz.func66, Tryz.ntmps66
  go_wp2
  go_ret
  exact ⟨rfl, rfl⟩
end Go.Proofs.YtdkhaghcnijilaaGreat
