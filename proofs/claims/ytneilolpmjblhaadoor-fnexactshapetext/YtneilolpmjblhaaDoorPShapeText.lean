/- The law FnExactShapeText, as its tied card says it: at every argument the program's ShapeText answers as the specification's, byte by byte; it writes into no argument. The table of words by kinds and the library's three tables stand as the program's text lays them. -/
import Derived.Test.YtneilolpmjblhaaDoorFrameSh
import Derived.Test.YtneilolpmjblhaaDoorLawShapeText
import Derived.Test.YtneilolpmjblhaaDoorCards
import Derived.Test.YtneilolpmjblhaaDoorTie
import Derived.LaidLaws
import Derived.Handed
import Derived.Lib.LaidTab
import Derived.Lib.AppendIntMem
import Derived.Stop.LaidErr
import Derived.SevenTiedAt
import Derived.ChangeVars
import Derived.OpenVars
namespace Go.Proofs.YtneilolpmjblhaaDoor
open Go.ChangeShapes Go.WideShapes Go.ChangeAt Go.RowKit Go.Joins

theorem g_pow : Tryd.prog.globalNamed "internal/strconv.uint64pow10" = some 2 := by kernel_rfl
theorem g_powType : (Tryd.prog.globals[2]?).map (·.type) = some 143 := by kernel_rfl
theorem cells_pow : Tryd.prog.cellsOf 143 = 20 := by kernel_rfl
theorem cells_u64 : Tryd.prog.cellsOf 94 = 1 := by kernel_rfl
theorem tab_pow : Rows.laid_internal_strconv_uint64pow10 (H := Unit) = Lib.tabData .u64 Lib.pow10Tab := by kernel_rfl
theorem g_kw : Tryd.prog.globalNamed "loop.example/g00108/impl.kindWords" = some 0 := by kernel_rfl
theorem g_kwType : (Tryd.prog.globals[0]?).map (·.type) = some 37 := by kernel_rfl
theorem cells_kw : Tryd.prog.cellsOf 37 = 6 := by kernel_rfl
theorem cells_str : Tryd.prog.cellsOf 9 = 1 := by kernel_rfl
def kwL : List (List UInt8) := [[], [80, 79, 73, 78, 84, 32], [80, 79, 73, 78, 84, 83, 32], [76, 73, 78, 69, 32], [76, 73, 78, 69, 83, 32], [65, 82, 69, 65, 32]]
theorem tab_kw : Rows.laid_loop_example_g00108_impl_kindWords (H := Unit) = .agg (kwL.map fun l => .lit (.string l)) := by kernel_rfl

/-- An array of texts that reads as a table holds the table's texts. -/
theorem cells_of_strs {H : Type} {enc : TypeId × Value → H} {P : Program} {w : World} {base : Nat} {sp : Nat → Bool} {held : Bool} {fuel : Nat} {t e : TypeId} {n : Nat} {cs : List Value} {ls : List (List UInt8)} {p : List MemPlace}
    (ht : P.underlying t = some (.array n e)) (he : P.underlying e = some .string) (hce : P.cellsOf e = 1) (hct : P.cellsOf t = n)
    (h : DataW.trod enc P w base sp held fuel t cs = some (.agg (ls.map fun l => .lit (.string l)), p)) : cs = ls.map fun l => Value.string ⟨l.toArray⟩ := by
  cases fuel with
  | zero => simp [DataW.trod] at h
  | succ fuel =>
    simp only [DataW.trod, ht, hce, hct, Nat.mul_one] at h
    split at h
    · rename_i hl
      obtain ⟨xs, hm, hx⟩ := Option.map_eq_some_iff.1 h
      have hxs : xs.map (·.1) = ls.map fun l => (DataW.lit (.string l) : DataW H) := by
        have := congrArg Prod.fst hx
        simpa using this
      have hxl : xs.length = n := by simpa using Lib.mapM_length hm
      have hzl : ls.length = n := by
        have := congrArg List.length hxs
        simp at this
        omega
      apply List.ext_getElem?
      intro i
      by_cases hi : i < n
      · obtain ⟨b, hb, hf⟩ := Lib.mapM_at hm i i (by simp [hi])
        obtain ⟨s, hc, rfl, _⟩ := DataW.trod_string he hf
        have h1 : cs[i]? = some (.string s) := by
          have := congrArg (·[0]?) hc
          simpa [List.getElem?_take, List.getElem?_drop] using this
        have h2 : (xs.map (·.1))[i]? = some (DataW.lit (.string s.data.toList) : DataW H) := by simp [hb]
        rw [hxs] at h2
        simp only [List.getElem?_map, Option.map_eq_some_iff, DataW.lit.injEq, Lit.string.injEq] at h2
        obtain ⟨z', hz', e'⟩ := h2
        rw [h1, List.getElem?_map, hz']
        simp only [Option.map_some, Option.some.injEq, Value.string.injEq]
        rw [e']
      · rw [List.getElem?_eq_none (by omega), List.getElem?_eq_none (by simp; omega)]
    · cases h

/-- A world whose block i holds these cells. -/
def tabAt (w : World) (i : Nat) (cs : Array Value) : World :=
  { w with heap := w.heap.modify i fun
      | .cells _ t frozen => .cells cs t frozen
      | o => o }
/-- The settled world, the four tables as their initialisers lay them. -/
noncomputable def laidWorld (os : Os) : World :=
  tabAt (tabAt (tabAt (tabAt (World.holding Tryd.prog os ⟨#[], #[], []⟩) 3 #[.int .u8 0, .int .u8 1, .int .u8 28, .int .u8 2, .int .u8 29, .int .u8 14, .int .u8 24, .int .u8 3, .int .u8 30, .int .u8 22, .int .u8 20, .int .u8 15, .int .u8 25, .int .u8 17, .int .u8 4, .int .u8 8, .int .u8 31, .int .u8 27, .int .u8 13, .int .u8 23, .int .u8 21, .int .u8 19, .int .u8 16, .int .u8 7, .int .u8 26, .int .u8 12, .int .u8 18, .int .u8 6, .int .u8 11, .int .u8 5, .int .u8 10, .int .u8 9]) 4 #[.int .u8 0, .int .u8 1, .int .u8 56, .int .u8 2, .int .u8 57, .int .u8 49, .int .u8 28, .int .u8 3, .int .u8 61, .int .u8 58, .int .u8 42, .int .u8 50, .int .u8 38, .int .u8 29, .int .u8 17, .int .u8 4, .int .u8 62, .int .u8 47, .int .u8 59, .int .u8 36, .int .u8 45, .int .u8 43, .int .u8 51, .int .u8 22, .int .u8 53, .int .u8 39, .int .u8 33, .int .u8 30, .int .u8 24, .int .u8 18, .int .u8 12, .int .u8 5, .int .u8 63, .int .u8 55, .int .u8 48, .int .u8 27, .int .u8 60, .int .u8 41, .int .u8 37, .int .u8 16, .int .u8 46, .int .u8 35, .int .u8 44, .int .u8 21, .int .u8 52, .int .u8 32, .int .u8 23, .int .u8 11, .int .u8 54, .int .u8 26, .int .u8 40, .int .u8 15, .int .u8 34, .int .u8 20, .int .u8 31, .int .u8 10, .int .u8 25, .int .u8 14, .int .u8 19, .int .u8 9, .int .u8 13, .int .u8 8, .int .u8 7, .int .u8 6]) 2 #[.int .u64 1, .int .u64 10, .int .u64 100, .int .u64 1000, .int .u64 10000, .int .u64 100000, .int .u64 1000000, .int .u64 10000000, .int .u64 100000000, .int .u64 1000000000, .int .u64 10000000000, .int .u64 100000000000, .int .u64 1000000000000, .int .u64 10000000000000, .int .u64 100000000000000, .int .u64 1000000000000000, .int .u64 10000000000000000, .int .u64 100000000000000000, .int .u64 1000000000000000000, .int .u64 10000000000000000000]) 0 #[.string ⟨#[]⟩, .string ⟨#[80, 79, 73, 78, 84, 32]⟩, .string ⟨#[80, 79, 73, 78, 84, 83, 32]⟩, .string ⟨#[76, 73, 78, 69, 32]⟩, .string ⟨#[76, 73, 78, 69, 83, 32]⟩, .string ⟨#[65, 82, 69, 65, 32]⟩]
set_option maxRecDepth 100000 in
theorem laid_met (os : Os) (args : Array Value) : laidMet Tryd.prog Rows.fnExactShapeTextRow.laid ((laidWorld os).forCall (fun _ _ => 0) ⟨#[], args, []⟩).memory :=
  laidMet_of_run' 8 (by kernel_rfl) (by kernel_rfl)
theorem pow_of_laid {W : World} (h : laidMet Tryd.prog Rows.fnExactShapeTextRow.laid W) : PowT W := by
  have h2 := h.tail.tail
  rw [tab_pow] at h2
  exact Lib.tabIs_of_head g_pow g_powType Tryd.underlying143 Tryd.underlying94 cells_u64 cells_pow h2
theorem kw_of_laid {W : World} (h : laidMet Tryd.prog Rows.fnExactShapeTextRow.laid W) : TabW W := by
  have h2 := h.tail.tail.tail
  rw [tab_kw] at h2
  obtain ⟨ps, ⟨g', t', cs, fuel, p, q, hg', ht', hvar, hd, _, _⟩, _⟩ := h2
  obtain rfl := Option.some.inj (g_kw.symm.trans hg')
  obtain rfl := Option.some.inj (g_kwType.symm.trans ht')
  have hcs := cells_of_strs Tryd.underlying37 Tryd.underlying9 cells_str cells_kw hd
  intro k h1 h5
  have c := World.var?_cell g_kw hvar k
  rw [c, ← Array.getElem?_toList, hcs]
  have hk : k = 1 ∨ k = 2 ∨ k = 3 ∨ k = 4 ∨ k = 5 := by omega
  rcases hk with rfl | rfl | rfl | rfl | rfl <;> rfl

set_option maxRecDepth 100000 in
theorem shapeText_lifted (os : Os) (started : os.Started) (H : Type) (enc : TypeId × Value → H) :
    ReturnsInHanded {} Tryd.checked os 3 .any (fun w args => (Rows.fnExactShapeTextSpec.pre enc Tryd.prog Tryd.f3 Rows.fnExactShapeTextRow.domain false w args ∧ laidMet Tryd.prog Rows.fnExactShapeTextRow.laid w) ∧ sizedMet enc Tryd.prog Tryd.f3 (OpenSpec.ofChange Rows.fnExactShapeTextSpec) false w args) (Rows.fnExactShapeTextSpec.post enc Tryd.prog Tryd.f3 false true false false) := by
  refine returnsInHanded_of_change_and (C := Tryd.checked) (X := fun w _ => laidMet Tryd.prog Rows.fnExactShapeTextRow.laid w) (fun _ _ _ hh h => h.of_heap hh) own started (by kernel_rfl) Tryd.func3
    (ChangeSpec.witness_at (enc := enc) (C := Tryd.checked) (os := os) (X := fun w _ => laidMet Tryd.prog Rows.fnExactShapeTextRow.laid w) false (laidWorld os) #[.agg #[.int .i64 0, .slice none 0 0]] 8 rfl (by kernel_rfl) (by kernel_rfl) (by kernel_rfl) (by kernel_rfl) (by kernel_rfl) (laid_met os _)) ?_
  intro W base args ds gs before hval0 hW _ _ hL _
  have hval : ∀ (j : Nat) t v, Tryd.f3.params[j]? = some t → args[j]? = some v → Value.okWide Tryd.prog W .any base t v := hval0
  have hW' := hW
  obtain ⟨p, q, hA0, hV, rfl, hfz, hnd⟩ := hW
  have hA : DataW.TrodAll enc Tryd.prog W 0 (fun _ => true) true Tryd.f3.params.toList args.toList ds p := hA0
  rw [Tryd.params3] at hA hval
  obtain ⟨v0, vs0, d0, ds0, p0, q0, hargs, rfl, rfl, h0, r0⟩ := trodAll_cons hA
  obtain ⟨rfl, rfl, rfl⟩ := trodAll_nil r0
  obtain rfl : args = #[v0] := by cases args; simp_all
  have hV1 : DataW.TrodVars enc Tryd.prog W (fun _ => true) ["loop.example/g00108/impl.kindWords"] gs q := hV
  obtain ⟨g1, t1, cs1, fuel1, dv, p1, rfl, _, _, _, _, _⟩ := trodVars_one hV1
  obtain ⟨n0, a0, c0, rs0, rfl, s0⟩ := openShape (hval 0 24 v0 rfl rfl) h0
  have lt0 : ∀ x ∈ p0, x.block < W.heap.size := by obtain ⟨m, hm⟩ := h0; exact DataW.trod_lt m _ _ _ hm
  clear hA0 hval0
  refine (lawShapeText n0 a0 c0 rs0 W s0 (fun w' hb => Lib.tabBelow_of_tabIs (pow_of_laid hL) w' hb) (fun w' hb k k1 k5 => bat hb (kw_of_laid hL k k1 k5))).mono fun e W' ⟨he, bel⟩ => ?_
  subst he
  exact ⟨_, rfl, _, _, _, [], _, _, hW', trodAll_mk1 (shut_bool Tryd.underlying4 _), (trodAll_cons_mk (Below.trod laidOut (by kernel_rfl) (of_decide_eq_true (by kernel_rfl)) h0 bel lt0) trodAll_mk0), Below.trodVars laidOut bel (by kernel_rfl) hV1, bel.frame _, fun h => by cases h⟩

theorem shapeText_over : Rows.fnExactShapeTextRow.holds Tryd.pinned (OpenSpec.ofChange Rows.fnExactShapeTextSpec) :=
  OpenClaim.holds_of_wide 3 Tryd.f3 rfl rfl rfl rfl rfl rfl rfl ⟨rfl, rfl, rfl, rfl, rfl⟩ rfl rfl rfl rfl rfl (by kernel_rfl) Tryd.func3 (by kernel_rfl)
    (of_decide_eq_true (by kernel_rfl)) (by unfold Func.isWrapper; first | (rw [if_pos (by decide +kernel)]; kernel_rfl) | (rw [if_neg (by decide +kernel)]; exact ⟨rfl, rfl⟩))
    (fun os started H enc _ => shapeText_lifted os started H enc)

theorem shapeText_said : Rows.FnExactShapeTextSaid := shapeText_over
theorem shapeText_holds : Rows.FnExactShapeTextCardSaid :=
  Claim7.holds_tied_plain_at .later [] _ _ _ _
    shapeText_said (fun _ h => by cases h) (by kernel_rfl) (fun _ h => by cases h) fnExactShapeText_row_tie rfl ⟨rfl, rfl⟩ (by kernel_rfl) rfl
    (fun f fn hf hfn => by
      obtain rfl : f = 3 := Option.some.inj (hf.symm.trans (show Tryd.prog.funcNamed "loop.example/g00108/laws.FnExactShapeText" = some 3 by kernel_rfl))
      obtain rfl : fn = Tryd.f3 := Option.some.inj (hfn.symm.trans Tryd.func3)
      exact ⟨by kernel_rfl, fun j t ht => by
        rw [Tryd.params3] at ht
        have h3 : t = 24 := by
          rcases j with _ | j
          · simpa using ht.symm
          · simp at ht
        subst h3
        exact (show Tryd.prog.wantsStandIn 24 = false by kernel_rfl)⟩)
    (by kernel_rfl)
#print axioms shapeText_holds
end Go.Proofs.YtneilolpmjblhaaDoor
