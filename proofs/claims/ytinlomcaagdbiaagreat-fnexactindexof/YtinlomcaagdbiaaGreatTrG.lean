import Derived.Test.YtinlomcaagdbiaaGreatTrZ
import Derived.RangeFuncNested
import Derived.RangeFuncCalls
import Derived.RangeFuncLeaves
import Derived.Below
import Derived.ControlIn
import Derived.Test.YtinlomcaagdbiaaGreatSeg
import Derived.OrdersIn
import Derived.TacticsIn
/- Boxes joined, of the program: joined over items. -/
namespace Go.Proofs.YtinlomcaagdbiaaGreat
open Go.RowKit

def jn2 (x y : Bx) : Bx := (jA x.1 x.2.1 x.2.2.1 x.2.2.2 y.1 y.2.1 y.2.2.1 y.2.2.2, jB x.1 x.2.1 x.2.2.1 x.2.2.2 y.1 y.2.1 y.2.2.1 y.2.2.2, jC x.1 x.2.1 x.2.2.1 x.2.2.2 y.1 y.2.1 y.2.2.1 y.2.2.2, jD x.1 x.2.1 x.2.2.1 x.2.2.2 y.1 y.2.1 y.2.2.1 y.2.2.2)
def jnJ (bs : List Bx) : Nat → Bx
 | 0 => bxAt bs 0
 | j + 1 => jn2 (jnJ bs j) (bxAt bs j)
def jnI (bs : List Bx) : Bx := if bs.length = 0 then (0, 0, 0, 0) else jnJ bs bs.length
structure SeesIt (w : World) (a : Option Addr) (cap : Nat) (bs : List Bx) (is : List Int) : Prop where
 len : bs.length = is.length
 fits : bs.length ≤ cap
 max : cap ≤ maxLen
 cells : bs ≠ [] → ∃ b off, a = some ⟨b, off, none⟩ ∧ ∀ i, i < bs.length → Four w b (off + i * 5) (bxAt bs i) ∧ w.cell? ⟨b, off + i * 5 + 4, none⟩ = some (.int .i64 (is[i]?.getD 0))
theorem SeesIt.below {w w' : World} {a : Option Addr} {cap : Nat} {bs : List Bx} {is : List Int} (h : SeesIt w a cap bs is) (hb : Below w.heap.size w w') : SeesIt w' a cap bs is :=
 ⟨h.len, h.fits, h.max, fun hn => by
  obtain ⟨b, off, ha, hc⟩ := h.cells hn
  exact ⟨b, off, ha, fun i hi => ⟨(hc i hi).1.below hb, bat hb (hc i hi).2⟩⟩⟩
theorem Box4.grownT {lo q : Nat} {w w' : World} {x0 x1 x2 x3 : Value} {row : Option Nat} (h : Box4 lo w q x0 x1 x2 x3) (g : w.grownBy w' row) (ne : some q ≠ row) : Box4 lo w' q x0 x1 x2 x3 := by
 have e := g.block q h.lt ne
 exact ⟨(World.cell?_of_block (a := ⟨q, 0, none⟩) e).trans h.c0, (World.cell?_of_block (a := ⟨q, 1, none⟩) e).trans h.c1, (World.cell?_of_block (a := ⟨q, 2, none⟩) e).trans h.c2, (World.cell?_of_block (a := ⟨q, 3, none⟩) e).trans h.c3, fun o => (World.frozen?_of_block (a := ⟨q, o, none⟩) e).trans (h.fr o), h.lo⟩

set_option maxRecDepth 20000 in
theorem itAround_any (x1 x2 x3 x4 n : Int) (w : World) :
  Calls Tryz.prog 186 #[.agg #[.int .i64 x1, .int .i64 x2, .int .i64 x3, .int .i64 x4, .int .i64 n]] w fun e w' => e = .returned (.agg #[.int .i64 x1, .int .i64 x2, .int .i64 x3, .int .i64 x4]) ∧ Below w.heap.size w w' := by
 have B := below2 w (.cells #[.int .i64 x1, .int .i64 x2, .int .i64 x3, .int .i64 x4, .int .i64 n] 112) (.cells #[.int .i64 x1, .int .i64 x2, .int .i64 x3, .int .i64 x4] 27)
 go_enter Tryz.func186, Tryz.ntmps186
 go_wp2
 exact bodyPost_ret (v := .agg #[.int .i64 x1, .int .i64 x2, .int .i64 x3, .int .i64 x4]) (by simp [results, Tryz.results186, go_sem]) rfl ⟨rfl, B⟩

set_option maxRecDepth 20000 in
set_option maxHeartbeats 4000000 in
theorem joinedIt_any (a : Option Addr) (c : Nat) (bs : List Bx) (is : List Int) (w : World) (h : SeesIt w a c bs is) :
  Calls Tryz.prog 128 #[.slice a bs.length c] w fun e w' => e = .returned (bxV (jnI bs)) ∧ Below w.heap.size w w' := by
 have hm := h.max
 have hf := h.fits
 unfold maxLen at hm
 have Z4 := (.cells #[.int .i64 0, .int .i64 0, .int .i64 0, .int .i64 0] 27 : Obj)
 clear Z4
 have B0 := below1 w (.cells #[.int .i64 0, .int .i64 0, .int .i64 0, .int .i64 0] 27)
 have RR := Box4.new w (lo := w.heap.size) (Nat.le_refl _) (.int .i64 0) (.int .i64 0) (.int .i64 0) (.int .i64 0) 27
 by_cases h0 : bs.length = 0
 ·have e0 : ((bs.length : Int) == 0) = true := by simp; exact List.eq_nil_of_length_eq_zero h0
  have HV : Hid (bxV (jnI bs) = .agg #[.int .i64 0, .int .i64 0, .int .i64 0, .int .i64 0]) := by show _ = _; unfold jnI; rw [if_pos h0]; rfl
  clear h0
  have RR' := RR.put (.int .i64 0) (.int .i64 0) (.int .i64 0) (.int .i64 0)
  have B' := Box4.chain B0 RR (.int .i64 0) (.int .i64 0) (.int .i64 0) (.int .i64 0)
  have q0 := RR'.c0
  have q1 := RR'.c1
  have q2 := RR'.c2
  have q3 := RR'.c3
  obtain ⟨r0, r1, r2, r3, rf, _⟩ := id RR
  go_enter Tryz.func128, Tryz.ntmps128
  go_wp2
  first
  | exact bodyPost_ret (v := .agg #[.int .i64 0, .int .i64 0, .int .i64 0, .int .i64 0]) (by simp [results, Tryz.results128, go_sem, q0, q1, q2, q3]) rfl ⟨by rw [HV.out], B'⟩
  | exact bodyPost_ret (v := .agg #[.int .i64 0, .int .i64 0, .int .i64 0, .int .i64 0]) (by simp [results, Tryz.results128, go_sem]) rfl ⟨by rw [HV.out], B0⟩
 ·have e0 : ((bs.length : Int) == 0) = false := by simp; intro e; exact h0 (by rw [e]; rfl)
  have HV : Hid (jnI bs = jnJ bs bs.length) := by show _ = _; unfold jnI; rw [if_neg h0]
  have hpos : 0 < bs.length := by omega
  have hposZ : (0 : Int) < (bs.length : Int) := by omega
  obtain ⟨b1, o1, ea, hc⟩ := h.cells (by intro e; simp [e] at h0)
  subst ea
  obtain ⟨⟨g1, g2, g3, g4⟩, g5⟩ := hc 0 hpos
  have hb1 : b1 < w.heap.size := World.block_lt_of_cell? _ _ g1
  have HC : Hid (∀ i, i < bs.length → Four w b1 (o1 + i * 5) (bxAt bs i) ∧ w.cell? ⟨b1, o1 + i * 5 + 4, none⟩ = some (.int .i64 (is[i]?.getD 0))) := hc
  obtain ⟨⟨y1, y2, y3, y4⟩, uy⟩ : ∃ x, Hid (bxAt bs 0 = x) := ⟨_, rfl⟩
  rw [uy.out] at g1 g2 g3 g4
  dsimp only at g1 g2 g3 g4
  simp only [Nat.zero_mul, Nat.add_zero] at g1 g2 g3 g4 g5
  replace g1 := bat B0 g1
  replace g2 := bat B0 g2
  replace g3 := bat B0 g3
  replace g4 := bat B0 g4
  replace g5 := bat B0 g5
  generalize is[0]?.getD 0 = n0 at *
  clear hc h0
  go_enter Tryz.func128, Tryz.ntmps128
  go_wp2_with fail
  generalize w.alloc (.cells #[.int .i64 0, .int .i64 0, .int .i64 0, .int .i64 0] 27) = W0 at *
  refine (itAround_any y1 y2 y3 y4 n0 _).mono ?_
  rintro e w1 ⟨rfl, hb⟩
  replace RR := RR.below hb
  replace B0 := B0.trans (hb.mono B0.size)
  clear hb g1 g2 g3 g4 g5
  have bn := below1 w1 (.cells #[.int .i64 y1, .int .i64 y2, .int .i64 y3, .int .i64 y4] 27)
  have O := Box4.new w1 (lo := w.heap.size) B0.size (.int .i64 y1) (.int .i64 y2) (.int .i64 y3) (.int .i64 y4) 27
  have hp3 : w.heap.size < w1.heap.size := RR.lt
  replace RR := RR.below bn
  replace B0 := B0.trans (bn.mono B0.size)
  clear bn
  go_upto_region 4 with fail
  generalize w1.alloc (.cells #[.int .i64 y1, .int .i64 y2, .int .i64 y3, .int .i64 y4] 27) = W1 at *
  generalize w1.heap.size = p3 at *
  go_wp2
  go_loopw [5, 17] (fun _ s17 wr => ∃ (j : Nat) (y : Bx), j ≤ bs.length ∧ s17 = .int .i64 j ∧ Hid (jnJ bs j = y) ∧ Box4 w.heap.size wr p3 (.int .i64 y.1) (.int .i64 y.2.1) (.int .i64 y.2.2.1) (.int .i64 y.2.2.2) ∧ Box4 w.heap.size wr w.heap.size (.int .i64 0) (.int .i64 0) (.int .i64 0) (.int .i64 0) ∧ Below w.heap.size w wr) (fun _ s17 _ => bs.length - (intOf s17).toNat)
  case atStart => exact ⟨0, (y1, y2, y3, y4), Nat.zero_le _, rfl, uy.out, O, RR, B0⟩
  case round =>
   clear O RR B0
   obtain ⟨j, y, hj, rfl, J, O, RR, B⟩ := hrel
   rename World => wr
   obtain ⟨z1, z2, z3, z4⟩ := y
   dsimp only at O
   by_cases hlt : j < bs.length
   ·obtain ⟨⟨g1, g2, g3, g4⟩, g5⟩ := HC.out j hlt
    have HJ : Hid (jnJ bs (j + 1) = jn2 (z1, z2, z3, z4) (bxAt bs j)) := by show jn2 (jnJ bs j) _ = _; rw [J.out]
    obtain ⟨⟨x1, x2, x3, x4⟩, ux⟩ : ∃ x, Hid (bxAt bs j = x) := ⟨_, rfl⟩
    rw [ux.out] at g1 g2 g3 g4 HJ
    dsimp only at g1 g2 g3 g4
    replace g1 := bat B g1
    replace g2 := bat B g2
    replace g3 := bat B g3
    replace g4 := bat B g4
    replace g5 := bat B g5
    generalize is[j]?.getD 0 = nj at *
    have bn := below1 wr (.cells #[.int .i64 x1, .int .i64 x2, .int .i64 x3, .int .i64 x4, .int .i64 nj] 112)
    go_wp2_with fail
    refine (itAround_any x1 x2 x3 x4 nj _).mono ?_
    rintro e w2 ⟨rfl, hb⟩
    replace bn := bn.trans (hb.mono bn.size)
    replace O := O.below bn
    replace RR := RR.below bn
    replace B := B.trans (bn.mono B.size)
    clear hb bn g1 g2 g3 g4 g5 J
    go_wp2_with fail
    refine (enclose_any w.heap.size p3 z1 z2 z3 z4 x1 x2 x3 x4 _ O).mono ?_
    rintro e w3 ⟨rfl, O3, G⟩
    have R3 := RR.grownT G (by intro e; injection e with e; omega)
    have B3 := B.grown G B.size (fun k e => by injection e with e; omega)
    clear O RR B G
    go_wp2
    go_roundw
    case rel => exact ⟨j + 1, jn2 (z1, z2, z3, z4) (x1, x2, x3, x4), by omega, by go_num, HJ, O3, R3, B3⟩
    case measure => simp [intOf]; omega
   ·obtain rfl : j = bs.length := by omega
    have HW : Hid (bxV (jnI bs) = .agg #[.int .i64 z1, .int .i64 z2, .int .i64 z3, .int .i64 z4]) := by show _ = _; rw [HV.out, J.out]; rfl
    obtain ⟨o0, o1', o2, o3, _, _⟩ := id O
    obtain ⟨r0, r1, r2, r3, rf, _⟩ := id RR
    have RR' := RR.put (.int .i64 z1) (.int .i64 z2) (.int .i64 z3) (.int .i64 z4)
    have B' := Box4.chain B RR (.int .i64 z1) (.int .i64 z2) (.int .i64 z3) (.int .i64 z4)
    have q0 := RR'.c0
    have q1 := RR'.c1
    have q2 := RR'.c2
    have q3 := RR'.c3
    clear O RR B J RR' HV
    go_wp2
    exact bodyPost_ret (v := .agg #[.int .i64 z1, .int .i64 z2, .int .i64 z3, .int .i64 z4]) (by simp [results, Tryz.results128, go_sem, q0, q1, q2, q3]) rfl ⟨by rw [HW.out], B'⟩
end Go.Proofs.YtinlomcaagdbiaaGreat

/- The mathematics of joined boxes: the program's join of a list is the specification's. -/
namespace Go.Proofs.YtinlomcaagdbiaaGreat
open Go.RowKit

theorem jn2_self (x : Bx) : jn2 x x = x := by
 obtain ⟨a, b, c, d⟩ := x
 unfold jn2 jA jB jC jD
 cases boxOk a b c d <;> simp
theorem jn2_jnB {x y : Bx} (h : okX y = true) : jn2 x y = jnB x y := by
 unfold okX at h
 unfold jn2 jnB oA oB oC oD
 rw [h]
 simp
theorem okX_jn2 (x y : Bx) : okX (jn2 x y) = (okX x || okX y) := joined_ok ..
theorem allOk_iff (bs : List Bx) : ∀ n, allOk bs n = true ↔ ∀ i, i < n → okX (bxAt bs i) = true
 | 0 => ⟨fun _ i h => absurd h (by omega), fun _ => rfl⟩
 | n + 1 => by
  simp only [allOk, Bool.and_eq_true, allOk_iff bs n]
  constructor
  ·rintro ⟨h1, h2⟩ i hi
   rcases Nat.lt_or_ge i n with c | c
   ·exact h1 i c
   ·rw [show i = n by omega]; exact h2
  ·exact fun h => ⟨fun i hi => h i (by omega), h n (by omega)⟩
theorem jnJ_jnU {bs : List Bx} (h : ∀ i, i < bs.length → okX (bxAt bs i) = true) : ∀ j, j + 1 ≤ bs.length → jnJ bs (j + 1) = jnU bs (j + 1)
 | 0, _ => jn2_self _
 | j + 1, hj => by
  show jn2 (jnJ bs (j + 1)) _ = jnB (jnU bs (j + 1)) _
  rw [jnJ_jnU h j (by omega), jn2_jnB (h _ (by omega))]
theorem jnI_jnS {bs : List Bx} (h : allOk bs bs.length = true) : jnI bs = jnS bs := by
 rw [allOk_iff] at h
 unfold jnI jnS
 split
 ·rename_i h0; rw [h0]; rfl
 ·rename_i h0
  obtain ⟨n, hn⟩ : ∃ n, bs.length = n + 1 := ⟨bs.length - 1, by omega⟩
  have := jnJ_jnU h n (by omega)
  rw [hn]
  exact this
theorem jnJ_ok {bs : List Bx} (h : okX (bxAt bs 0) = true) : ∀ j, okX (jnJ bs j) = true
 | 0 => h
 | j + 1 => by
  show okX (jn2 _ _) = true
  rw [okX_jn2, jnJ_ok h j]
  rfl
theorem jnI_ok {bs : List Bx} (h : allOk bs bs.length = true) (h0 : bs.length ≠ 0) : okX (jnI bs) = true := by
 unfold jnI
 rw [if_neg h0]
 exact jnJ_ok ((allOk_iff _ _).1 h 0 (by omega)) _
theorem kids_ok {ks : List Nd} (h : ∀ k ∈ ks, okX k.b = true) : allOk (ks.map Nd.b) (ks.map Nd.b).length = true := by
 rw [allOk_iff]
 intro i hi
 rw [List.length_map] at hi
 have : bxAt (ks.map Nd.b) i = ks[i].b := by unfold bxAt; rw [List.getElem?_map, List.getElem?_eq_getElem hi]; rfl
 rw [this]
 exact h _ (List.getElem_mem hi)
end Go.Proofs.YtinlomcaagdbiaaGreat

/- A range over a function whose body never leaves: the iterator may keep cells of its own between two rounds, where the caller's word speaks of what lay ahead of the loop alone. -/
namespace Go.Proofs.YtinlomcaagdbiaaGreat
open Go.RowKit

structure Above (B : Nat) (W W' : World) : Prop where
 size : W.heap.size ≤ W'.heap.size
 same : ∀ k, B ≤ k → k < W.heap.size → W'.heap[k]? = W.heap[k]?
theorem Above.refl (B : Nat) (W : World) : Above B W W := ⟨Nat.le_refl _, fun _ _ _ => rfl⟩
theorem Above.trans {B : Nat} {a b c : World} (h : Above B a b) (k : Above B b c) : Above B a c :=
 ⟨Nat.le_trans h.size k.size, fun i hi hl => (k.same i hi (Nat.lt_of_lt_of_le hl h.size)).trans (h.same i hi hl)⟩
theorem Above.mono {B B' : Nat} {W W' : World} (h : Above B W W') (hB : B ≤ B') : Above B' W W' := ⟨h.size, fun k hk => h.same k (Nat.le_trans hB hk)⟩
theorem Above.setCell {B : Nat} {a w : World} (h : Above B a w) {p : Addr} (hp : p.block < B) (u : Value) : Above B a (w.setCell p u) :=
 h.trans ⟨by simp [World.setCell], fun k hk _ => Below.heap_setCell _ _ _ _ (by omega)⟩
theorem Above.put {B : Nat} {a w : World} (h : Above B a w) {l : Nat} (hl : l < B) (o : Obj) : Above B a (w.putObj l o) :=
 h.trans ⟨by simp, fun k hk _ => World.putObj_heap_other (by omega)⟩
theorem belowPut (W : World) {B l : Nat} (hl : B ≤ l) (o : Obj) : Below B W (W.putObj l o) :=
 ⟨rfl, rfl, rfl, by simp, fun k hk => World.putObj_heap_other (by omega)⟩

def SeqG {σ α : Type} (F : Fence) (n : Nat) (P : Program) (g : Nat) (lb : Array Value) (enc : α → Value) (step : σ → α → σ → Prop) (s0 : σ) (fin : σ → Prop) (w : World) : Prop :=
 ∀ (l : Nat) (J : σ → World → Prop) (W : World), Below w.heap.size w W → (∀ s A B, J s A → Below W.heap.size A B → J s B) →
  (∀ s x s' W1, J s W1 → step s x s' → W.heap.size ≤ W1.heap.size → YieldAt F (n - 1) P l #[enc x] W1 fun e W' => e = .returned (.bool true) ∧ J s' W' ∧ Above W.heap.size W1 W') →
  J s0 W →
  CallsIn F n P g (#[.func (.yield l) #[] #[]] ++ lb) W fun e W' => (∃ v, e = .returned v) ∧ ∃ s, fin s ∧ J s W'

def seqPost {σ : Type} (B : Nat) (I : σ → World → Prop) (s : σ) (W : World) : Exit → Act → World → Prop
 | .normal, _, W' => Above B W W' ∧ I s W'
 | _, _, _ => False

variable {F : Fence} {n : Nat} {P : Program}

theorem wpIn_rangeFunc_seq {σ α : Type} {g : Operand} {ps : Array Tmp} {assign body : Code} {Q : Exit → Act → World → Prop} {a : Act} {w : World}
  (hro : F.round = none) (h1 : 1 ≤ n) {gf : Nat} {lb : Array Value} (hg : a.eval g = .func (.func gf) #[] lb) (hFg : F.fn gf) (eg : ∀ args w, (callFunc gf args).run P w = .ok (.enter gf args) w)
  {enc : α → Value} {step : σ → α → σ → Prop} {s0 : σ} {fin : σ → Prop} (hseq : SeqG F (n - 1) P gf lb enc step s0 fin w) (hps : ps.size = 1)
  (I : σ → World → Prop) (hI : ∀ s A B, I s A → Below w.heap.size A B → I s B) (h0 : I s0 w)
  (hround : ∀ (s : σ) (x : α) (s' : σ) (W : World) (K : Act → World → Prop), I s W → step s x s' → w.heap.size + 2 ≤ W.heap.size →
   (∀ a' W', Above w.heap.size W W' → (∀ o, body.wpIn (F.inRound (w.heap.size + 1)) (n - 1 - 1) P (seqPost w.heap.size I s' (W'.putObj (w.heap.size + 1) o)) a' (W'.putObj (w.heap.size + 1) o)) → K a' W') →
   assign.wpIn (F.inRound (w.heap.size + 1)) (n - 1 - 1) P (Exit.then K (fun _ _ _ => False)) { tmps := (ps.zip #[enc x]).foldl (fun t (p, v) => t.setIfInBounds p v) a.tmps, defers := [] } W)
  (hdone : ∀ (s : σ) (W : World), fin s → I s W → W.heap[w.heap.size]? = some (.deferred (some [])) → Q .normal { a with defers := { target := .collected w.heap.size, args := #[] } :: a.defers } W) :
  (Code.rangeFunc g ps assign body).wpIn F n P Q a w := by
 refine wpIn_rangeFunc ?_
 intro fn hfn
 rw [hro]
 obtain ⟨rec, hrec⟩ : ∃ rec : LoopState → Option Code → Loop, rec = fun st pe => { state := st, pending := pe, fn, tmps := a.tmps, params := ps, assign, body, defers := w.heap.size } := ⟨_, rfl⟩
 obtain ⟨W1, hW1⟩ : ∃ W1, (w.alloc (.deferred (some []))).alloc (.loop (rec .ready none)) = W1 := ⟨_, rfl⟩
 have hL1 : W1.heap[w.heap.size + 1]? = some (.loop (rec .ready none)) := by
  rw [← hW1]; have := World.alloc_heap_new (w.alloc (.deferred (some []))) (.loop (rec .ready none)); rwa [World.size_alloc] at this
 have hK1 : W1.heap[w.heap.size]? = some (.deferred (some [])) := by
  rw [← hW1]; exact (Below.heap_alloc _ _ _ (by simp)).trans (World.alloc_heap_new w _)
 have hb1 : Below w.heap.size w W1 := by
  rw [← hW1]; exact ((Below.refl _ w).alloc (Nat.le_refl _) _).alloc (by simp) _
 have hs1 : W1.heap.size = w.heap.size + 2 := by rw [← hW1]; simp
 have hI1 : I s0 W1 := hI _ _ _ h0 hb1
 refine ⟨w.heap.size + 1, [{ target := .collected w.heap.size, args := #[] }], W1, { target := .fn (.func gf) lb, args := #[.func (.yield (w.heap.size + 1)) #[] #[]] }, W1, gf,
  #[.func (.yield (w.heap.size + 1)) #[] #[]] ++ lb, W1, ?_, ?_, ?_, ?_, fun _ => h1, ?_⟩
 ·rw [← hW1, hrec]; exact run_enterLoop_outer _ _ _ _ _
 ·simp only [resolve, hg]
  simp [go_sem]
 ·intro f' hf'; simp [Target.leads] at hf'; subst hf'; exact hFg
 ·simp [invoke, go_sem, eg]
 ·refine (hseq (w.heap.size + 1)
   (fun s W => I s W ∧ W.heap[w.heap.size + 1]? = some (.loop (rec .ready none)) ∧ W.heap[w.heap.size]? = some (.deferred (some [])))
   W1 hb1
   (fun s A B hs hb => ⟨hI s A B hs.1 (hb.mono (by omega)), (hb.block _ (by omega)).trans hs.2.1, (hb.block _ (by omega)).trans hs.2.2⟩)
   ?_ ⟨hI1, hL1, hK1⟩).mono ?_
  ·rintro s x s' W ⟨hi, hl, hk⟩ hst hsz
   have hlt : w.heap.size + 1 < W.heap.size := (Array.getElem?_eq_some_iff.1 hl).1
   have hy := run_yield (P := P) (args := #[enc x]) hl (by rw [hrec]; simp [hps])
   rw [hrec] at hy
   refine ⟨fn, _, assign, body, hy, roundIn_of_wpIn hfn (hround s x s' W _ hi hst (by omega) ?_)⟩
   clear hy
   intro a' Wa hab hbd
   have hla : Wa.heap[w.heap.size + 1]? = some (.loop (rec .ready none)) := (hab.same _ (by omega) (by omega)).trans hl
   have hka : Wa.heap[w.heap.size]? = some (.deferred (some [])) := (hab.same _ (by omega) (by omega)).trans hk
   have hlta : w.heap.size + 1 < Wa.heap.size := (Array.getElem?_eq_some_iff.1 hla).1
   refine ⟨_, run_beginRound hla (by rw [hrec]), ?_⟩
   have hl2 : (Wa.putObj (w.heap.size + 1) (.loop { rec .ready none with state := .busy })).heap[w.heap.size + 1]? = some (.loop { rec .ready none with state := .busy }) := World.putObj_heap_same hlta
   have hk2 : (Wa.putObj (w.heap.size + 1) (.loop { rec .ready none with state := .busy })).heap[w.heap.size]? = some (.deferred (some [])) := (World.putObj_heap_other (by omega)).trans hka
   have hz2 : (Wa.putObj (w.heap.size + 1) (.loop { rec .ready none with state := .busy })).heap.size = Wa.heap.size := by simp
   have hab2 : Above W1.heap.size W (Wa.putObj (w.heap.size + 1) (.loop { rec .ready none with state := .busy })) := (hab.mono (by omega)).put (by omega) _
   refine wpIn_mono (hbd _) ?_
   rintro e a3 W3 hp
   cases e with
   | normal =>
    obtain ⟨hab3, hi3⟩ := hp
    have hl3 := (hab3.same _ (by omega) (Array.getElem?_eq_some_iff.1 hl2).1).trans hl2
    have hk3 := (hab3.same _ (Nat.le_refl _) (Array.getElem?_eq_some_iff.1 hk2).1).trans hk2
    have hr := run_endRound (P := P) none hl3
    have hsz3 := hab3.size
    refine ⟨_, _, hr, rfl, ⟨hI _ _ _ hi3 (belowPut _ (by omega) _), ?_, (World.putObj_heap_other (by omega)).trans hk3⟩, (hab2.trans (hab3.mono (by omega))).put (by omega) _⟩
    rw [World.putObj_heap_same (Array.getElem?_eq_some_iff.1 hl3).1, hrec]
    rfl
   | ret => exact hp.elim
   | exit id => exact hp.elim
   | goto t => exact hp.elim
   | panic ch => exact hp.elim
   | outgrown => exact hp.elim
  ·rintro e W2 ⟨⟨v, rfl⟩, s, hS, hi, hl, hk⟩
   exact ⟨none, _, by have := run_endLoop (P := P) hl (by rw [hrec]; simp); rw [hrec] at this; exact this, hdone s _ hS (hI _ _ _ hi (belowPut _ (by omega) _)) ((World.putObj_heap_other (by omega)).trans hk)⟩
end Go.Proofs.YtinlomcaagdbiaaGreat

/- A range over a function whose body may return: the iterator reads what lay ahead of the loop, and is left at the first round that returns. -/
namespace Go.Proofs.YtinlomcaagdbiaaGreat
open Go.RowKit

variable {F : Fence} {n : Nat} {P : Program}

end Go.Proofs.YtinlomcaagdbiaaGreat

/- A range over a function whose body may return and makes what it keeps; a region of its body that draws its order. -/
namespace Go.Proofs.YtinlomcaagdbiaaGreat
open Go.RowKit

theorem rows_round {n l : Nat} {P : Program} {row : String} {args : Array Value} {w : World} {R : Value → World → Prop} (h : Rows P row args w R) : RowsIn (Fence.wide.inRound l) n P row args w R := fun c cs _ => by
 obtain ⟨v, w', q, r⟩ := h c cs
 exact ⟨v, w', q, stepsIn_wide.2 r⟩
theorem oper_round {n l : Nat} {P : Program} {o : Oper} {a : Act} {w : World} {K : Act → World → Prop} {Q : Exit → Act → World → Prop} (nd : ∀ c, o.op ≠ Op.defer c) (h : o.wp P a w K Q) : o.wpIn (Fence.wide.inRound l) n P a w K Q := by
 unfold Oper.wp at h
 unfold Oper.wpIn
 refine ⟨fun _ _ => trivial, ?_⟩
 rw [show (Fence.wide.inRound l).round = some l from rfl, Oper.semAt_some l a.eval o nd]
 generalize (execOp a.eval o).run P w = r at *
 cases r with
 | ok x w' =>
  cases x <;> simp only [Oper.upon] at h <;> simp only [Oper.uponIn]
  all_goals first
   | exact h
   | exact ⟨fun e => (by cases e), CallsIn.inRound l (callsIn_wide.2 h)⟩
   | exact ⟨fun e => (by cases e), rows_round h⟩
 | halt x w' => cases x <;> simp only [Oper.upon] at h <;> simp only [Oper.uponIn] <;> exact h
theorem any_round {n l : Nat} {P : Program} {md : Region.Mode} {ops : Array Oper} {Q : Exit → Act → World → Prop} (nd : ∀ (i : Nat) (o : Oper), ops[i]? = some o → ∀ c, o.op ≠ Op.defer c) (nL : ∀ a w, ¬ Q .outgrown a w) :
  ∀ (fuel : Nat) (listed : Array Bool) (a : Act) (w : World), wpAny P md ops Q fuel listed a w → wpAnyIn (Fence.wide.inRound l) n P md ops Q fuel listed a w
 | 0, _, _, _, h => h
 | fuel + 1, listed, a, w, h => by
  refine ⟨h.1, fun i hi => ?_⟩
  have h2 := wpOp_mono (K' := fun a w => wpAnyIn (Fence.wide.inRound l) n P md ops Q fuel (listed.setIfInBounds i true) a w) (fun a w => any_round nd nL fuel _ a w) (h.2 i hi)
  unfold wpOp at h2
  unfold wpOpIn
  split
  ·rename_i e; rw [e] at h2; exact h2
  ·rename_i o e
   rw [e] at h2
   dsimp only at h2
   split
   ·rename_i hw
    rw [if_pos hw] at h2
    rcases h2 with h2 | ⟨_, a', w', h2⟩
    ·exact oper_round (nd i o e) h2
    ·exact absurd h2 (nL _ _)
   ·rename_i hw
    rw [if_neg hw] at h2
    exact ⟨fun _ _ => trivial, h2⟩
def noDefer (o : Oper) : Bool := match o.op with | .defer _ => false | _ => true
theorem noDefer_all {ops : Array Oper} (h : ops.all noDefer = true) (i : Nat) (o : Oper) (hi : ops[i]? = some o) (c : Call) : o.op ≠ Op.defer c := by
 intro e
 obtain ⟨hl, ho⟩ := Array.getElem?_eq_some_iff.1 hi
 have := (Array.all_eq_true.1 h) i hl
 rw [ho] at this
 unfold noDefer at this
 rw [e] at this
 cases this
variable {F : Fence} {n : Nat} {P : Program}

end Go.Proofs.YtinlomcaagdbiaaGreat
