import Derived.Test.YtecjeomcbcpfiaaGreatInS
import Derived.Test.YtecjeomcbcpfiaaGreatCrsI
import Derived.Test.YtecjeomcbcpfiaaGreatBase
import Derived.Handy
import Derived.Deep.DeepCutAuto
import Derived.Test.YtecjeomcbcpfiaaGreatSelfS
import Derived.Test.YtecjeomcbcpfiaaGreatRing
/- Shapes in memory; the laws' helpers on them: their sizes, their copies, whether two are equal. -/
namespace Go.Proofs.YtecjeomcbcpfiaaGreat
open Go.RowKit

/-- A row of a shape. -/
def rowA (rs : List (List (Int × Int))) (i : Nat) : List (Int × Int) := rs[i]?.getD []
/-- Rows of points that lie in memory. -/
structure SeesS (w : World) (a : Option Addr) (cap : Nat) (rs : List (List (Int × Int))) : Prop where
  fits : rs.length ≤ cap
  max : cap ≤ maxLen
  cells : rs ≠ [] → ∃ b off, a = some ⟨b, off, none⟩ ∧ ∀ i, i < rs.length → ∃ a' c', w.cell? ⟨b, off + i, none⟩ = some (.slice a' (rowA rs i).length c') ∧ SeesP w a' c' (rowA rs i)
theorem SeesS.below {w w' : World} {a : Option Addr} {cap : Nat} {rs : List (List (Int × Int))} (h : SeesS w a cap rs) (hb : Below w.heap.size w w') : SeesS w' a cap rs :=
  ⟨h.fits, h.max, fun hn => by
    obtain ⟨b, off, ha, hc⟩ := h.cells hn
    exact ⟨b, off, ha, fun i hi => by obtain ⟨a', c', h1, h2⟩ := hc i hi; exact ⟨a', c', bat hb h1, h2.below hb⟩⟩⟩
/-- How many rows and points there are, up to a row. -/
def upto (rs : List (List (Int × Int))) : Nat → Nat
  | 0 => rs.length
  | j + 1 => upto rs j + (rowA rs j).length
theorem upto_le (rs : List (List (Int × Int))) (j d : Nat) : upto rs j ≤ upto rs (j + d) := by
  induction d with
  | zero => exact Nat.le_refl _
  | succ d ih => rw [← Nat.add_assoc]; simp only [upto]; omega
theorem row_le (rs : List (List (Int × Int))) {i n : Nat} (h : i < n) : (rowA rs i).length + rs.length ≤ upto rs n := by
  have h1 := upto_le rs (i + 1) (n - (i + 1))
  rw [show i + 1 + (n - (i + 1)) = n by omega] at h1
  have h2 := upto_le rs 0 i
  simp only [upto, Nat.zero_add] at h1 h2
  omega

set_option maxHeartbeats 1000000 in
theorem szRows (a : Option Addr) (c : Nat) (rs : List (List (Int × Int))) (left : Int) (w : World) (h : SeesS w a c rs) (hl : 0 ≤ left ∧ left ≤ 1048576) :
    Calls Tryz.prog 30 #[.slice a rs.length c, .int .i64 left] w fun e w' => ∃ z : Int, e = .returned (.int .i64 z) ∧ (z = -1 ∨ (0 ≤ z ∧ z + (upto rs rs.length : Nat) = left)) ∧ w' = w := by
  obtain ⟨h1, h2⟩ := hl
  have hm := h.max
  have hf := h.fits
  unfold maxLen at hm
  by_cases hc : left - rs.length < 0
  · go_enter Tryz.func30, Tryz.ntmps30
    go_wp2
    go_ret
    exact ⟨-1, rfl, .inl rfl, rfl⟩
  · have hc' : 0 ≤ left - rs.length := by omega
    go_enter Tryz.func30, Tryz.ntmps30
    go_wp2
    go_loop [1, 5] (fun s1 s5 => ∃ (j : Nat) (z : Int), j ≤ rs.length ∧ s5 = .int .i64 j ∧ s1 = .int .i64 z ∧ 0 ≤ z ∧ z ≤ 1048576 ∧ Hid (z + (upto rs j : Nat) = left)) (fun _ s5 => rs.length - (intOf s5).toNat)
    case atStart => exact ⟨0, _, Nat.zero_le _, rfl, rfl, hc', by omega, by show _ = _; simp only [upto]; omega⟩
    case round =>
      obtain ⟨j, z, hj, rfl, rfl, z0, z1, he⟩ := hrel
      by_cases hlt : j < rs.length
      · obtain ⟨b, off, rfl, hc⟩ := h.cells (by intro e; simp [e] at hlt)
        obtain ⟨a', c', g1, sp⟩ := hc j hlt
        have spm := sp.max
        have spf := sp.fits
        unfold maxLen at spm
        have HE : Hid (upto rs (j + 1) = upto rs j + (rowA rs j).length) := rfl
        clear hc sp
        generalize (rowA rs j).length = m at *
        by_cases hz : z - m < 0
        · go_wp2_with (go_at_call 46; refine (szPts _ _ _ _ _ ⟨z0, z1⟩ (by omega)).mono ?_; rintro e w' ⟨rfl, rfl⟩; rw [if_pos hz])
          go_ret
          exact ⟨-1, rfl, .inl rfl, rfl⟩
        · have hz' : 0 ≤ z - m := by omega
          go_wp2_with (go_at_call 46; refine (szPts _ _ _ _ _ ⟨z0, z1⟩ (by omega)).mono ?_; rintro e w' ⟨rfl, rfl⟩; rw [if_neg hz])
          go_round
          case rel => exact ⟨j + 1, z - m, by omega, by go_num, rfl, hz', by omega, by have := he.out; have := HE.out; show _ = _; omega⟩
          case measure => simp [intOf]; omega
      · obtain rfl : j = rs.length := by omega
        have HE := he
        clear he
        go_wp2
        go_ret
        exact ⟨z, rfl, .inr ⟨z0, HE.out⟩, rfl⟩

set_option maxHeartbeats 1000000 in
theorem szShape_any (k : Int) (a : Option Addr) (c : Nat) (rs : List (List (Int × Int))) (left : Int) (w : World) (h : SeesS w a c rs) (hl : 0 ≤ left ∧ left ≤ 1048576) :
    Calls Tryz.prog 15 #[.agg #[.int .i64 k, .slice a rs.length c], .int .i64 left] w fun e w' => ∃ z : Int, e = .returned (.int .i64 z) ∧ (z = -1 ∨ (0 ≤ z ∧ z + (upto rs rs.length : Nat) = left)) ∧ Below w.heap.size w w' := by
  have bn := below1 w (.cells #[.int .i64 k, .slice a rs.length c] 43)
  go_enter Tryz.func15, Tryz.ntmps15
  go_wp2_with fail
  refine (szRows a c rs left _ (h.below bn) hl).mono ?_
  rintro e w1 ⟨z, rfl, hz, rfl⟩
  have HZ : Hid (z = -1 ∨ (0 ≤ z ∧ z + (upto rs rs.length : Nat) = left)) := hz
  by_cases h0 : z < 0
  · clear hz
    go_wp2
    go_ret
    exact ⟨-1, rfl, .inl rfl, bn⟩
  · have h0' : 0 ≤ z := by omega
    clear hz
    go_wp2
    go_ret
    exact ⟨z, rfl, HZ.out, bn⟩
end Go.Proofs.YtecjeomcbcpfiaaGreat

/- A shape within the program: its figure (an interface with a type for each kind) and its limits. -/
namespace Go.Proofs.YtecjeomcbcpfiaaGreat
open Go.RowKit

/-- The type of a kind's figure. -/
def figT (k : Int) : Nat := if k = 1 then 125 else if k = 2 then 126 else if k = 3 then 127 else if k = 4 then 128 else 112
/-- How many rows a kind has at most. -/
def limR (k : Int) : Int := if sevN k then 12 else 1
def figV (k : Int) (v : Value) : Value := if 1 ≤ k ∧ k ≤ 5 then .iface (figT k) (.agg #[v]) else .nilIface

set_option maxRecDepth 20000 in
set_option maxHeartbeats 1000000 in
theorem figureOf_any (k : Int) (a : Option Addr) (n c : Nat) (w : World) :
    Calls Tryz.prog 66 #[.agg #[.int .i64 k, .slice a n c]] w fun e w' => e = .returned (figV k (.slice a n c)) ∧ Below w.heap.size w w' := by
  have B0 := below1 w (.cells #[.int .i64 k, .slice a n c] 48)
  have V0 := Box2.new w (lo := w.heap.size) (Nat.le_refl _) (.int .i64 k) (.slice a n c) 48
  obtain ⟨k0, k1, _, _⟩ := id V0
  clear V0
  by_cases h1 : k = 1
  · subst h1
    go_enter Tryz.func66, Tryz.ntmps66
    go_wp2
    go_ret
    exact ⟨rfl, B0⟩
  by_cases h2 : k = 2
  · subst h2
    go_enter Tryz.func66, Tryz.ntmps66
    go_wp2
    go_ret
    exact ⟨rfl, B0⟩
  by_cases h3 : k = 3
  · subst h3
    go_enter Tryz.func66, Tryz.ntmps66
    go_wp2
    go_ret
    exact ⟨rfl, B0⟩
  by_cases h4 : k = 4
  · subst h4
    go_enter Tryz.func66, Tryz.ntmps66
    go_wp2
    go_ret
    exact ⟨rfl, B0⟩
  by_cases h5 : k = 5
  · subst h5
    go_enter Tryz.func66, Tryz.ntmps66
    go_wp2
    go_ret
    exact ⟨rfl, B0⟩
  have e1 : figV k (.slice a n c) = .nilIface := by unfold figV; exact if_neg (by omega)
  rw [e1]
  go_enter Tryz.func66, Tryz.ntmps66
  go_wp2
  go_ret
  exact ⟨rfl, B0⟩

/-- What an assertion to each kind's type answers. -/
theorem as11 (v : Value) (W : World) : (Instr.typeAssert (.iface 125 (.agg #[v])) 107 125 true).run Tryz.prog W = .ok (.tuple #[.agg #[v], .bool true]) W := by kernel_rfl
theorem as12 (v : Value) (W : World) : (Instr.typeAssert (.iface 125 (.agg #[v])) 107 126 true).run Tryz.prog W = .ok (.tuple #[.agg #[.slice none 0 0], .bool false]) W := by kernel_rfl
theorem as13 (v : Value) (W : World) : (Instr.typeAssert (.iface 125 (.agg #[v])) 107 127 true).run Tryz.prog W = .ok (.tuple #[.agg #[.slice none 0 0], .bool false]) W := by kernel_rfl
theorem as14 (v : Value) (W : World) : (Instr.typeAssert (.iface 125 (.agg #[v])) 107 128 true).run Tryz.prog W = .ok (.tuple #[.agg #[.slice none 0 0], .bool false]) W := by kernel_rfl
theorem as15 (v : Value) (W : World) : (Instr.typeAssert (.iface 125 (.agg #[v])) 107 112 true).run Tryz.prog W = .ok (.tuple #[.agg #[.slice none 0 0], .bool false]) W := by kernel_rfl
theorem as21 (v : Value) (W : World) : (Instr.typeAssert (.iface 126 (.agg #[v])) 107 125 true).run Tryz.prog W = .ok (.tuple #[.agg #[.slice none 0 0], .bool false]) W := by kernel_rfl
theorem as22 (v : Value) (W : World) : (Instr.typeAssert (.iface 126 (.agg #[v])) 107 126 true).run Tryz.prog W = .ok (.tuple #[.agg #[v], .bool true]) W := by kernel_rfl
theorem as23 (v : Value) (W : World) : (Instr.typeAssert (.iface 126 (.agg #[v])) 107 127 true).run Tryz.prog W = .ok (.tuple #[.agg #[.slice none 0 0], .bool false]) W := by kernel_rfl
theorem as24 (v : Value) (W : World) : (Instr.typeAssert (.iface 126 (.agg #[v])) 107 128 true).run Tryz.prog W = .ok (.tuple #[.agg #[.slice none 0 0], .bool false]) W := by kernel_rfl
theorem as25 (v : Value) (W : World) : (Instr.typeAssert (.iface 126 (.agg #[v])) 107 112 true).run Tryz.prog W = .ok (.tuple #[.agg #[.slice none 0 0], .bool false]) W := by kernel_rfl
theorem as31 (v : Value) (W : World) : (Instr.typeAssert (.iface 127 (.agg #[v])) 107 125 true).run Tryz.prog W = .ok (.tuple #[.agg #[.slice none 0 0], .bool false]) W := by kernel_rfl
theorem as32 (v : Value) (W : World) : (Instr.typeAssert (.iface 127 (.agg #[v])) 107 126 true).run Tryz.prog W = .ok (.tuple #[.agg #[.slice none 0 0], .bool false]) W := by kernel_rfl
theorem as33 (v : Value) (W : World) : (Instr.typeAssert (.iface 127 (.agg #[v])) 107 127 true).run Tryz.prog W = .ok (.tuple #[.agg #[v], .bool true]) W := by kernel_rfl
theorem as34 (v : Value) (W : World) : (Instr.typeAssert (.iface 127 (.agg #[v])) 107 128 true).run Tryz.prog W = .ok (.tuple #[.agg #[.slice none 0 0], .bool false]) W := by kernel_rfl
theorem as35 (v : Value) (W : World) : (Instr.typeAssert (.iface 127 (.agg #[v])) 107 112 true).run Tryz.prog W = .ok (.tuple #[.agg #[.slice none 0 0], .bool false]) W := by kernel_rfl
theorem as41 (v : Value) (W : World) : (Instr.typeAssert (.iface 128 (.agg #[v])) 107 125 true).run Tryz.prog W = .ok (.tuple #[.agg #[.slice none 0 0], .bool false]) W := by kernel_rfl
theorem as42 (v : Value) (W : World) : (Instr.typeAssert (.iface 128 (.agg #[v])) 107 126 true).run Tryz.prog W = .ok (.tuple #[.agg #[.slice none 0 0], .bool false]) W := by kernel_rfl
theorem as43 (v : Value) (W : World) : (Instr.typeAssert (.iface 128 (.agg #[v])) 107 127 true).run Tryz.prog W = .ok (.tuple #[.agg #[.slice none 0 0], .bool false]) W := by kernel_rfl
theorem as44 (v : Value) (W : World) : (Instr.typeAssert (.iface 128 (.agg #[v])) 107 128 true).run Tryz.prog W = .ok (.tuple #[.agg #[v], .bool true]) W := by kernel_rfl
theorem as45 (v : Value) (W : World) : (Instr.typeAssert (.iface 128 (.agg #[v])) 107 112 true).run Tryz.prog W = .ok (.tuple #[.agg #[.slice none 0 0], .bool false]) W := by kernel_rfl
theorem as51 (v : Value) (W : World) : (Instr.typeAssert (.iface 112 (.agg #[v])) 107 125 true).run Tryz.prog W = .ok (.tuple #[.agg #[.slice none 0 0], .bool false]) W := by kernel_rfl
theorem as52 (v : Value) (W : World) : (Instr.typeAssert (.iface 112 (.agg #[v])) 107 126 true).run Tryz.prog W = .ok (.tuple #[.agg #[.slice none 0 0], .bool false]) W := by kernel_rfl
theorem as53 (v : Value) (W : World) : (Instr.typeAssert (.iface 112 (.agg #[v])) 107 127 true).run Tryz.prog W = .ok (.tuple #[.agg #[.slice none 0 0], .bool false]) W := by kernel_rfl
theorem as54 (v : Value) (W : World) : (Instr.typeAssert (.iface 112 (.agg #[v])) 107 128 true).run Tryz.prog W = .ok (.tuple #[.agg #[.slice none 0 0], .bool false]) W := by kernel_rfl
theorem as55 (v : Value) (W : World) : (Instr.typeAssert (.iface 112 (.agg #[v])) 107 112 true).run Tryz.prog W = .ok (.tuple #[.agg #[v], .bool true]) W := by kernel_rfl
/-- A kind, one by one. -/
theorem kinds {k : Int} (h : 1 ≤ k ∧ k ≤ 5) : k = 1 ∨ k = 2 ∨ k = 3 ∨ k = 4 ∨ k = 5 := by omega

set_option maxRecDepth 20000 in
set_option maxHeartbeats 1000000 in
theorem limitsOf_any (k : Int) (hk : 1 ≤ k ∧ k ≤ 5) (v : Value) (w : World) :
    Calls Tryz.prog 83 #[.iface (figT k) (.agg #[v])] w fun e w' => e = .returned (.agg #[.int .i64 (limR k), .int .i64 (leastN k), .int .i64 (mostN k)]) ∧ Below w.heap.size w w' := by
  rcases kinds hk with rfl | rfl | rfl | rfl | rfl
  · have q1 := as11 v
    rw [show figT 1 = 125 from rfl, show limR 1 = 1 from rfl, show leastN 1 = 1 from rfl, show mostN 1 = 1 from rfl]
    go_enter Tryz.func83, Tryz.ntmps83
    go_wp2
    go_returns
    exact ⟨rfl, below1 _ _⟩
  · have q1 := as21 v; have q2 := as22 v
    rw [show figT 2 = 126 from rfl, show limR 2 = 1 from rfl, show leastN 2 = 1 from rfl, show mostN 2 = 60 from rfl]
    go_enter Tryz.func83, Tryz.ntmps83
    go_wp2
    go_returns
    exact ⟨rfl, below1 _ _⟩
  · have q1 := as31 v; have q2 := as32 v; have q3 := as33 v
    rw [show figT 3 = 127 from rfl, show limR 3 = 1 from rfl, show leastN 3 = 2 from rfl, show mostN 3 = 60 from rfl]
    go_enter Tryz.func83, Tryz.ntmps83
    go_wp2
    go_returns
    exact ⟨rfl, below1 _ _⟩
  · have q1 := as41 v; have q2 := as42 v; have q3 := as43 v; have q4 := as44 v
    rw [show figT 4 = 128 from rfl, show limR 4 = 12 from rfl, show leastN 4 = 2 from rfl, show mostN 4 = 60 from rfl]
    go_enter Tryz.func83, Tryz.ntmps83
    go_wp2
    go_returns
    exact ⟨rfl, below1 _ _⟩
  · have q1 := as51 v; have q2 := as52 v; have q3 := as53 v; have q4 := as54 v; have q5 := as55 v
    rw [show figT 5 = 112 from rfl, show limR 5 = 12 from rfl, show leastN 5 = 3 from rfl, show mostN 5 = 60 from rfl]
    go_enter Tryz.func83, Tryz.ntmps83
    go_wp2
    go_returns
    exact ⟨rfl, below1 _ _⟩
end Go.Proofs.YtecjeomcbcpfiaaGreat

/- A ring's own faults, of the specification (l5Ring): the first ring. -/
namespace Go.Proofs.YtecjeomcbcpfiaaGreat
open Go.RowKit

/-- A ring that is simple and turns to the left. -/
def firstB (ps : List (Int × Int)) : Bool := !slf ps ps.length && decide (0 < tw ps ps.length)

set_option maxRecDepth 20000 in
set_option maxHeartbeats 1500000 in
theorem l5Ring_zero (n : Int) (a : Option Addr) (c : Nat) (rs : List (List (Int × Int))) (w : World) (h : SeesS w a c rs) (hr : 0 < rs.length) (ok : okL (rowA rs 0) = true) (hs : (rowA rs 0).length ≤ 60) :
    Calls Tryz.prog 61 #[.agg #[.int .i64 n, .slice a rs.length c], .int .i64 0] w fun e w' => ∃ z x y : Int, e = .returned (.tuple #[.int .i64 z, .int .i64 x, .int .i64 y]) ∧ Hid (decide (z = 0) = firstB (rowA rs 0)) ∧ Below w.heap.size w w' := by
  have hm := h.max
  have hf := h.fits
  unfold maxLen at hm
  have B0 := below1 w (.cells #[.int .i64 n, .slice a rs.length c] 48)
  have V0 := Box2.new w (lo := w.heap.size) (Nat.le_refl _) (.int .i64 n) (.slice a rs.length c) 48
  obtain ⟨b, off, rfl, hc⟩ := (h.below B0).cells (by intro e; simp [e] at hr)
  obtain ⟨a', c', g, P⟩ := hc 0 hr
  rw [Nat.add_zero] at g
  clear hc h
  obtain ⟨k0, k1, _, _⟩ := id V0
  generalize rowA rs 0 = ps at *
  go_enter Tryz.func61, Tryz.ntmps61
  go_wp2_with fail
  generalize w.alloc (.cells #[.int .i64 n, .slice (some ⟨b, off, none⟩) rs.length c] 48) = W at *
  refine (l5Self_any a' c' ps _ P ok).mono ?_
  rintro e w1 ⟨z, rfl, hz, hb⟩
  replace P := P.below hb
  replace B0 := B0.trans (hb.mono B0.size)
  clear hb
  by_cases hz0 : 0 ≤ z
  · have F : Hid (firstB ps = false) := by
      show _ = _
      have := hz.out.1
      rw [decide_eq_true hz0] at this
      unfold firstB
      rw [← this]
      rfl
    clear hz
    go_wp2
    exact bodyPost_ret (v := .tuple #[.int .i64 _, .int .i64 _, .int .i64 _]) (by simp [results, Tryz.results61, go_sem]; exact ⟨rfl, rfl, rfl⟩) rfl ⟨_, _, _, rfl, (by show _ = _; rw [F.out]; rfl), B0⟩
  · have F : Hid (firstB ps = decide (0 < tw ps ps.length)) := by
      show _ = _
      have := hz.out.1
      rw [decide_eq_false hz0] at this
      unfold firstB
      rw [← this]
      rfl
    clear hz
    go_wp2_with fail
    refine (l5Twice_any a' c' ps _ P hs ok).mono ?_
    rintro e w2 ⟨rfl, hb⟩
    replace B0 := B0.trans (hb.mono B0.size)
    clear hb
    generalize tw ps ps.length = t at *
    by_cases ht : t ≤ 0
    · replace F : Hid (firstB ps = false) := by
        show _ = _
        rw [F.out]
        exact decide_eq_false (by omega)
      go_wp2
      exact bodyPost_ret (v := .tuple #[.int .i64 _, .int .i64 _, .int .i64 _]) (by simp [results, Tryz.results61, go_sem]; exact ⟨rfl, rfl, rfl⟩) rfl ⟨_, _, _, rfl, (by show _ = _; rw [F.out]; rfl), B0⟩
    · replace F : Hid (firstB ps = true) := by
        show _ = _
        rw [F.out]
        exact decide_eq_true (by omega)
      go_wp2
      exact bodyPost_ret (v := .tuple #[.int .i64 _, .int .i64 _, .int .i64 _]) (by simp [results, Tryz.results61, go_sem]; exact ⟨rfl, rfl, rfl⟩) rfl ⟨_, _, _, rfl, (by show _ = _; rw [F.out]; rfl), B0⟩
end Go.Proofs.YtecjeomcbcpfiaaGreat

/- The form of a shape's kind: what both ask. -/
namespace Go.Proofs.YtecjeomcbcpfiaaGreat

/-- A point of a row is the one before; an area's first point is its last. -/
def sameAt (k : Int) (ps : List (Int × Int)) : Nat → Bool
  | 0 => decide (k = 5) && (decide ((ptA ps 0).1 = (ptA ps (ps.length - 1)).1) && decide ((ptA ps 0).2 = (ptA ps (ps.length - 1)).2))
  | m + 1 => decide ((ptA ps (m + 1)).1 = (ptA ps m).1) && decide ((ptA ps (m + 1)).2 = (ptA ps m).2)
def ptBad (k : Int) (ps : List (Int × Int)) (i : Nat) : Bool := !ptOk (ptA ps i).1 (ptA ps i).2 || (sameAt k ps i && decide (3 ≤ k))
def rowBad (k : Int) (ps : List (Int × Int)) : Nat → Bool
  | 0 => false
  | i + 1 => rowBad k ps i || ptBad k ps i
def rowF (k : Int) (ps : List (Int × Int)) : Bool := !inB ps.length (leastN k) (mostN k) || rowBad k ps ps.length
def rowsBad (k : Int) (rs : List (List (Int × Int))) : Nat → Bool
  | 0 => false
  | j + 1 => rowsBad k rs j || rowF k (rowA rs j)
def formB (k : Int) (rs : List (List (Int × Int))) : Bool :=
  !(decide (mostN k < 0) || (!inB rs.length 1 12 || ((!sevN k && decide (1 < rs.length)) || rowsBad k rs rs.length)))
theorem rowBad_mono {k : Int} {ps : List (Int × Int)} : ∀ {i m : Nat}, i ≤ m → rowBad k ps i = true → rowBad k ps m = true
  | i, 0, h, e => by obtain rfl : i = 0 := by omega
                     exact e
  | i, m + 1, h, e => by
    rcases Nat.lt_or_ge m i with c | c
    · obtain rfl : i = m + 1 := by omega
      exact e
    · simp only [rowBad]
      rw [rowBad_mono c e]
      rfl
theorem rowsBad_mono {k : Int} {rs : List (List (Int × Int))} : ∀ {i m : Nat}, i ≤ m → rowsBad k rs i = true → rowsBad k rs m = true
  | i, 0, h, e => by obtain rfl : i = 0 := by omega
                     exact e
  | i, m + 1, h, e => by
    rcases Nat.lt_or_ge m i with c | c
    · obtain rfl : i = m + 1 := by omega
      exact e
    · simp only [rowsBad]
      rw [rowsBad_mono c e]
      rfl
theorem rowF_found {k : Int} {ps : List (Int × Int)} {i : Nat} (hi : i < ps.length) (h : ptBad k ps i = true) : rowF k ps = true := by
  have := rowBad_mono (show i + 1 ≤ ps.length by omega) (show rowBad k ps (i + 1) = true by simp only [rowBad]; rw [h]; simp)
  unfold rowF
  rw [this]
  simp
theorem rows_found {k : Int} {rs : List (List (Int × Int))} {j : Nat} (hj : j < rs.length) (h : rowF k (rowA rs j) = true) : rowsBad k rs rs.length = true :=
  rowsBad_mono (show j + 1 ≤ rs.length by omega) (by simp only [rowsBad]; rw [h]; simp)
theorem rowBad_step {k : Int} {ps : List (Int × Int)} {i : Nat} (h : rowBad k ps i = false) (hb : ptBad k ps i = false) : rowBad k ps (i + 1) = false := by simp only [rowBad]; rw [h, hb]; rfl
theorem rowsBad_step {k : Int} {rs : List (List (Int × Int))} {i : Nat} (h : rowsBad k rs i = false) (hb : rowF k (rowA rs i) = false) : rowsBad k rs (i + 1) = false := by simp only [rowsBad]; rw [h, hb]; rfl
end Go.Proofs.YtecjeomcbcpfiaaGreat
