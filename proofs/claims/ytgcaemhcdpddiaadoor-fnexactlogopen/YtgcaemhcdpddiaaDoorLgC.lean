/- A sector of the log, the specification's side. -/
import Derived.Test.YtgcaemhcdpddiaaDoorLgS
namespace Go.Proofs.YtgcaemhcdpddiaaDoor
open Go.RowKit

/-- The first 60 bytes of a sector of the log. -/
def lgHd (ep nu : Int) (more : Bool) (ps : List Int) : List Int :=
  leB 4 (IntKind.u64.wrap ep) ++ leB 4 (IntKind.u64.wrap nu) ++ [if more then 1 else 2, (ps.length : Int)] ++ List.replicate 6 0 ++ ps ++ List.replicate (44 - ps.length) 0
/-- A sector of the log. -/
def lgSec (ep nu : Int) (more : Bool) (ps : List Int) : List Int := lgHd ep nu more ps ++ leB 4 (IntKind.u64.wrap ((fnv (lgHd ep nu more ps) : Nat) : Int))
theorem leB_u8 {k : Nat} {n x : Int} (h : x ∈ leB k n) : 0 ≤ x ∧ x < 256 := by
  obtain ⟨i, -, rfl⟩ := List.mem_map.1 h
  omega
theorem lgHd_u8 {ep nu : Int} {more : Bool} {ps : List Int} (hp : ps.length ≤ 44) (h : ∀ x ∈ ps, 0 ≤ x ∧ x < 256) : ∀ x ∈ lgHd ep nu more ps, 0 ≤ x ∧ x < 256 := by
  intro x hx
  simp only [lgHd, List.mem_append, List.mem_cons, List.mem_replicate, List.not_mem_nil, or_false] at hx
  rcases hx with ((((hx | hx) | hx) | hx) | hx) | hx
  · exact leB_u8 hx
  · exact leB_u8 hx
  · rcases hx with rfl | rfl
    · split <;> omega
    · omega
  · omega
  · exact h x hx
  · omega
theorem lgHd_len {ep nu : Int} {more : Bool} {ps : List Int} (h : ps.length ≤ 44) : (lgHd ep nu more ps).length = 60 := by
  simp only [lgHd, List.length_append, leB_len, List.length_cons, List.length_nil, List.length_replicate]
  omega
theorem lgSec_len {ep nu : Int} {more : Bool} {ps : List Int} (h : ps.length ≤ 44) : (lgSec ep nu more ps).length = 64 := by
  rw [lgSec, List.length_append, lgHd_len h, leB_len]
theorem lgSec_u8 {ep nu : Int} {more : Bool} {ps : List Int} (hp : ps.length ≤ 44) (h : ∀ x ∈ ps, 0 ≤ x ∧ x < 256) : ∀ x ∈ lgSec ep nu more ps, 0 ≤ x ∧ x < 256 := by
  intro x hx
  rcases List.mem_append.1 hx with hx | hx
  · exact lgHd_u8 hp h x hx
  · exact leB_u8 hx
theorem ne_of_len {α : Type} {xs : List α} {n : Nat} (h : xs.length = n) (hn : 0 < n) : xs ≠ [] := fun e => by rw [e] at h; simp at h; omega

set_option maxRecDepth 20000 in
set_option maxHeartbeats 4000000 in
theorem l12Sector_any (ep nu : Int) (more : Bool) (a : Option Addr) (c : Nat) (ps : List Int) (w : World) (h : SeesB w a c ps) (hp : ps.length ≤ 44) (h8 : ∀ x ∈ ps, 0 ≤ x ∧ x < 256) :
    Calls Tryd.prog 32 #[.int .i64 ep, .int .i64 nu, .bool more, .slice a ps.length c] w fun e w' => ∃ v, e = .returned v ∧ RowB w.heap.size w' v (lgSec ep nu more ps) ∧ Below w.heap.size w w' := by
  have HS : Hid (SeesB w a c ps) := h
  have H8 : Hid (∀ x ∈ lgHd ep nu more ps, 0 ≤ x ∧ x < 256) := lgHd_u8 hp h8
  have HD : Hid (lgHd ep nu more ps = leB 4 (IntKind.u64.wrap ep) ++ leB 4 (IntKind.u64.wrap nu) ++ [if more then 1 else 2, (ps.length : Int)] ++ List.replicate 6 0 ++ ps ++ List.replicate (44 - ps.length) 0) := rfl
  have HL : Hid (lgSec ep nu more ps = lgHd ep nu more ps ++ leB 4 (IntKind.u64.wrap ((fnv (lgHd ep nu more ps) : Nat) : Int))) := rfl
  have HN : Hid ((lgHd ep nu more ps).length = 60) := lgHd_len hp
  have e4 : ((4 : Nat) : Int) = 4 := rfl
  clear h h8
  go_enter Tryd.func32, Tryd.ntmps32
  go_wp2_with fail
  refine (l8Bytes_any ep 4 _ (by omega)).mono ?_
  rintro e w1 ⟨v1, rfl, R1, B1⟩
  go_wp2_with fail
  refine (l8Bytes_any nu 4 _ (by omega)).mono ?_
  rintro e w2 ⟨v2, rfl, R2, B2⟩
  obtain ⟨q2, c2, rfl, -, -⟩ := R2.shape (ne_of_len (leB_len _ _) (by omega))
  replace R1 := R1.below B2
  have B := B1.trans (B2.mono B1.size)
  obtain ⟨v3, w3, hr, R3, G3, -⟩ := appB R1 (ne_of_len (leB_len _ _) (by omega)) R2.seesB (by rw [leB_len, leB_len]; omega) B.size
  rw [leB_len] at hr
  replace B := B.grown G3 B.size (fun k hk => (World.ownsRow.lt R1 k hk).1)
  have L3 : Hid ((leB 4 (IntKind.u64.wrap ep) ++ leB 4 (IntKind.u64.wrap nu)).length = 8) := by show _ = _; rw [List.length_append, leB_len, leB_len]
  generalize HX3 : leB 4 (IntKind.u64.wrap ep) ++ leB 4 (IntKind.u64.wrap nu) = X3 at *
  clear R1 R2 G3 B1 B2
  cases more with
  | false =>
    have bn := below1 w3 (.cells #[.int .u8 2, .int .u8 (ps.length : Int)] 5)
    have SW := sees_two w3 5 2 (ps.length : Int)
    replace R3 := R3.below bn
    replace B := B.trans (bn.mono B.size)
    obtain ⟨v5, w5, hr5, R5, G5, -⟩ := appB R3 (ne_of_len L3.out (by omega)) SW (by rw [L3.out]; simp) B.size
    replace B := B.grown G5 B.size (fun k hk => (World.ownsRow.lt R3 k hk).1)
    have L5 : Hid ((X3 ++ [2, (ps.length : Int)]).length = 10) := by show _ = _; rw [List.length_append, L3.out]; rfl
    generalize HX5 : X3 ++ [2, (ps.length : Int)] = X5 at *
    obtain ⟨v6, w6, hr6, R6, G6, -⟩ := appZ R5 (ne_of_len L5.out (by omega)) 6 (by rw [L5.out]; omega) B.size
    replace B := B.grown G6 B.size (fun k hk => (World.ownsRow.lt R5 k hk).1)
    have L6 : Hid ((X5 ++ List.replicate 6 0).length = 16) := by show _ = _; rw [List.length_append, L5.out]; rfl
    generalize HX6 : X5 ++ List.replicate 6 0 = X6 at *
    obtain ⟨v7, w7, hr7, R7, G7, -⟩ := appB R6 (ne_of_len L6.out (by omega)) (HS.out.below B) (by rw [L6.out]; omega) B.size
    replace B := B.grown G7 B.size (fun k hk => (World.ownsRow.lt R6 k hk).1)
    have L7 : Hid ((X6 ++ ps).length = 16 + ps.length) := by show _ = _; rw [List.length_append, L6.out]
    generalize HX7 : X6 ++ ps = X7 at *
    obtain ⟨v8, w8, hr8, R8, G8, -⟩ := appZ R7 (ne_of_len L7.out (by omega)) (44 - ps.length) (by rw [L7.out]; omega) B.size
    replace B := B.grown G8 B.size (fun k hk => (World.ownsRow.lt R7 k hk).1)
    have e8 : ((44 - ps.length : Nat) : Int) = 44 - (ps.length : Int) := by omega
    rw [e8] at hr8
    have EQ : X7 ++ List.replicate (44 - ps.length) 0 = lgHd ep nu false ps := by rw [← HX7, ← HX6, ← HX5, ← HX3]; rfl
    rw [EQ] at R8
    generalize lgHd ep nu false ps = HH at *
    obtain ⟨q8, c8, rfl, -, -⟩ := R8.shape (ne_of_len HN.out (by omega))
    clear R3 R5 R6 R7 G5 G6 G7 G8 SW bn EQ HX3 HX5 HX6 HX7 L3 L5 L6 L7 HS e8
    go_wp2_with (at_builtin; first | refine Lib.wpList_append_run _ rfl (.tmp 12) (.tmp 14) 22 22 rfl _ _ rfl rfl v3 w3 hr ?_ | refine Lib.wpList_append_run _ rfl (.tmp 17) (.tmp 22) 22 22 rfl _ _ rfl rfl v5 w5 hr5 ?_ | refine Lib.wpList_append_run _ rfl (.tmp 23) (.const (.int .i64 6)) 22 3 rfl _ _ rfl rfl v6 w6 hr6 ?_ | refine Lib.wpList_append_run _ rfl (.tmp 25) (.tmp 26) 22 22 rfl _ _ rfl rfl v7 w7 hr7 ?_ | refine Lib.wpList_append_run _ rfl (.tmp 27) (.tmp 30) 22 3 rfl _ _ rfl rfl _ w8 hr8 ?_)
    refine (l12Sum_any (some ⟨q8, 0, none⟩) c8 HH w8 R8.seesB H8.out).mono ?_
    rintro e w9 ⟨rfl, rfl⟩
    clear hr hr5 hr6 hr7 hr8
    go_wp2_with fail
    refine (l8Bytes_any ((fnv HH : Nat) : Int) 4 _ (by omega)).mono ?_
    rintro e w10 ⟨v10, rfl, R10, B10⟩
    obtain ⟨q10, c10, rfl, -, -⟩ := R10.shape (ne_of_len (leB_len _ _) (by omega))
    replace R8 := R8.below B10
    replace B := B.trans (B10.mono B.size)
    obtain ⟨v11, w11, hr11, R11, G11, -⟩ := appB R8 (ne_of_len HN.out (by omega)) R10.seesB (by rw [leB_len, HN.out]; omega) B.size
    rw [leB_len] at hr11
    replace B := B.grown G11 B.size (fun k hk => (World.ownsRow.lt R8 k hk).1)
    rw [← HL.out] at R11
    clear R8 R10 G11 B10 H8 HD HL
    go_wp2_with (at_builtin; refine Lib.wpList_append_run _ rfl (.tmp 32) (.tmp 35) 22 22 rfl _ _ rfl rfl v11 w11 hr11 ?_)
    go_ret
    exact ⟨_, rfl, R11, B⟩
  | true =>
    have bn := below1 w3 (.cells #[.int .u8 1, .int .u8 (ps.length : Int)] 5)
    have SW := sees_two w3 5 1 (ps.length : Int)
    replace R3 := R3.below bn
    replace B := B.trans (bn.mono B.size)
    obtain ⟨v5, w5, hr5, R5, G5, -⟩ := appB R3 (ne_of_len L3.out (by omega)) SW (by rw [L3.out]; simp) B.size
    replace B := B.grown G5 B.size (fun k hk => (World.ownsRow.lt R3 k hk).1)
    have L5 : Hid ((X3 ++ [1, (ps.length : Int)]).length = 10) := by show _ = _; rw [List.length_append, L3.out]; rfl
    generalize HX5 : X3 ++ [1, (ps.length : Int)] = X5 at *
    obtain ⟨v6, w6, hr6, R6, G6, -⟩ := appZ R5 (ne_of_len L5.out (by omega)) 6 (by rw [L5.out]; omega) B.size
    replace B := B.grown G6 B.size (fun k hk => (World.ownsRow.lt R5 k hk).1)
    have L6 : Hid ((X5 ++ List.replicate 6 0).length = 16) := by show _ = _; rw [List.length_append, L5.out]; rfl
    generalize HX6 : X5 ++ List.replicate 6 0 = X6 at *
    obtain ⟨v7, w7, hr7, R7, G7, -⟩ := appB R6 (ne_of_len L6.out (by omega)) (HS.out.below B) (by rw [L6.out]; omega) B.size
    replace B := B.grown G7 B.size (fun k hk => (World.ownsRow.lt R6 k hk).1)
    have L7 : Hid ((X6 ++ ps).length = 16 + ps.length) := by show _ = _; rw [List.length_append, L6.out]
    generalize HX7 : X6 ++ ps = X7 at *
    obtain ⟨v8, w8, hr8, R8, G8, -⟩ := appZ R7 (ne_of_len L7.out (by omega)) (44 - ps.length) (by rw [L7.out]; omega) B.size
    replace B := B.grown G8 B.size (fun k hk => (World.ownsRow.lt R7 k hk).1)
    have e8 : ((44 - ps.length : Nat) : Int) = 44 - (ps.length : Int) := by omega
    rw [e8] at hr8
    have EQ : X7 ++ List.replicate (44 - ps.length) 0 = lgHd ep nu true ps := by rw [← HX7, ← HX6, ← HX5, ← HX3]; rfl
    rw [EQ] at R8
    generalize lgHd ep nu true ps = HH at *
    obtain ⟨q8, c8, rfl, -, -⟩ := R8.shape (ne_of_len HN.out (by omega))
    clear R3 R5 R6 R7 G5 G6 G7 G8 SW bn EQ HX3 HX5 HX6 HX7 L3 L5 L6 L7 HS e8
    go_wp2_with (at_builtin; first | refine Lib.wpList_append_run _ rfl (.tmp 12) (.tmp 14) 22 22 rfl _ _ rfl rfl v3 w3 hr ?_ | refine Lib.wpList_append_run _ rfl (.tmp 17) (.tmp 22) 22 22 rfl _ _ rfl rfl v5 w5 hr5 ?_ | refine Lib.wpList_append_run _ rfl (.tmp 23) (.const (.int .i64 6)) 22 3 rfl _ _ rfl rfl v6 w6 hr6 ?_ | refine Lib.wpList_append_run _ rfl (.tmp 25) (.tmp 26) 22 22 rfl _ _ rfl rfl v7 w7 hr7 ?_ | refine Lib.wpList_append_run _ rfl (.tmp 27) (.tmp 30) 22 3 rfl _ _ rfl rfl _ w8 hr8 ?_)
    refine (l12Sum_any (some ⟨q8, 0, none⟩) c8 HH w8 R8.seesB H8.out).mono ?_
    rintro e w9 ⟨rfl, rfl⟩
    clear hr hr5 hr6 hr7 hr8
    go_wp2_with fail
    refine (l8Bytes_any ((fnv HH : Nat) : Int) 4 _ (by omega)).mono ?_
    rintro e w10 ⟨v10, rfl, R10, B10⟩
    obtain ⟨q10, c10, rfl, -, -⟩ := R10.shape (ne_of_len (leB_len _ _) (by omega))
    replace R8 := R8.below B10
    replace B := B.trans (B10.mono B.size)
    obtain ⟨v11, w11, hr11, R11, G11, -⟩ := appB R8 (ne_of_len HN.out (by omega)) R10.seesB (by rw [leB_len, HN.out]; omega) B.size
    rw [leB_len] at hr11
    replace B := B.grown G11 B.size (fun k hk => (World.ownsRow.lt R8 k hk).1)
    rw [← HL.out] at R11
    clear R8 R10 G11 B10 H8 HD HL
    go_wp2_with (at_builtin; refine Lib.wpList_append_run _ rfl (.tmp 32) (.tmp 35) 22 22 rfl _ _ rfl rfl v11 w11 hr11 ?_)
    go_ret
    exact ⟨_, rfl, R11, B⟩
end Go.Proofs.YtgcaemhcdpddiaaDoor
