/- A piece is taken by a scan. -/
import Derived.Test.YtgcaemhcdpddiaaDoorLgI
import Derived.Test.YtgcaemhcdpddiaaDoorEsR
namespace Go.Proofs.YtgcaemhcdpddiaaDoor
open Go.RowKit

/-- A scan's state in memory. -/
structure ScM (b0 lo p : Nat) (w : World) (rv bv : Value) (vs : List (Value × Int)) (s : LgSt) : Prop where
  box : BoxL b0 w p [.int .i64 (s.st : Int), .int .i64 (s.nx : Int), .int .i64 s.le, .int .i64 s.mo, .int .i64 (s.wh : Int), rv, bv]
  out : EsR lo w rv vs s.rc
  row : RowB lo w bv s.bg
  ap : ∀ k, bv.ownBlock = some k → rv.ownBlock ≠ some k ∧ ∀ u ∈ vs, u.1.ownBlock ≠ some k
theorem ScM.below {b0 lo p : Nat} {w w' : World} {rv bv : Value} {vs : List (Value × Int)} {s : LgSt} (h : ScM b0 lo p w rv bv vs s) (hb : Below w.heap.size w w') : ScM b0 lo p w' rv bv vs s :=
  ⟨h.box.below hb, h.out.below hb, h.row.below hb, h.ap⟩
/-- What has come behind a piece. -/
def tkS (s : LgSt) (ep mk : Int) (ps : List Int) : LgSt := if mk = 1 then ⟨1, s.nx + 1, ep, s.mo, s.wh, s.rc, s.bg ++ ps⟩ else ⟨0, s.nx + 1, ep, s.mo, s.nx + 1, s.rc ++ [s.bg ++ ps], []⟩

set_option maxRecDepth 20000 in
set_option maxHeartbeats 4000000 in
theorem take_any (b0 lo p : Nat) (rv bv : Value) (vs : List (Value × Int)) (s : LgSt) (ep nu mk : Int) (ad : Addr) (c : Nat) (ps : List Int) (w : World) (M : ScM b0 lo p w rv bv vs s) (hp : p < lo) (hlo : lo ≤ w.heap.size) (h : SeesB w (some ad) c ps) (hap : ad.block ≠ p) (hps : ps.length ≤ 44) (hnx : s.nx ≤ 400) (hbg : s.bg.length ≤ 20000) (hrc : s.rc.length ≤ 400) :
    Calls Tryd.prog 46 #[.pointer (some ⟨p, 0, none⟩), .agg #[.int .i64 ep, .int .i64 nu, .int .u8 mk, .slice (some ad) ps.length c]] w fun e w' => e = .returned (.tuple #[]) ∧ (∃ rv' bv' vs', ScM b0 lo p w' rv' bv' vs' (tkS s ep mk ps)) ∧ Below p w w' := by
  obtain ⟨i8, hi8, hy0, hy1, hy2⟩ := info_parts infoB
  obtain ⟨iR, hiR, hR0, hR1, hR2⟩ := info_parts infoEs2
  obtain ⟨st, nx, le, mo, wh, rc, bg⟩ := s
  obtain ⟨BX, OU, RW, ap⟩ := M
  dsimp only at BX OU RW hnx hbg hrc
  have AP : Hid (∀ k, bv.ownBlock = some k → rv.ownBlock ≠ some k ∧ ∀ u ∈ vs, u.1.ownBlock ≠ some k) := ap
  have LB : Hid (∀ k, bv.ownBlock = some k → lo ≤ k ∧ k < w.heap.size) := fun k hk => World.ownsRow.lt RW k hk
  have LO : Hid ((∀ k, rv.ownBlock = some k → k < w.heap.size) ∧ ∀ u ∈ vs, ∀ k, u.1.ownBlock = some k → k < w.heap.size) := ⟨fun k hk => (OU.lts.1 k hk).2, fun u hu k hk => (OU.lts.2 u hu k hk).2⟩
  obtain ⟨ba, bc, rfl, _, _⟩ := RW.shape'
  obtain ⟨bn, HBN⟩ : ∃ x, Hid (bg ++ ps = x) := ⟨_, rfl⟩
  have b1 := below1 w (.cells #[.int .i64 ep, .int .i64 nu, .int .u8 mk, .slice (some ad) ps.length c] 87)
  have KB : BoxL w.heap.size (w.alloc (.cells #[.int .i64 ep, .int .i64 nu, .int .u8 mk, .slice (some ad) ps.length c] 87)) w.heap.size [.int .i64 ep, .int .i64 nu, .int .u8 mk, .slice (some ad) ps.length c] := BoxL.new w (Nat.le_refl _) _ _
  replace BX := BX.below b1
  replace OU := OU.below b1
  replace RW := RW.below b1
  have SP := h.below b1
  have B : Below p w (w.alloc (.cells #[.int .i64 ep, .int .i64 nu, .int .u8 mk, .slice (some ad) ps.length c] 87)) := b1.mono (by omega)
  have hpw : p < w.heap.size := by omega
  clear b1 h ap
  go_enter Tryd.func46, Tryd.ntmps46
  go_upto_region 1 with fail
  generalize w.alloc (.cells #[.int .i64 ep, .int .i64 nu, .int .u8 mk, .slice (some ad) ps.length c] 87) = w0 at *
  have x1 := BX.c 1 _ rfl
  have x2 := BX.c 2 _ rfl
  have xf := BX.fr
  have k0 := KB.c 0 _ rfl
  have gq := grownBy_setCell (p := ⟨p, 2, none⟩) (grownBy_setCell (p := ⟨p, 1, none⟩) (grownBy_refl w0 (some p)) rfl (.int .i64 ((nx : Int) + 1))) rfl (.int .i64 ep)
  have BY : BoxL b0 ((w0.setCell ⟨p, 1, none⟩ (.int .i64 ((nx : Int) + 1))).setCell ⟨p, 2, none⟩ (.int .i64 ep)) p [.int .i64 (st : Int), .int .i64 ((nx : Int) + 1), .int .i64 ep, .int .i64 mo, .int .i64 (wh : Int), rv, .slice ba bg.length bc] := (BX.put 1 (.int .i64 ((nx : Int) + 1)) (by simp)).put 2 (.int .i64 ep) (by simp)
  have KY := KB.grown gq (by intro e; injection e with e; omega)
  have OY := OU.kept gq (fun k hk e => by have := (OU.lts.1 k hk).1; injection e with e; omega) (fun u hu k hk e => by have := (OU.lts.2 u hu k hk).1; injection e with e; omega)
  have RY : RowB lo ((w0.setCell ⟨p, 1, none⟩ (.int .i64 ((nx : Int) + 1))).setCell ⟨p, 2, none⟩ (.int .i64 ep)) (.slice ba bg.length bc) bg := owns_kept' RW gq (fun k hk e => by have := (World.ownsRow.lt RW k hk).1; injection e with e; omega)
  have SY := SP.keptW gq (fun b off _ e => by intro q; injection q with q; injection e with e; subst e; exact hap q.symm)
  have BB := (B.setCell (p := ⟨p, 1, none⟩) (Nat.le_refl _) (.int .i64 ((nx : Int) + 1))).setCell (p := ⟨p, 2, none⟩) (Nat.le_refl _) (.int .i64 ep)
  clear BX KB OU RW SP B gq
  go_wp2_with fail
  generalize (w0.setCell ⟨p, 1, none⟩ (.int .i64 ((nx : Int) + 1))).setCell ⟨p, 2, none⟩ (.int .i64 ep) = X2 at *
  clear x1 x2 xf k0
  have bd := ((Below.refl X2.heap.size X2).drew : Below X2.heap.size X2 _)
  have BX := BY.below bd
  have KB := KY.below bd
  have OU := OY.below bd
  have RW := RY.below bd
  have SP := SY.below bd
  have B : Below p w X2.drew := BB.drew
  clear BY KY OY RY SY BB bd
  have N : X2.drew.cell? ⟨w.heap.size, 3, none⟩ = some (.slice (some ad) ps.length c) := KB.c 3 _ rfl
  refine wp_region_held_drew (S := fun W => W.cell? ⟨w.heap.size, 3, none⟩ = some (.slice (some ad) ps.length c)) (by kernel_rfl) N (fun hHeld => ?_)
  clear hHeld
  generalize X2.drew = ww0 at *
  have KB0 : Hid (w.heap.size ≤ ww0.heap.size) := Nat.le_of_lt KB.lt
  refine takeW (i := 0) (by simp only [List.getElem?_toArray, List.getElem?_cons_zero]; exact rfl) (by kernel_rfl) (by kernel_rfl) (by kernel_rfl) (by exact fun _ _ _ h => h) (by rfl) (by intro wq hSw; go_simp <;> with_reducible rfl) (by assumption) ?_
  try simp only [Act.put, List.setIfInBounds_toArray, List.set_cons_zero, List.set_cons_succ]
  refine takeW (i := 1) (by simp only [List.getElem?_toArray, List.getElem?_cons_succ, List.getElem?_cons_zero]; exact rfl) (by kernel_rfl) (by kernel_rfl) (by kernel_rfl) (by exact fun _ _ _ h => h) (by rfl) (by intro wq hSw; go_simp <;> with_reducible rfl) (by assumption) ?_
  try simp only [Act.put, List.setIfInBounds_toArray, List.set_cons_zero, List.set_cons_succ]
  refine takeW (i := 2) (by simp only [List.getElem?_toArray, List.getElem?_cons_succ, List.getElem?_cons_zero]; exact rfl) (by kernel_rfl) (by kernel_rfl) (by kernel_rfl) (by exact fun _ _ _ h => h) (by rfl) (by intro wq hSw; go_simp <;> with_reducible rfl) (by assumption) ?_
  try simp only [Act.put, List.setIfInBounds_toArray, List.set_cons_zero, List.set_cons_succ]
  refine takeW (i := 3) (by simp only [List.getElem?_toArray, List.getElem?_cons_succ, List.getElem?_cons_zero]; exact rfl) (by kernel_rfl) (by kernel_rfl) (by kernel_rfl) (by exact fun _ _ _ h => h) (by rfl) (by intro wq hSw; go_simp <;> with_reducible rfl) (by assumption) ?_
  try simp only [Act.put, List.setIfInBounds_toArray, List.set_cons_zero, List.set_cons_succ]
  refine takeW (i := 5) (by simp only [List.getElem?_toArray, List.getElem?_cons_succ, List.getElem?_cons_zero]; exact rfl) (by kernel_rfl) (by kernel_rfl) (by kernel_rfl) (by exact fun _ _ _ h => h) (by rfl) (by intro wq hSw; go_simp <;> with_reducible rfl) (by assumption) ?_
  try simp only [Act.put, List.setIfInBounds_toArray, List.set_cons_zero, List.set_cons_succ]
  refine takeW (i := 6) (by simp only [List.getElem?_toArray, List.getElem?_cons_succ, List.getElem?_cons_zero]; exact rfl) (by kernel_rfl) (by kernel_rfl) (by kernel_rfl) (by exact fun _ _ _ h => h) (by rfl) (by intro wq hSw; go_simp <;> with_reducible rfl) (by assumption) ?_
  try simp only [Act.put, List.setIfInBounds_toArray, List.set_cons_zero, List.set_cons_succ]
  refine wpAnyH_ready (rs := [4]) (by kernel_rfl) (by simp) (AllReadyH.cons (by simp only [List.getElem?_toArray, List.getElem?_cons_succ, List.getElem?_cons_zero]; exact rfl) (fun K hK => ?_) AllReadyH.nil)
  have y6 := BX.c 6 _ rfl
  go_simp
  refine hK.out _ _ N (fun hHeld => ?_)
  clear hK K hHeld
  try simp only [Act.put, List.setIfInBounds_toArray, List.set_cons_zero, List.set_cons_succ]
  clear y6
  refine wpAnyH_ready (rs := [7]) (by kernel_rfl) (by simp) (AllReadyH.cons (by simp only [List.getElem?_toArray, List.getElem?_cons_succ, List.getElem?_cons_zero]; exact rfl) (fun K hK => ?_) AllReadyH.nil)
  refine wp_append_at (.tmp 20) (.tmp 22) 22 rfl lo 5 i8 (.int .u8 0) 1 1 Tryd.underlying22 hi8 hy0 hy1 hy2 rfl (by decide) (.slice ba bg.length bc) bg.length (bg.map (Value.int .u8)) rfl RW ad ps.length c (ps.map (Value.int .u8)) rfl (by simp) SP.newsA (ones8 _) (by unfold maxLen; omega) (by omega) (by have := KB.lt; have := KB.lo; omega) ?_
  intro v7 w7 R7 G7 A7
  replace R7 := RowB.app R7
  rw [HBN.out] at R7
  replace R7 : RowB lo w7 v7 bn := R7
  have nb : ∀ k, (Value.slice ba bg.length bc).ownBlock = some k → lo ≤ k ∧ k < w.heap.size := LB.out
  replace BX := BX.grown G7 (fun e => by have := nb _ e; omega)
  replace KB := KB.grown G7 (fun e => by have := nb _ e; omega)
  replace OU := OU.kept G7 (fun k hk e => (AP.out k e).1 hk) (fun u hu k hk e => (AP.out k e).2 u hu hk)
  replace N : w7.cell? ⟨w.heap.size, 3, none⟩ = some (.slice (some ad) ps.length c) := KB.c 3 _ rfl
  have B7 : Below p w w7 := B.grown G7 (by have := B.size; omega) (fun k hk => by have := nb k hk; omega)
  have A7' : Hid (∀ k, v7.ownBlock = some k → rv.ownBlock ≠ some k ∧ ∀ u ∈ vs, u.1.ownBlock ≠ some k) := fun k hk => by
    rcases A7 with e | e
    · rw [e] at hk; exact AP.out k hk
    · rw [e] at hk; injection hk with hk; exact ⟨fun q => by have := LO.out.1 k q; have := KB0.out; omega, fun u hu q => by have := LO.out.2 u hu k q; have := KB0.out; omega⟩
  refine hK.out _ _ N (fun hHeld => ?_)
  clear hK K hHeld
  try simp only [Act.put, List.setIfInBounds_toArray, List.set_cons_zero, List.set_cons_succ]
  obtain ⟨a7, c7, rfl, _, _⟩ := R7.shape'
  clear G7 A7 RW SP B
  refine takeW (i := 8) (by simp only [List.getElem?_toArray, List.getElem?_cons_succ, List.getElem?_cons_zero]; exact rfl) (by kernel_rfl) (by kernel_rfl) (by kernel_rfl) (by exact fun _ _ _ h => h) (by rfl) (by intro wq hSw; go_simp <;> with_reducible rfl) (by assumption) ?_
  try simp only [Act.put, List.setIfInBounds_toArray, List.set_cons_zero, List.set_cons_succ]
  refine takeW (i := 9) (by simp only [List.getElem?_toArray, List.getElem?_cons_succ, List.getElem?_cons_zero]; exact rfl) (by kernel_rfl) (by kernel_rfl) (by kernel_rfl) (by exact fun _ _ _ h => h) (by rfl) (by intro wq hSw; go_simp <;> with_reducible rfl) (by assumption) ?_
  try simp only [Act.put, List.setIfInBounds_toArray, List.set_cons_zero, List.set_cons_succ]
  refine wpAnyH_ready (rs := [10]) (by kernel_rfl) (by simp) (AllReadyH.cons (by simp only [List.getElem?_toArray, List.getElem?_cons_succ, List.getElem?_cons_zero]; exact rfl) (fun K hK => ?_) AllReadyH.nil)
  have y6 := BX.c 6 _ rfl
  have yf := BX.fr 6
  go_simp
  have gq : w7.grownBy (w7.setCell ⟨p, 6, none⟩ (.slice a7 bn.length c7)) (some p) := grownBy_setCell (p := ⟨p, 6, none⟩) (grownBy_refl _ _) rfl _
  replace BX : BoxL b0 _ p [.int .i64 (st : Int), .int .i64 ((nx : Int) + 1), .int .i64 ep, .int .i64 mo, .int .i64 (wh : Int), rv, .slice a7 bn.length c7] := BX.put 6 (.slice a7 bn.length c7) (by simp)
  replace KB := KB.grown gq (by intro e; injection e with e; omega)
  replace OU := OU.kept gq (fun k hk e => by have := (OU.lts.1 k hk).1; injection e with e; omega) (fun u hu k hk e => by have := (OU.lts.2 u hu k hk).1; injection e with e; omega)
  replace R7 : RowB lo (w7.setCell ⟨p, 6, none⟩ (.slice a7 bn.length c7)) (.slice a7 bn.length c7) bn := owns_kept' R7 gq (fun k hk e => by have := (World.ownsRow.lt R7 k hk).1; injection e with e; omega)
  replace B7 := B7.setCell (p := ⟨p, 6, none⟩) (Nat.le_refl _) (.slice a7 bn.length c7)
  replace N : (w7.setCell ⟨p, 6, none⟩ (.slice a7 bn.length c7)).cell? ⟨w.heap.size, 3, none⟩ = some (.slice (some ad) ps.length c) := KB.c 3 _ rfl
  refine hK.out _ _ N (fun hHeld => ?_)
  clear hK K hHeld
  try simp only [Act.put, List.setIfInBounds_toArray, List.set_cons_zero, List.set_cons_succ]
  clear gq y6 yf N
  refine wpAnyH_done (by kernel_rfl) ?_ _
  generalize w7.setCell ⟨p, 6, none⟩ (.slice a7 bn.length c7) = X3 at *
  have hbl : bn.length ≤ 30000 := by rw [← HBN.out, List.length_append]; omega
  have j2 := KB.c 2 _ rfl
  have x0 := BX.c 0 _ rfl
  have xf := BX.fr
  by_cases hmk : mk = 1
  · have hm1 : (mk == 1) = true := by simpa using hmk
    have BY : BoxL b0 (X3.setCell ⟨p, 0, none⟩ (.int .i64 1)) p [.int .i64 ((1 : Nat) : Int), .int .i64 ((nx : Int) + 1), .int .i64 ep, .int .i64 mo, .int .i64 (wh : Int), rv, .slice a7 bn.length c7] := BX.put 0 (.int .i64 1) (by simp)
    have gq : X3.grownBy (X3.setCell ⟨p, 0, none⟩ (.int .i64 1)) (some p) := grownBy_setCell (p := ⟨p, 0, none⟩) (grownBy_refl _ _) rfl _
    have OY := OU.kept gq (fun k hk e => by have := (OU.lts.1 k hk).1; injection e with e; omega) (fun u hu k hk e => by have := (OU.lts.2 u hu k hk).1; injection e with e; omega)
    have RY : RowB lo (X3.setCell ⟨p, 0, none⟩ (.int .i64 1)) (.slice a7 bn.length c7) bn := owns_kept' R7 gq (fun k hk e => by have := (World.ownsRow.lt R7 k hk).1; injection e with e; omega)
    have B8 := B7.setCell (p := ⟨p, 0, none⟩) (Nat.le_refl _) (.int .i64 1)
    have FIN : Hid (∃ rv' bv' vs', ScM b0 lo p (X3.setCell ⟨p, 0, none⟩ (.int .i64 1)) rv' bv' vs' (tkS ⟨st, nx, le, mo, wh, rc, bg⟩ ep mk ps)) := by
      refine ⟨rv, .slice a7 bn.length c7, vs, ?_⟩
      unfold tkS
      rw [if_pos hmk, HBN.out]
      exact ⟨BY, OY, RY, A7'.out⟩
    clear OY RY BX BY OU R7 gq KB hmk
    go_wp2
    exact bodyPost_ret (v := .tuple #[]) (by simp [results, Tryd.results46]) rfl ⟨rfl, FIN.out, B8⟩
  · have hm1 : (mk == 1) = false := by simpa using hmk
    clear x0 xf
    go_wp2_with fail
    have bd := ((Below.refl X3.heap.size X3).drew : Below X3.heap.size X3 _)
    replace BX := BX.below bd
    replace OU := OU.below bd
    replace R7 := R7.below bd
    replace B7 : Below p w X3.drew := B7.drew
    have N : X3.drew.cell? ⟨p, 6, none⟩ = some (.slice a7 bn.length c7) ∧ X3.drew.cell? ⟨p, 1, none⟩ = some (.int .i64 ((nx : Int) + 1)) := ⟨BX.c 6 _ rfl, BX.c 1 _ rfl⟩
    have N0 := N
    clear bd j2 KB
    refine wp_region_held_drew (S := fun W => W.cell? ⟨p, 6, none⟩ = some (.slice a7 bn.length c7) ∧ W.cell? ⟨p, 1, none⟩ = some (.int .i64 ((nx : Int) + 1))) (by kernel_rfl) N (fun hHeld => ?_)
    clear hHeld N0
    obtain ⟨ra, rcp, rfl, _, _⟩ := OU.shape
    generalize X3.drew = ww0 at *
    have hz0 : lo ≤ ww0.heap.size := by have := B7.size; omega
    have hvl : vs.length ≤ 400 := by rw [OU.len.out]; exact hrc
    refine takeW (i := 0) (by simp only [List.getElem?_toArray, List.getElem?_cons_zero]; exact rfl) (by kernel_rfl) (by kernel_rfl) (by kernel_rfl) (by exact fun _ _ _ h => h) (by rfl) (by intro wq hSw; go_simp <;> with_reducible rfl) (by assumption) ?_
    try simp only [Act.put, List.setIfInBounds_toArray, List.set_cons_zero, List.set_cons_succ]
    refine takeW (i := 1) (by simp only [List.getElem?_toArray, List.getElem?_cons_succ, List.getElem?_cons_zero]; exact rfl) (by kernel_rfl) (by kernel_rfl) (by kernel_rfl) (by exact fun _ _ _ h => h) (by rfl) (by intro wq hSw; go_simp <;> with_reducible rfl) (by assumption) ?_
    try simp only [Act.put, List.setIfInBounds_toArray, List.set_cons_zero, List.set_cons_succ]
    refine takeW (i := 2) (by simp only [List.getElem?_toArray, List.getElem?_cons_succ, List.getElem?_cons_zero]; exact rfl) (by kernel_rfl) (by kernel_rfl) (by kernel_rfl) (by exact fun _ _ _ h => h) (by rfl) (by intro wq hSw; go_simp <;> with_reducible rfl) (by assumption) ?_
    try simp only [Act.put, List.setIfInBounds_toArray, List.set_cons_zero, List.set_cons_succ]
    refine takeW (i := 3) (by simp only [List.getElem?_toArray, List.getElem?_cons_succ, List.getElem?_cons_zero]; exact rfl) (by kernel_rfl) (by kernel_rfl) (by kernel_rfl) (by exact fun _ _ _ h => h) (by rfl) (by intro wq hSw; go_simp <;> with_reducible rfl) (by assumption) ?_
    try simp only [Act.put, List.setIfInBounds_toArray, List.set_cons_zero, List.set_cons_succ]
    refine takeW (i := 5) (by simp only [List.getElem?_toArray, List.getElem?_cons_succ, List.getElem?_cons_zero]; exact rfl) (by kernel_rfl) (by kernel_rfl) (by kernel_rfl) (by exact fun _ _ _ h => h) (by rfl) (by intro wq hSw; go_simp <;> with_reducible rfl) (by assumption) ?_
    try simp only [Act.put, List.setIfInBounds_toArray, List.set_cons_zero, List.set_cons_succ]
    refine takeW (i := 6) (by simp only [List.getElem?_toArray, List.getElem?_cons_succ, List.getElem?_cons_zero]; exact rfl) (by kernel_rfl) (by kernel_rfl) (by kernel_rfl) (by exact fun _ _ _ h => h) (by rfl) (by intro wq hSw; go_simp <;> with_reducible rfl) (by assumption) ?_
    try simp only [Act.put, List.setIfInBounds_toArray, List.set_cons_zero, List.set_cons_succ]
    refine takeW (i := 7) (by simp only [List.getElem?_toArray, List.getElem?_cons_succ, List.getElem?_cons_zero]; exact rfl) (by kernel_rfl) (by kernel_rfl) (by kernel_rfl) (by exact fun _ _ _ h => h) (by rfl) (by intro wq hSw; go_simp <;> with_reducible rfl) (by assumption) ?_
    try simp only [Act.put, List.setIfInBounds_toArray, List.set_cons_zero, List.set_cons_succ]
    refine takeW (i := 8) (by simp only [List.getElem?_toArray, List.getElem?_cons_succ, List.getElem?_cons_zero]; exact rfl) (by kernel_rfl) (by kernel_rfl) (by kernel_rfl) (by exact fun _ _ _ h => h) (by rfl) (by intro wq hSw; obtain ⟨hS1, hS2⟩ := hSw; go_simp <;> with_reducible rfl) (by assumption) ?_
    try simp only [Act.put, List.setIfInBounds_toArray, List.set_cons_zero, List.set_cons_succ]
    refine takeW (i := 9) (by simp only [List.getElem?_toArray, List.getElem?_cons_succ, List.getElem?_cons_zero]; exact rfl) (by kernel_rfl) (by kernel_rfl) (by kernel_rfl) (by exact fun _ _ _ h => h) (by rfl) (by intro wq hSw; go_simp <;> with_reducible rfl) (by assumption) ?_
    try simp only [Act.put, List.setIfInBounds_toArray, List.set_cons_zero, List.set_cons_succ]
    refine takeW (i := 10) (by simp only [List.getElem?_toArray, List.getElem?_cons_succ, List.getElem?_cons_zero]; exact rfl) (by kernel_rfl) (by kernel_rfl) (by kernel_rfl) (by exact fun _ _ _ h => h) (by rfl) (by intro wq hSw; go_simp <;> with_reducible rfl) (by assumption) ?_
    try simp only [Act.put, List.setIfInBounds_toArray, List.set_cons_zero, List.set_cons_succ]
    refine takeW (i := 11) (by simp only [List.getElem?_toArray, List.getElem?_cons_succ, List.getElem?_cons_zero]; exact rfl) (by kernel_rfl) (by kernel_rfl) (by kernel_rfl) (by exact fun _ _ _ h => h) (by rfl) (by intro wq hSw; go_simp <;> with_reducible rfl) (by assumption) ?_
    try simp only [Act.put, List.setIfInBounds_toArray, List.set_cons_zero, List.set_cons_succ]
    refine takeW (i := 12) (by simp only [List.getElem?_toArray, List.getElem?_cons_succ, List.getElem?_cons_zero]; exact rfl) (by kernel_rfl) (by kernel_rfl) (by kernel_rfl) (by exact fun _ _ _ h => h) (by rfl) (by intro wq hSw; obtain ⟨hS1, hS2⟩ := hSw; go_simp <;> with_reducible rfl) (by assumption) ?_
    try simp only [Act.put, List.setIfInBounds_toArray, List.set_cons_zero, List.set_cons_succ]
    refine takeW (i := 13) (by simp only [List.getElem?_toArray, List.getElem?_cons_succ, List.getElem?_cons_zero]; exact rfl) (by kernel_rfl) (by kernel_rfl) (by kernel_rfl) (by exact fun _ _ _ h => h) (by rfl) (by intro wq hSw; go_simp <;> with_reducible rfl) (by assumption) ?_
    try simp only [Act.put, List.setIfInBounds_toArray, List.set_cons_zero, List.set_cons_succ]
    refine wpAnyH_ready (rs := [4, 14]) (by kernel_rfl) (by simp) (AllReadyH.cons (by simp only [List.getElem?_toArray, List.getElem?_cons_succ, List.getElem?_cons_zero]; exact rfl) (fun K hK => ?_) (AllReadyH.cons (by simp only [List.getElem?_toArray, List.getElem?_cons_succ, List.getElem?_cons_zero]; exact rfl) (fun K hK => ?_) AllReadyH.nil))
    · have y5 := BX.c 5 _ rfl
      go_simp
      refine hK.out _ _ N (fun hHeld => ?_)
      clear hK K hHeld
      try simp only [Act.put, List.setIfInBounds_toArray, List.set_cons_zero, List.set_cons_succ]
      clear y5
      refine wpAnyH_ready (rs := [14]) (by kernel_rfl) (by simp) (AllReadyH.cons (by simp only [List.getElem?_toArray, List.getElem?_cons_succ, List.getElem?_cons_zero]; exact rfl) (fun K hK => ?_) AllReadyH.nil)
      go_simp
      have bq := below1 ww0 (.cells #[(.slice a7 bn.length c7), .int .i64 ((nx : Int) + 1)] 57)
      have NW := pair_newE ww0 57 (.slice a7 bn.length c7) ((nx : Int) + 1)
      have ulo : ∀ k, (Value.slice a7 bn.length c7).ownBlock = some k → k < ww0.heap.size := fun k hk => (World.ownsRow.lt R7 k hk).2
      replace BX := BX.below bq
      replace OU := OU.below bq
      replace R7 := R7.below bq
      replace B7 := B7.trans (bq.mono (by have := B7.size; omega))
      replace N : (ww0.alloc (.cells #[(.slice a7 bn.length c7), .int .i64 ((nx : Int) + 1)] 57)).cell? ⟨p, 6, none⟩ = some (.slice a7 bn.length c7) ∧ (ww0.alloc (.cells #[(.slice a7 bn.length c7), .int .i64 ((nx : Int) + 1)] 57)).cell? ⟨p, 1, none⟩ = some (.int .i64 ((nx : Int) + 1)) := ⟨BX.c 6 _ rfl, BX.c 1 _ rfl⟩
      have hz3 := bq.size
      refine hK.out _ _ N (fun hHeld => ?_)
      clear hK K hHeld
      try simp only [Act.put, List.setIfInBounds_toArray, List.set_cons_zero, List.set_cons_succ]
      generalize hzA : ww0.heap.size = zA at *
      generalize ww0.alloc (.cells #[(.slice a7 bn.length c7), .int .i64 ((nx : Int) + 1)] 57) = ww3 at *
      clear bq
      refine wpAnyH_ready (rs := [15]) (by kernel_rfl) (by simp) (AllReadyH.cons (by simp only [List.getElem?_toArray, List.getElem?_cons_succ, List.getElem?_cons_zero]; exact rfl) (fun K hK => ?_) AllReadyH.nil)
      refine wp_append_at (.tmp 36) (.tmp 46) 53 rfl lo 57 iR (.agg #[.slice none 0 0, .int .i64 0]) 2 32 Tryd.underlying53 hiR hR0 hR1 hR2 rfl (by decide) (.slice ra vs.length rcp) vs.length (esC vs) rfl OU.own ⟨zA, 0, none⟩ 1 _ [(.slice a7 bn.length c7), .int .i64 ((nx : Int) + 1)] rfl rfl NW (by intro x hx; simp at hx; rcases hx with rfl | rfl <;> rfl) (by unfold maxLen; omega) (by omega) (by omega) ?_
      intro v9 w9 R9 G9 A9
      have nr : ∀ k, (Value.slice ra vs.length rcp).ownBlock = some k → lo ≤ k := fun k hk => (OU.lts.1 k hk).1
      have ON := OU.snoc R7 (fun k hk => ⟨(A7'.out k hk).1, fun e => by
        rcases A9 with q | q
        · rw [q] at e; exact (A7'.out k hk).1 e
        · rw [q] at e; injection e with e; have := ulo k hk; omega, (A7'.out k hk).2⟩) R9 G9 A9
      replace BX := BX.grown G9 (fun e => by have := nr _ e; omega)
      replace B7 : Below p w w9 := B7.grown G9 (by have := B7.size; omega) (fun k hk => by have := nr k hk; omega)
      replace N : w9.cell? ⟨p, 6, none⟩ = some (.slice a7 bn.length c7) ∧ w9.cell? ⟨p, 1, none⟩ = some (.int .i64 ((nx : Int) + 1)) := ⟨BX.c 6 _ rfl, BX.c 1 _ rfl⟩
      refine hK.out _ _ N (fun hHeld => ?_)
      clear hK K hHeld
      try simp only [Act.put, List.setIfInBounds_toArray, List.set_cons_zero, List.set_cons_succ]
      obtain ⟨a9, c9, rfl, _, _⟩ := ON.shape
      rw [List.length_append, List.length_singleton] at ON
      try rw [List.length_append, List.length_singleton]
      clear G9 A9 R9 R7 OU NW
      refine takeW (i := 16) (by simp only [List.getElem?_toArray, List.getElem?_cons_succ, List.getElem?_cons_zero]; exact rfl) (by kernel_rfl) (by kernel_rfl) (by kernel_rfl) (by exact fun _ _ _ h => h) (by rfl) (by intro wq hSw; go_simp <;> with_reducible rfl) (by assumption) ?_
      try simp only [Act.put, List.setIfInBounds_toArray, List.set_cons_zero, List.set_cons_succ]
      refine takeW (i := 17) (by simp only [List.getElem?_toArray, List.getElem?_cons_succ, List.getElem?_cons_zero]; exact rfl) (by kernel_rfl) (by kernel_rfl) (by kernel_rfl) (by exact fun _ _ _ h => h) (by rfl) (by intro wq hSw; go_simp <;> with_reducible rfl) (by assumption) ?_
      try simp only [Act.put, List.setIfInBounds_toArray, List.set_cons_zero, List.set_cons_succ]
      refine wpAnyH_ready (rs := [18]) (by kernel_rfl) (by simp) (AllReadyH.cons (by simp only [List.getElem?_toArray, List.getElem?_cons_succ, List.getElem?_cons_zero]; exact rfl) (fun K hK => ?_) AllReadyH.nil)
      have y5 := BX.c 5 _ rfl
      have yf := BX.fr 5
      go_simp
      have gq : w9.grownBy (w9.setCell ⟨p, 5, none⟩ (.slice a9 (vs.length + 1) c9)) (some p) := grownBy_setCell (p := ⟨p, 5, none⟩) (grownBy_refl _ _) rfl _
      replace BX := BX.put 5 (.slice a9 (vs.length + 1) c9) (by simp)
      replace ON := ON.kept gq (fun k hk e => by have := (ON.lts.1 k hk).1; injection e with e; omega) (fun u hu k hk e => by have := (ON.lts.2 u hu k hk).1; injection e with e; omega)
      replace B7 := B7.setCell (p := ⟨p, 5, none⟩) (Nat.le_refl _) (.slice a9 (vs.length + 1) c9)
      replace N : (w9.setCell ⟨p, 5, none⟩ (.slice a9 (vs.length + 1) c9)).cell? ⟨p, 6, none⟩ = some (.slice a7 bn.length c7) ∧ (w9.setCell ⟨p, 5, none⟩ (.slice a9 (vs.length + 1) c9)).cell? ⟨p, 1, none⟩ = some (.int .i64 ((nx : Int) + 1)) := ⟨BX.c 6 _ rfl, BX.c 1 _ rfl⟩
      refine hK.out _ _ N (fun hHeld => ?_)
      clear hK K hHeld
      try simp only [Act.put, List.setIfInBounds_toArray, List.set_cons_zero, List.set_cons_succ]
      clear gq y5 yf N
      refine wpAnyH_done (by kernel_rfl) ?_ _
      generalize w9.setCell ⟨p, 5, none⟩ (.slice a9 (vs.length + 1) c9) = X6 at *
      replace BX : BoxL b0 X6 p [.int .i64 (st : Int), .int .i64 ((nx : Int) + 1), .int .i64 ep, .int .i64 mo, .int .i64 (wh : Int), .slice a9 (vs.length + 1) c9, .slice a7 bn.length c7] := BX
      have BY := ((BX.put 0 (.int .i64 0) (by simp)).put 4 (.int .i64 ((nx : Int) + 1)) (by simp)).put 6 (.slice none 0 0) (by simp)
      have x1 := BX.c 1 _ rfl
      have x0 := BX.c 0 _ rfl
      have x4 := BX.c 4 _ rfl
      have x6 := BX.c 6 _ rfl
      have xf := BX.fr
      have gq := grownBy_setCell (p := ⟨p, 6, none⟩) (grownBy_setCell (p := ⟨p, 4, none⟩) (grownBy_setCell (p := ⟨p, 0, none⟩) (grownBy_refl X6 (some p)) rfl (.int .i64 0)) rfl (.int .i64 ((nx : Int) + 1))) rfl (.slice none 0 0)
      have OY := ON.kept gq (fun k hk e => by have := (ON.lts.1 k hk).1; injection e with e; omega) (fun u hu k hk e => by have := (ON.lts.2 u hu k hk).1; injection e with e; omega)
      have B8 := ((B7.setCell (p := ⟨p, 0, none⟩) (Nat.le_refl _) (.int .i64 0)).setCell (p := ⟨p, 4, none⟩) (Nat.le_refl _) (.int .i64 ((nx : Int) + 1))).setCell (p := ⟨p, 6, none⟩) (Nat.le_refl _) (.slice none 0 0)
      have FIN : Hid (∃ rv' bv' vs', ScM b0 lo p (((X6.setCell ⟨p, 0, none⟩ (.int .i64 0)).setCell ⟨p, 4, none⟩ (.int .i64 ((nx : Int) + 1))).setCell ⟨p, 6, none⟩ (.slice none 0 0)) rv' bv' vs' (tkS ⟨st, nx, le, mo, wh, rc, bg⟩ ep mk ps)) := by
        refine ⟨.slice a9 (vs.length + 1) c9, .slice none 0 0, vs ++ [(.slice a7 bn.length c7, (nx : Int) + 1)], ?_⟩
        unfold tkS
        rw [if_neg hmk, HBN.out]
        exact ⟨BY, OY, RowB.nil _ _, fun k hk => by cases hk⟩
      clear OY BX BY ON gq B7
      go_wp2
      exact bodyPost_end (results_none Tryd.results46 _ _ _) rfl ⟨rfl, FIN.out, B8⟩
    · go_simp
      have bq := below1 ww0 (.cells #[(.slice a7 bn.length c7), .int .i64 ((nx : Int) + 1)] 57)
      have NW := pair_newE ww0 57 (.slice a7 bn.length c7) ((nx : Int) + 1)
      have ulo : ∀ k, (Value.slice a7 bn.length c7).ownBlock = some k → k < ww0.heap.size := fun k hk => (World.ownsRow.lt R7 k hk).2
      replace BX := BX.below bq
      replace OU := OU.below bq
      replace R7 := R7.below bq
      replace B7 := B7.trans (bq.mono (by have := B7.size; omega))
      replace N : (ww0.alloc (.cells #[(.slice a7 bn.length c7), .int .i64 ((nx : Int) + 1)] 57)).cell? ⟨p, 6, none⟩ = some (.slice a7 bn.length c7) ∧ (ww0.alloc (.cells #[(.slice a7 bn.length c7), .int .i64 ((nx : Int) + 1)] 57)).cell? ⟨p, 1, none⟩ = some (.int .i64 ((nx : Int) + 1)) := ⟨BX.c 6 _ rfl, BX.c 1 _ rfl⟩
      have hz3 := bq.size
      refine hK.out _ _ N (fun hHeld => ?_)
      clear hK K hHeld
      try simp only [Act.put, List.setIfInBounds_toArray, List.set_cons_zero, List.set_cons_succ]
      generalize hzA : ww0.heap.size = zA at *
      generalize ww0.alloc (.cells #[(.slice a7 bn.length c7), .int .i64 ((nx : Int) + 1)] 57) = ww3 at *
      clear bq
      refine wpAnyH_ready (rs := [4]) (by kernel_rfl) (by simp) (AllReadyH.cons (by simp only [List.getElem?_toArray, List.getElem?_cons_succ, List.getElem?_cons_zero]; exact rfl) (fun K hK => ?_) AllReadyH.nil)
      have y5 := BX.c 5 _ rfl
      go_simp
      refine hK.out _ _ N (fun hHeld => ?_)
      clear hK K hHeld
      try simp only [Act.put, List.setIfInBounds_toArray, List.set_cons_zero, List.set_cons_succ]
      clear y5
      refine wpAnyH_ready (rs := [15]) (by kernel_rfl) (by simp) (AllReadyH.cons (by simp only [List.getElem?_toArray, List.getElem?_cons_succ, List.getElem?_cons_zero]; exact rfl) (fun K hK => ?_) AllReadyH.nil)
      refine wp_append_at (.tmp 36) (.tmp 46) 53 rfl lo 57 iR (.agg #[.slice none 0 0, .int .i64 0]) 2 32 Tryd.underlying53 hiR hR0 hR1 hR2 rfl (by decide) (.slice ra vs.length rcp) vs.length (esC vs) rfl OU.own ⟨zA, 0, none⟩ 1 _ [(.slice a7 bn.length c7), .int .i64 ((nx : Int) + 1)] rfl rfl NW (by intro x hx; simp at hx; rcases hx with rfl | rfl <;> rfl) (by unfold maxLen; omega) (by omega) (by omega) ?_
      intro v9 w9 R9 G9 A9
      have nr : ∀ k, (Value.slice ra vs.length rcp).ownBlock = some k → lo ≤ k := fun k hk => (OU.lts.1 k hk).1
      have ON := OU.snoc R7 (fun k hk => ⟨(A7'.out k hk).1, fun e => by
        rcases A9 with q | q
        · rw [q] at e; exact (A7'.out k hk).1 e
        · rw [q] at e; injection e with e; have := ulo k hk; omega, (A7'.out k hk).2⟩) R9 G9 A9
      replace BX := BX.grown G9 (fun e => by have := nr _ e; omega)
      replace B7 : Below p w w9 := B7.grown G9 (by have := B7.size; omega) (fun k hk => by have := nr k hk; omega)
      replace N : w9.cell? ⟨p, 6, none⟩ = some (.slice a7 bn.length c7) ∧ w9.cell? ⟨p, 1, none⟩ = some (.int .i64 ((nx : Int) + 1)) := ⟨BX.c 6 _ rfl, BX.c 1 _ rfl⟩
      refine hK.out _ _ N (fun hHeld => ?_)
      clear hK K hHeld
      try simp only [Act.put, List.setIfInBounds_toArray, List.set_cons_zero, List.set_cons_succ]
      obtain ⟨a9, c9, rfl, _, _⟩ := ON.shape
      rw [List.length_append, List.length_singleton] at ON
      try rw [List.length_append, List.length_singleton]
      clear G9 A9 R9 R7 OU NW
      refine takeW (i := 16) (by simp only [List.getElem?_toArray, List.getElem?_cons_succ, List.getElem?_cons_zero]; exact rfl) (by kernel_rfl) (by kernel_rfl) (by kernel_rfl) (by exact fun _ _ _ h => h) (by rfl) (by intro wq hSw; go_simp <;> with_reducible rfl) (by assumption) ?_
      try simp only [Act.put, List.setIfInBounds_toArray, List.set_cons_zero, List.set_cons_succ]
      refine takeW (i := 17) (by simp only [List.getElem?_toArray, List.getElem?_cons_succ, List.getElem?_cons_zero]; exact rfl) (by kernel_rfl) (by kernel_rfl) (by kernel_rfl) (by exact fun _ _ _ h => h) (by rfl) (by intro wq hSw; go_simp <;> with_reducible rfl) (by assumption) ?_
      try simp only [Act.put, List.setIfInBounds_toArray, List.set_cons_zero, List.set_cons_succ]
      refine wpAnyH_ready (rs := [18]) (by kernel_rfl) (by simp) (AllReadyH.cons (by simp only [List.getElem?_toArray, List.getElem?_cons_succ, List.getElem?_cons_zero]; exact rfl) (fun K hK => ?_) AllReadyH.nil)
      have y5 := BX.c 5 _ rfl
      have yf := BX.fr 5
      go_simp
      have gq : w9.grownBy (w9.setCell ⟨p, 5, none⟩ (.slice a9 (vs.length + 1) c9)) (some p) := grownBy_setCell (p := ⟨p, 5, none⟩) (grownBy_refl _ _) rfl _
      replace BX := BX.put 5 (.slice a9 (vs.length + 1) c9) (by simp)
      replace ON := ON.kept gq (fun k hk e => by have := (ON.lts.1 k hk).1; injection e with e; omega) (fun u hu k hk e => by have := (ON.lts.2 u hu k hk).1; injection e with e; omega)
      replace B7 := B7.setCell (p := ⟨p, 5, none⟩) (Nat.le_refl _) (.slice a9 (vs.length + 1) c9)
      replace N : (w9.setCell ⟨p, 5, none⟩ (.slice a9 (vs.length + 1) c9)).cell? ⟨p, 6, none⟩ = some (.slice a7 bn.length c7) ∧ (w9.setCell ⟨p, 5, none⟩ (.slice a9 (vs.length + 1) c9)).cell? ⟨p, 1, none⟩ = some (.int .i64 ((nx : Int) + 1)) := ⟨BX.c 6 _ rfl, BX.c 1 _ rfl⟩
      refine hK.out _ _ N (fun hHeld => ?_)
      clear hK K hHeld
      try simp only [Act.put, List.setIfInBounds_toArray, List.set_cons_zero, List.set_cons_succ]
      clear gq y5 yf N
      refine wpAnyH_done (by kernel_rfl) ?_ _
      generalize w9.setCell ⟨p, 5, none⟩ (.slice a9 (vs.length + 1) c9) = X6 at *
      replace BX : BoxL b0 X6 p [.int .i64 (st : Int), .int .i64 ((nx : Int) + 1), .int .i64 ep, .int .i64 mo, .int .i64 (wh : Int), .slice a9 (vs.length + 1) c9, .slice a7 bn.length c7] := BX
      have BY := ((BX.put 0 (.int .i64 0) (by simp)).put 4 (.int .i64 ((nx : Int) + 1)) (by simp)).put 6 (.slice none 0 0) (by simp)
      have x1 := BX.c 1 _ rfl
      have x0 := BX.c 0 _ rfl
      have x4 := BX.c 4 _ rfl
      have x6 := BX.c 6 _ rfl
      have xf := BX.fr
      have gq := grownBy_setCell (p := ⟨p, 6, none⟩) (grownBy_setCell (p := ⟨p, 4, none⟩) (grownBy_setCell (p := ⟨p, 0, none⟩) (grownBy_refl X6 (some p)) rfl (.int .i64 0)) rfl (.int .i64 ((nx : Int) + 1))) rfl (.slice none 0 0)
      have OY := ON.kept gq (fun k hk e => by have := (ON.lts.1 k hk).1; injection e with e; omega) (fun u hu k hk e => by have := (ON.lts.2 u hu k hk).1; injection e with e; omega)
      have B8 := ((B7.setCell (p := ⟨p, 0, none⟩) (Nat.le_refl _) (.int .i64 0)).setCell (p := ⟨p, 4, none⟩) (Nat.le_refl _) (.int .i64 ((nx : Int) + 1))).setCell (p := ⟨p, 6, none⟩) (Nat.le_refl _) (.slice none 0 0)
      have FIN : Hid (∃ rv' bv' vs', ScM b0 lo p (((X6.setCell ⟨p, 0, none⟩ (.int .i64 0)).setCell ⟨p, 4, none⟩ (.int .i64 ((nx : Int) + 1))).setCell ⟨p, 6, none⟩ (.slice none 0 0)) rv' bv' vs' (tkS ⟨st, nx, le, mo, wh, rc, bg⟩ ep mk ps)) := by
        refine ⟨.slice a9 (vs.length + 1) c9, .slice none 0 0, vs ++ [(.slice a7 bn.length c7, (nx : Int) + 1)], ?_⟩
        unfold tkS
        rw [if_neg hmk, HBN.out]
        exact ⟨BY, OY, RowB.nil _ _, fun k hk => by cases hk⟩
      clear OY BX BY ON gq B7
      go_wp2
      exact bodyPost_end (results_none Tryd.results46 _ _ _) rfl ⟨rfl, FIN.out, B8⟩
end Go.Proofs.YtgcaemhcdpddiaaDoor
