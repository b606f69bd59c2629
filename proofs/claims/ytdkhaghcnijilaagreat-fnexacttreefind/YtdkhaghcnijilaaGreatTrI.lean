/- A node put to work, of the program: slices.Clone of pointers, (*Node).atWork. -/
import Derived.Test.YtdkhaghcnijilaaGreatTrH
import Derived.Test.YtdkhaghcnijilaaGreatTrB
import Derived.Lib.SliceRun
namespace Go.Proofs.YtdkhaghcnijilaaGreat
open Go.RowKit

theorem infoWp : (Tryz.prog.info? 63).map (fun i => (i.zero, i.size, i.bytes)) = some (some (.pointer none), 1, 8) := by kernel_rfl
theorem infoIt : (Tryz.prog.info? 85).map (fun i => (i.zero, i.size, i.bytes)) = some (some (.agg #[.int .i64 0, .int .i64 0, .int .i64 0, .int .i64 0, .int .i64 0]), 5, 40) := by kernel_rfl
/-- Pointers in a row of a call's own. -/
def RowWp (base : Nat) (w : World) (v : Value) (qs : List Ptr) : Prop := w.ownsRow base 63 1 v qs.length (qs.map ptV)
theorem RowWp.nil (base : Nat) (w : World) : RowWp base w (.slice none 0 0) [] := ⟨rfl, .inl ⟨rfl, rfl⟩⟩
theorem RowWp.snoc {base : Nat} {w : World} {v : Value} {qs : List Ptr} {q : Ptr} (h : w.ownsRow base 63 1 v (qs.length + 1) (qs.map ptV ++ [q].map ptV)) : RowWp base w v (qs ++ [q]) := by
  unfold RowWp
  rw [List.map_append, List.length_append]
  exact h
theorem RowWp.below {base : Nat} {w w' : World} {v : Value} {qs : List Ptr} (h : RowWp base w v qs) (hb : Below w.heap.size w w') : RowWp base w' v qs := owns_below h hb
theorem RowWp.sees {base : Nat} {w : World} {v : Value} {qs : List Ptr} (h : RowWp base w v qs) : ∃ a cap, v = .slice a qs.length cap ∧ SeesTp w a cap qs ∧ From base qs.length a := by
  rcases h.2 with ⟨hv, h0⟩ | ⟨g, cap', cur, hv, hb, hh, hf, hm, hs, ht⟩
  · exact ⟨none, 0, by rw [hv, h0], ⟨by omega, by simp [maxLen], fun hn => absurd (List.eq_nil_of_length_eq_zero h0) hn⟩, fun b off e => by cases e⟩
  · refine ⟨_, cap', hv, ⟨hf, hm, fun _ => ⟨g, 0, rfl, fun i hi => ?_⟩⟩, fun b off e _ => by injection e with e; injection e with e; omega⟩
    have hk : (qs.map ptV)[i]? = some (ptV (ptAt qs i)) := by
      rw [List.getElem?_map, List.getElem?_eq_getElem hi]
      unfold ptAt
      rw [List.getElem?_eq_getElem hi]
      rfl
    rw [← ht] at hk
    rw [List.getElem?_take_of_lt (by omega)] at hk
    rw [Nat.zero_add]
    exact (cell_of_row w g i _ _ _ hh).trans (by simpa using hk)
theorem RowWp.two {base : Nat} {w : World} {v : Value} {qs : List Ptr} (h : RowWp base w v qs) : (v = .slice none 0 0 ∧ qs = []) ∨ ∃ g cap, v = .slice (some ⟨g, 0, none⟩) qs.length cap ∧ (∀ j u, (qs.map ptV)[j]? = some u → w.cell? ((⟨g, 0, none⟩ : Addr).add j) = some u) ∧ base ≤ g := by
  rcases h.2 with ⟨hv, h0⟩ | ⟨g, cap', cur, hv, hb, hh, hf, hm, hs, ht⟩
  · exact .inl ⟨hv, List.eq_nil_of_length_eq_zero h0⟩
  · refine .inr ⟨g, cap', hv, fun j u hu => ?_, hb⟩
    have hj : j < qs.length := by have := (List.getElem?_eq_some_iff.mp hu).1; simpa using this
    rw [← ht, List.getElem?_take_of_lt (by omega)] at hu
    rw [Addr.add_lit, Nat.zero_add]
    exact (cell_of_row w g j _ _ _ hh).trans (by simpa using hu)
theorem RowWp.snocs {base : Nat} {w : World} {v : Value} {qs rs : List Ptr} (h : w.ownsRow base 63 1 v (qs.length + rs.length) (qs.map ptV ++ rs.map ptV)) : RowWp base w v (qs ++ rs) := by
  unfold RowWp
  rw [List.map_append, List.length_append]
  exact h
theorem RowWp.empty (w : World) {base : Nat} (h : base ≤ w.heap.size) : RowWp base (w.alloc (.cells #[] 63)) (.slice (some ⟨w.heap.size, 0, none⟩) 0 0) [] :=
  ⟨rfl, .inr ⟨w.heap.size, 0, #[], rfl, h, heap_alloc_new _ _, Nat.le_refl _, by simp [maxLen], rfl, rfl⟩⟩
theorem SeesTp.news {w : World} {b o c : Nat} {qs : List Ptr} (h : SeesTp w (some ⟨b, o, none⟩) c qs) : ∀ j u, (qs.map ptV)[j]? = some u → w.cell? ((⟨b, o, none⟩ : Addr).add j) = some u := by
  intro j u hu
  have hj : j < qs.length := by have := (List.getElem?_eq_some_iff.mp hu).1; simpa using this
  obtain ⟨b', o', ea, hc⟩ := h.cells (by intro e; rw [e] at hj; simp at hj)
  injection ea with ea
  injection ea with e1 e2
  subst e1 e2
  rw [Addr.add_lit]
  refine (hc j hj).trans ?_
  rw [List.getElem?_map, List.getElem?_eq_getElem hj] at hu
  unfold ptAt
  rw [List.getElem?_eq_getElem hj]
  simpa using hu

set_option maxHeartbeats 1000000 in
theorem cloneWp (b o c : Nat) (qs : List Ptr) (w : World) (h : SeesTp w (some ⟨b, o, none⟩) c qs) (hl : qs.length ≤ 1048576) :
    Calls Tryz.prog 110 #[.slice (some ⟨b, o, none⟩) qs.length c] w fun e w' => ∃ v, e = .returned v ∧ RowWp w.heap.size w' v qs ∧ Below w.heap.size w w' := by
  obtain ⟨iP, hiP, hP0, hP1, hP2⟩ := info_parts infoWp
  have he := fun w n => Lib.run_eql_slice_nil (P := Tryz.prog) w 96 63 (some ⟨b, o, none⟩) n c 0 0 Tryz.underlying96
  have hm := h.max
  have hf := h.fits
  unfold maxLen at hm
  have RE := RowWp.empty w (base := w.heap.size) (Nat.le_refl _)
  have bn := below1 w (.cells #[] 63)
  have S := h.below bn
  have NW := S.news
  have HB : w.heap.size ≤ (w.alloc (.cells #[] 63)).heap.size := bn.size
  clear h
  go_enter Tryz.func110, Tryz.ntmps110
  go_wp2_with (at_builtin; refine wpList_append_own_at _ rfl (.tmp 5) (.tmp 6) 96 rfl w.heap.size 63 iP (.pointer none) 1 8 Tryz.underlying96 hiP hP0 hP1 hP2 rfl (by decide) (.slice (some ⟨w.heap.size, 0, none⟩) 0 0) 0 [] rfl RE ⟨b, o, none⟩ qs.length _ (qs.map ptV) rfl (by simp) NW (onesTp _) (by unfold maxLen; omega) (by omega) HB ?_; intro v7 w7 R7 G7 _ _; rw [Nat.zero_add, List.nil_append] at R7)
  go_ret
  exact ⟨_, rfl, R7, (Below.refl w.heap.size w).trans (bn.trans ((Below.refl w.heap.size _).grown G7 HB (fun k hk => by injection hk with hk; exact Nat.le_of_eq hk)))⟩

/-- An item's cells. -/
abbrev It := Bx × Int
def itC (xs : List It) : List Value := xs.flatMap fun x => [.int .i64 x.1.1, .int .i64 x.1.2.1, .int .i64 x.1.2.2.1, .int .i64 x.1.2.2.2, .int .i64 x.2]
theorem itC_append (ps qs : List It) : itC (ps ++ qs) = itC ps ++ itC qs := by simp [itC]
def itAt (xs : List It) (i : Nat) : It := xs[i]?.getD ((0, 0, 0, 0), 0)
theorem itC_at : ∀ (xs : List It) (j : Nat), j < xs.length → (itC xs)[j * 5]? = some (.int .i64 (itAt xs j).1.1) ∧ (itC xs)[j * 5 + 1]? = some (.int .i64 (itAt xs j).1.2.1) ∧ (itC xs)[j * 5 + 2]? = some (.int .i64 (itAt xs j).1.2.2.1) ∧ (itC xs)[j * 5 + 3]? = some (.int .i64 (itAt xs j).1.2.2.2) ∧ (itC xs)[j * 5 + 4]? = some (.int .i64 (itAt xs j).2)
  | [], j, h => absurd h (by simp)
  | p :: r, 0, _ => ⟨rfl, rfl, rfl, rfl, rfl⟩
  | p :: r, j + 1, h => by
    have ih := itC_at r j (by simpa using h)
    have e : itC (p :: r) = [.int .i64 p.1.1, .int .i64 p.1.2.1, .int .i64 p.1.2.2.1, .int .i64 p.1.2.2.2, .int .i64 p.2] ++ itC r := rfl
    have eb : itAt (p :: r) (j + 1) = itAt r j := rfl
    rw [e, eb, show (j + 1) * 5 = 5 + j * 5 by omega, show 5 + j * 5 + 1 = 5 + (j * 5 + 1) by omega, show 5 + j * 5 + 2 = 5 + (j * 5 + 2) by omega, show 5 + j * 5 + 3 = 5 + (j * 5 + 3) by omega, show 5 + j * 5 + 4 = 5 + (j * 5 + 4) by omega, List.getElem?_append_right (by simp), List.getElem?_append_right (by simp), List.getElem?_append_right (by simp), List.getElem?_append_right (by simp), List.getElem?_append_right (by simp)]
    simpa using ih
theorem itC_ones (xs : List It) : ∀ u ∈ itC xs, u.oneCell' = true := by
  intro u hu
  simp only [itC, List.mem_flatMap] at hu
  obtain ⟨p, _, h⟩ := hu
  simp only [List.mem_cons, List.not_mem_nil, or_false] at h
  rcases h with rfl | rfl | rfl | rfl | rfl <;> rfl
/-- Items in a row of a call's own. -/
def RowIt (base : Nat) (w : World) (v : Value) (xs : List It) : Prop := w.ownsRow base 85 5 v xs.length (itC xs)
theorem RowIt.nil (base : Nat) (w : World) : RowIt base w (.slice none 0 0) [] := ⟨rfl, .inl ⟨rfl, rfl⟩⟩
theorem RowIt.snoc {base : Nat} {w : World} {v : Value} {xs : List It} {x : It} (h : w.ownsRow base 85 5 v (xs.length + 1) (itC xs ++ itC [x])) : RowIt base w v (xs ++ [x]) := by
  unfold RowIt
  rw [itC_append, List.length_append]
  exact h
theorem RowIt.sees {base : Nat} {w : World} {v : Value} {xs : List It} (h : RowIt base w v xs) : ∃ a cap, v = .slice a xs.length cap ∧ SeesIt w a cap (xs.map Prod.fst) (xs.map Prod.snd) ∧ From base xs.length a := by
  rcases h.2 with ⟨hv, h0⟩ | ⟨q, cap', cur, hv, hb, hh, hf, hm, hs, ht⟩
  · exact ⟨none, 0, by rw [hv, h0], ⟨by simp, by simp; exact List.eq_nil_of_length_eq_zero h0, by simp [maxLen], fun hn => absurd (by rw [List.eq_nil_of_length_eq_zero h0]; rfl) hn⟩, fun b off e => by cases e⟩
  · refine ⟨_, cap', hv, ⟨by simp, by simpa using hf, hm, fun _ => ⟨q, 0, rfl, fun i hi => ?_⟩⟩, fun b off e _ => by injection e with e; injection e with e; omega⟩
    rw [List.length_map] at hi
    have c : ∀ k u, (itC xs)[k]? = some u → w.cell? ⟨q, 0 + k, none⟩ = some u := by
      intro k u hk
      rw [← ht] at hk
      have hk2 : k < xs.length * 5 := by
        have := (List.getElem?_eq_some_iff.mp hk).1
        rw [List.length_take] at this
        omega
      rw [List.getElem?_take_of_lt hk2] at hk
      rw [Nat.zero_add]
      exact (cell_of_row w q k _ _ _ hh).trans (by simpa using hk)
    obtain ⟨c1, c2, c3, c4, c5⟩ := itC_at xs i hi
    have e1 : bxAt (xs.map Prod.fst) i = (itAt xs i).1 := by unfold bxAt itAt; rw [List.getElem?_map]; cases xs[i]? <;> rfl
    have e2 : (xs.map Prod.snd)[i]?.getD 0 = (itAt xs i).2 := by unfold itAt; rw [List.getElem?_map]; cases xs[i]? <;> rfl
    rw [e1, e2]
    refine ⟨⟨c _ _ c1, ?_, ?_, ?_⟩, ?_⟩
    · have := c _ _ c2; rwa [← Nat.add_assoc] at this
    · have := c _ _ c3; rwa [← Nat.add_assoc] at this
    · have := c _ _ c4; rwa [← Nat.add_assoc] at this
    · have := c _ _ c5; rwa [← Nat.add_assoc] at this
theorem it_new (w : World) (e : TypeId) (x y u v n : Int) : ∀ j z, (itC [((x, y, u, v), n)])[j]? = some z → (w.alloc (.cells #[.int .i64 x, .int .i64 y, .int .i64 u, .int .i64 v, .int .i64 n] e)).cell? ((⟨w.heap.size, 0, none⟩ : Addr).add j) = some z := by
  intro j z hz
  rcases j with _ | _ | _ | _ | _ | j
  · simp [itC] at hz; subst hz; exact cell_new w #[.int .i64 x, .int .i64 y, .int .i64 u, .int .i64 v, .int .i64 n] e 0 rfl
  · simp [itC] at hz; subst hz; exact cell_new w #[.int .i64 x, .int .i64 y, .int .i64 u, .int .i64 v, .int .i64 n] e 1 rfl
  · simp [itC] at hz; subst hz; exact cell_new w #[.int .i64 x, .int .i64 y, .int .i64 u, .int .i64 v, .int .i64 n] e 2 rfl
  · simp [itC] at hz; subst hz; exact cell_new w #[.int .i64 x, .int .i64 y, .int .i64 u, .int .i64 v, .int .i64 n] e 3 rfl
  · simp [itC] at hz; subst hz; exact cell_new w #[.int .i64 x, .int .i64 y, .int .i64 u, .int .i64 v, .int .i64 n] e 4 rfl
  · simp [itC] at hz

set_option maxRecDepth 20000 in
set_option maxHeartbeats 4000000 in
theorem atWorkLeaf {w0 : World} (p o lo : Nat) (t : Nd) (v1 v2 v3 : Value) (ak : Option Addr) (ck : Nat) (w : World) (S : Sev w p o t.b v1 v2 v3) (N : NdUp w0 lo t v1 v2 v3) (B0 : Below w0.heap.size w0 w) (hl : t.bs.length = t.is.length) (hs : t.is.length ≤ 1048576) :
    Calls Tryz.prog 68 #[.pointer (some ⟨p, o, none⟩), .slice ak 0 ck] w fun e w' => ∃ q a c, e = .returned (.pointer (some ⟨q, 0, none⟩)) ∧ Wk6 w' q (jnI t.bs) (.slice a t.bs.length c) (.slice none 0 0) ∧ SeesIt w' a c t.bs t.is ∧ From w.heap.size t.bs.length a ∧ w.heap.size ≤ q ∧ Below w.heap.size w w' := by
  obtain ⟨a1, c1, a2, c2, a3, c3, rfl, rfl, rfl, s1, _, s2, _, _⟩ := N.open
  replace s1 := s1.below B0
  replace s2 := s2.below B0
  obtain ⟨iX, hiX, hx0, hx1, hx2⟩ := info_parts infoIt
  have hm1 := s1.max
  have hf1 := s1.fits
  have hm2 := s2.max
  have hf2 := s2.fits
  unfold maxLen at hm1 hm2
  obtain ⟨_, k4, k5, k6⟩ := S
  have HL : Hid (t.bs.length = t.is.length) := hl
  have R0 := RowIt.nil w.heap.size w
  clear N hl
  generalize t.bs = bs at *
  generalize t.is = is at *
  go_enter Tryz.func68, Tryz.ntmps68
  go_wp2
  go_loopw [5, 6, 7, 19] (fun s5 _ _ s19 wr => ∃ (j : Nat) (xs : List It), j ≤ is.length ∧ s19 = .int .i64 j ∧ Hid (xs.length = j) ∧ Hid (xs.map Prod.fst = bs.take j) ∧ Hid (xs.map Prod.snd = is.take j) ∧ Hid (RowIt w.heap.size wr s5 xs) ∧ Below w.heap.size w wr) (fun _ _ _ s19 _ => is.length - (intOf s19).toNat)
  case atStart => exact ⟨0, [], Nat.zero_le _, rfl, rfl, rfl, rfl, R0, Below.refl _ _⟩
  case round =>
    clear R0
    obtain ⟨j, xs, hj, rfl, L, E1, E2, RR, B⟩ := hrel
    rename World => wr
    by_cases hlt : j < is.length
    · have hlt1 : j < bs.length := by have := HL.out; omega
      obtain ⟨b2, o2, rfl, hc2⟩ := s2.cells (by intro e; simp [e] at hlt)
      obtain ⟨b1, o1, rfl, hc1⟩ := s1.cells (by intro e; simp [e] at hlt1)
      have g5 := bat B (hc2 j hlt)
      obtain ⟨g1, g2, g3, g4⟩ := (hc1 j hlt1).below B
      have y4 := bat B k4
      have y5 := bat B k5
      have E1' : Hid (∀ n : Int, (xs ++ [(bxAt bs j, n)]).map Prod.fst = bs.take (j + 1)) := fun n => by
        rw [List.map_append, E1.out, List.take_add_one, List.getElem?_eq_getElem hlt1]
        unfold bxAt
        rw [List.getElem?_eq_getElem hlt1]
        rfl
      have E2' : Hid (∀ x : Bx, (xs ++ [(x, is[j]?.getD 0)]).map Prod.snd = is.take (j + 1)) := fun x => by
        rw [List.map_append, E2.out, List.take_add_one, List.getElem?_eq_getElem hlt]
        rfl
      clear hc1 hc2 E1 E2
      generalize bxAt bs j = x at *
      generalize is[j]?.getD 0 = n at *
      obtain ⟨x1, x2, x3, x4⟩ := x
      dsimp only at g1 g2 g3 g4
      have hb := below1 wr (.cells #[.int .i64 x1, .int .i64 x2, .int .i64 x3, .int .i64 x4, .int .i64 n] 85)
      have NW := it_new wr 85 x1 x2 x3 x4 n
      have R2 : RowIt w.heap.size (wr.alloc (.cells #[.int .i64 x1, .int .i64 x2, .int .i64 x3, .int .i64 x4, .int .i64 n] 85)) _ xs := owns_below RR.out hb
      have hl' : xs.length ≤ 1048576 := by have := L.out; omega
      have B3 := B.trans (hb.mono B.size)
      have hz : w.heap.size ≤ (wr.alloc (.cells #[.int .i64 x1, .int .i64 x2, .int .i64 x3, .int .i64 x4, .int .i64 n] 85)).heap.size := B3.size
      clear RR hb B
      go_wp2_with (at_builtin; refine wpList_append_own_at _ rfl (.tmp 24) (.tmp 34) 103 rfl w.heap.size 85 iX (.agg #[.int .i64 0, .int .i64 0, .int .i64 0, .int .i64 0, .int .i64 0]) 5 40 Tryz.underlying103 hiX hx0 hx1 hx2 rfl (by decide) u5 xs.length (itC xs) rfl R2 ⟨wr.heap.size, 0, none⟩ 1 _ (itC [((x1, x2, x3, x4), n)]) rfl rfl NW (itC_ones _) (by unfold maxLen; omega) (by omega) hz ?_; intro v7 w7 R8 G7 nil7 _; replace R8 := RowIt.snoc R8; clear nil7)
      have B8 := B3.grown G7 B3.size (fun k e => (World.ownsRow.lt R2 _ e).1)
      go_roundw
      case rel => exact ⟨j + 1, _, by omega, by go_num, (by show _ = _; rw [List.length_append, List.length_singleton, L.out]), E1'.out n, E2'.out (x1, x2, x3, x4), R8, B8⟩
      case measure => simp [intOf]; omega
    · obtain rfl : j = is.length := by omega
      obtain ⟨a7, c7, rfl, SI, FA⟩ := RowIt.sees RR.out
      have e1 : xs.map Prod.fst = bs := by rw [E1.out, ← HL.out, List.take_length]
      have e2 : xs.map Prod.snd = is := by rw [E2.out, List.take_length]
      rw [e1, e2] at SI
      have e3 : xs.length = bs.length := by rw [L.out, HL.out]
      rw [e3] at FA ⊢
      have HFA : Hid (From w.heap.size bs.length a7) := FA
      clear E1 E2 L RR e1 e2 e3 FA
      go_wp2_with fail
      refine (leafOf_any a7 c7 bs is _ SI).mono ?_
      rintro e w9 ⟨rfl, K9, hb⟩
      have S9 := SI.below hb
      have hq := B.size
      replace B := B.trans (hb.mono B.size)
      clear hb SI
      go_wp2
      go_ret
      exact ⟨_, a7, c7, rfl, K9, S9, HFA.out, hq, B⟩

set_option maxRecDepth 20000 in
set_option maxHeartbeats 4000000 in
theorem atWorkInner (p o : Nat) (b1 o1 ck m : Nat) (qs : List Ptr) (bs : List Bx) (w : World) (h : SeesTp w (some ⟨b1, o1, none⟩) ck qs) (hm : m = qs.length) (hl : qs.length = bs.length) (hk : ∀ i, i < bs.length → (ptAt qs i).2 = 0 ∧ Four w (ptAt qs i).1 0 (bxAt bs i)) (h0 : 0 < bs.length) (hs : bs.length ≤ 1048576) :
    Calls Tryz.prog 68 #[.pointer (some ⟨p, o, none⟩), .slice (some ⟨b1, o1, none⟩) m ck] w fun e w' => ∃ q a c, e = .returned (.pointer (some ⟨q, 0, none⟩)) ∧ Wk6 w' q (jnI bs) (.slice none 0 0) (.slice a bs.length c) ∧ SeesTp w' a c qs ∧ From w.heap.size bs.length a ∧ w.heap.size ≤ q ∧ Below w.heap.size w w' := by
  subst hm
  have f0 : (0 : Int) < (qs.length : Int) := by omega
  have C := cloneWp b1 o1 ck qs w h (by omega)
  have HK : Hid (∀ i, i < bs.length → (ptAt qs i).2 = 0 ∧ Four w (ptAt qs i).1 0 (bxAt bs i)) := hk
  have HL : Hid (qs.length = bs.length) := hl
  clear hk h hl
  go_enter Tryz.func68, Tryz.ntmps68
  go_wp2_with fail
  refine C.mono ?_
  rintro e w1 ⟨v, rfl, R, hb⟩
  obtain ⟨a, c, rfl, S1, FA⟩ := RowWp.sees R
  rw [HL.out] at FA
  have HFA : Hid (From w.heap.size bs.length a) := FA
  clear FA
  rw [HL.out]
  clear C R
  go_wp2_with fail
  refine (innerOf_any a c qs bs _ S1 HL.out (fun i hi => ⟨(HK.out i hi).1, (HK.out i hi).2.below hb⟩) h0).mono ?_
  rintro e w2 ⟨rfl, K2, hb2⟩
  have S2 := S1.below hb2
  have hq := hb.size
  have B := hb.trans (hb2.mono hb.size)
  clear hb hb2 S1
  go_wp2
  go_ret
  exact ⟨_, a, c, rfl, K2, S2, HFA.out, hq, B⟩
end Go.Proofs.YtdkhaghcnijilaaGreat
