import Derived.Test.YtdkhaghcnijilaaGreatTrB
import Derived.Deep.Cut
import Derived.LaidEqlPtr
/- The levels of a tree, of the program (levelsOf over *Node). -/
namespace Go.Proofs.YtdkhaghcnijilaaGreat
open Go.RowKit

theorem infoLv : (Tryz.prog.info? 100).map (fun i => (i.zero, i.size, i.bytes)) = some (some (.slice none 0 0), 1, 24) := by kernel_rfl
def rowTp (rs : List (List Ptr)) (i : Nat) : List Ptr := rs[i]?.getD []
theorem slice_newTp (w : World) (x : Value) (t : TypeId) : ∀ j u, [x][j]? = some u → (w.alloc (.cells #[x] t)).cell? ((⟨w.heap.size, 0, none⟩ : Addr).add j) = some u := by
  intro j u hu
  rcases j with _ | j
  · simp at hu; subst hu; exact cell_new w #[x] t 0 rfl
  · simp at hu
/-- Rows of pointers whose list a call owns. -/
structure LvR (base : Nat) (w : World) (v : Value) (vs : List Value) (rs : List (List Ptr)) : Prop where
  o : w.ownsRow base 100 1 v rs.length vs
  n : vs.length = rs.length
  z : rs = [] → v = .slice none 0 0
  q : ∀ i, i < rs.length → ∃ g c', vs[i]? = some (.slice (some ⟨g, 0, none⟩) (rowTp rs i).length c') ∧ SeesTp w (some ⟨g, 0, none⟩) c' (rowTp rs i) ∧ 0 < (rowTp rs i).length
theorem LvR.nil (base : Nat) (w : World) : LvR base w (.slice none 0 0) [] [] := ⟨⟨rfl, .inl ⟨rfl, rfl⟩⟩, rfl, fun _ => rfl, fun i hi => absurd hi (by simp)⟩
theorem LvR.below {base : Nat} {w w' : World} {v : Value} {vs : List Value} {rs : List (List Ptr)} (h : LvR base w v vs rs) (hb : Below w.heap.size w w') : LvR base w' v vs rs :=
  ⟨owns_below h.o hb, h.n, h.z, fun i hi => by obtain ⟨g, c', h1, h2, h3⟩ := h.q i hi; exact ⟨g, c', h1, h2.below hb, h3⟩⟩
theorem LvR.shape {base : Nat} {w : World} {v : Value} {vs : List Value} {rs : List (List Ptr)} (h : LvR base w v vs rs) : ∃ a cap, v = .slice a rs.length cap ∧ rs.length ≤ cap ∧ cap ≤ maxLen := by
  rcases h.o.2 with ⟨hv, h0⟩ | ⟨q, cap, cur, hv, _, _, hf, hm, _⟩
  · exact ⟨none, 0, by rw [hv, h0], by omega, by simp [maxLen]⟩
  · exact ⟨_, cap, hv, hf, hm⟩
theorem SeesTp.kept {w w' : World} {g c : Nat} {es : List Ptr} {row : Option Nat} (h : SeesTp w (some ⟨g, 0, none⟩) c es) (G : w.grownBy w' row) (ne : some g ≠ row) : SeesTp w' (some ⟨g, 0, none⟩) c es :=
  ⟨h.fits, h.max, fun hn => by
    obtain ⟨b, off, ha, hc⟩ := h.cells hn
    simp only [Option.some.injEq, Addr.mk.injEq] at ha
    obtain ⟨rfl, rfl, _⟩ := ha
    exact ⟨g, 0, rfl, fun i hi => G.cell (hc i hi) ne⟩⟩
/-- A row of pointers lies in no list of rows. -/
theorem LvR.apart {base : Nat} {w : World} {v : Value} {vs : List Value} {rs : List (List Ptr)} {g c : Nat} {es : List Ptr} (h : LvR base w v vs rs) (k : SeesTp w (some ⟨g, 0, none⟩) c es) (h0 : 0 < es.length) : some g ≠ v.ownBlock := by
  intro e
  rcases Nat.eq_zero_or_pos rs.length with z | z
  · rw [h.z (List.eq_nil_of_length_eq_zero z)] at e
    simp [Value.ownBlock] at e
  · obtain ⟨g', c', e1, _, _⟩ := h.q 0 z
    have c1 := World.ownsRow.cells h.o e.symm 0 _ e1
    obtain ⟨b, off, ha, hc⟩ := k.cells (by intro e; simp [e] at h0)
    simp only [Option.some.injEq, Addr.mk.injEq] at ha
    obtain ⟨rfl, rfl, _⟩ := ha
    have c2 := hc 0 h0
    rw [show (⟨g, 0, none⟩ : Addr).add 0 = ⟨g, 0, none⟩ from rfl] at c1
    rw [Nat.add_zero] at c2
    rw [c1] at c2
    simp [ptV] at c2
theorem rowTp_snoc {rs : List (List Ptr)} {es : List Ptr} {i : Nat} : rowTp (rs ++ [es]) i = if i < rs.length then rowTp rs i else if i = rs.length then es else [] := by
  unfold rowTp
  rcases Nat.lt_trichotomy i rs.length with c | c | c
  · rw [List.getElem?_append_left c, if_pos c]
  · rw [if_neg (by omega), if_pos c, List.getElem?_append_right (by omega), c, Nat.sub_self]
    rfl
  · rw [if_neg (by omega), if_neg (by omega), List.getElem?_append_right (by omega), List.getElem?_eq_none (by simp; omega)]
    rfl
theorem LvR.snoc {base : Nat} {w w' : World} {v v' : Value} {vs : List Value} {rs : List (List Ptr)} {g c : Nat} {es : List Ptr} (h : LvR base w v vs rs) (k : SeesTp w (some ⟨g, 0, none⟩) c es) (h0 : 0 < es.length) (O : w'.ownsRow base 100 1 v' (rs.length + 1) (vs ++ [.slice (some ⟨g, 0, none⟩) es.length c])) (G : w.grownBy w' v.ownBlock) : LvR base w' v' (vs ++ [.slice (some ⟨g, 0, none⟩) es.length c]) (rs ++ [es]) := by
  have hn := h.n
  refine ⟨by rw [List.length_append]; exact O, by simp [hn], fun e => by simp at e, fun i hi => ?_⟩
  rw [List.length_append, List.length_singleton] at hi
  rw [rowTp_snoc]
  by_cases hl : i < rs.length
  · rw [if_pos hl]
    obtain ⟨g', c', h1, h2, h3⟩ := h.q i hl
    exact ⟨g', c', by rw [List.getElem?_append_left (by omega)]; exact h1, h2.kept G (h.apart h2 h3), h3⟩
  · obtain rfl : i = rs.length := by omega
    rw [if_neg hl, if_pos rfl]
    exact ⟨g, c, by rw [List.getElem?_append_right (by omega), hn, Nat.sub_self]; rfl, k.kept G (h.apart k h0), h0⟩
/-- The trees of a level. -/
def lvl (t : Nd) : Nat → List Nd
  | 0 => [t]
  | k + 1 => kdN (lvl t k) (lvl t k).length
/-- Up to here all have kids, and no level has too many. -/
def lvFine (t : Nd) (k : Nat) : Prop := ∀ i, i < k → lfN (lvl t i) (lvl t i).length = 0 ∧ (lvl t (i + 1)).length ≤ 600
def lvGood (t : Nd) (m : Nat) : Prop := lvFine t m ∧ lfN (lvl t m) (lvl t m).length = (lvl t m).length
def lvBad (t : Nd) : Prop := ∃ k, lvFine t k ∧ ((0 < lfN (lvl t k) (lvl t k).length ∧ lfN (lvl t k) (lvl t k).length < (lvl t k).length) ∨ 600 < (lvl t (k + 1)).length)
/-- How great the trees of a list are. -/
theorem sz_app (f : List Nd) : ∀ g : List Nd, ndSz.ndsSz (f ++ g) = ndSz.ndsSz f + ndSz.ndsSz g := by
  induction f with
  | nil => intro g; simp [ndSz.ndsSz]
  | cons a f ih => intro g; simp only [List.cons_append, ndSz.ndsSz, ih]; omega
theorem sz_ks (t : Nd) : ndSz.ndsSz t.ks + t.ks.length ≤ ndSz t := by
  obtain ⟨b, bs, is, ks⟩ := t
  simp only [ndSz, Nd.ks]
  omega
theorem sz_kd (ts : List Nd) : ∀ j, j ≤ ts.length → ndSz.ndsSz (kdN ts j) + (kdN ts j).length ≤ ndSz.ndsSz (ts.take j)
  | 0, _ => by simp [kdN, ndSz.ndsSz]
  | j + 1, h => by
    have h1 := sz_kd ts j (by omega)
    have h2 := sz_ks (ndA ts j)
    rw [ndsSz_at (by omega)]
    simp only [kdN, List.length_append, sz_app]
    omega
/-- A level deeper there is less. -/
theorem sz_lvl (t : Nd) : ∀ k, lvFine t k → k + (ndSz.ndsSz (lvl t k) + (lvl t k).length) ≤ ndSz t + 1 ∧ 0 < (lvl t k).length
  | 0, _ => by simp [lvl, ndSz.ndsSz]
  | k + 1, h => by
    obtain ⟨h1, h0⟩ := sz_lvl t k (fun i hi => h i (by omega))
    have h2 := sz_kd (lvl t k) (lvl t k).length (Nat.le_refl _)
    rw [List.take_length] at h2
    have h3 := (h k (by omega)).1
    have h4 : 0 < (kdN (lvl t k) (lvl t k).length).length := by
      rcases Nat.eq_zero_or_pos (kdN (lvl t k) (lvl t k).length).length with c | c
      · exfalso
        have key : ∀ j, j ≤ (lvl t k).length → (kdN (lvl t k) j).length = 0 → lfN (lvl t k) j = j := by
          intro j
          induction j with
          | zero => intro _ _; rfl
          | succ j ih =>
            intro hj hz
            simp only [kdN, List.length_append] at hz
            simp only [lfN]
            rw [ih (by omega) (by omega), if_pos (by omega)]
        have := key _ (Nat.le_refl _) c
        omega
      · exact c
    simp only [lvl]
    omega
def lenV : Value → Nat
  | .slice _ n _ => n
  | _ => 0
/-- From where on the rows of a level's first tree lie. -/
def loAt (qss : List (List Ptr)) (k : Nat) : Nat := if k = 0 then 0 else (ptAt (rowTp qss k) 0).1 + 1

theorem isPow_any (n : Int) (w : World) : Calls Tryz.prog 108 #[.int .i64 n] w fun e w' => ∃ b, e = .returned (.bool b) ∧ w' = w := by
  go_enter Tryz.func108, Tryz.ntmps108
  go_wp2
  go_ret
  exact ⟨_, rfl, rfl⟩
theorem infoNd : (Tryz.prog.info? 39).map (fun i => (i.zero, i.size, i.bytes)) = some (some (.agg #[.int .i64 0, .int .i64 0, .int .i64 0, .int .i64 0, .slice none 0 0, .slice none 0 0, .slice none 0 0]), 7, 104) := by kernel_rfl
theorem ptr_ne {b o mb mo : Nat} (ne : (b, o) ≠ (mb, mo)) {W : World} (h1 : Plain W b) (h2 : Plain W mb) : (binOp .eql 93 (.pointer (some ⟨b, o, none⟩)) (.pointer (some ⟨mb, mo, none⟩))).run Tryz.prog W = .ok (.bool false) W := by
  obtain ⟨i0, hi, hz0, hz1, hz2⟩ := info_parts infoNd
  obtain ⟨c1, t1, e1⟩ := h1
  obtain ⟨c2, t2, e2⟩ := h2
  refine run_eql_ptr_other W Tryz.underlying93 hi (by rw [hz1]; decide) ?_ e1 e2
  intro e
  injection e with e1 e2
  exact ne (by rw [e1, e2])
end Go.Proofs.YtdkhaghcnijilaaGreat

/- The levels of a tree, of the program (levelsOf over *Node). -/
namespace Go.Proofs.YtdkhaghcnijilaaGreat
open Go.RowKit

theorem LvR.at2 {base : Nat} {w : World} {v : Value} {vs : List Value} {rs : List (List Ptr)} (h : LvR base w v vs rs) (hp : 0 < rs.length) : ∃ g0 c0, v = .slice (some ⟨g0, 0, none⟩) rs.length c0 ∧ base ≤ g0 ∧ rs.length ≤ c0 ∧ c0 ≤ maxLen ∧ ∀ i, i < rs.length → ∃ g c', w.cell? ⟨g0, i, none⟩ = some (.slice (some ⟨g, 0, none⟩) (rowTp rs i).length c') ∧ SeesTp w (some ⟨g, 0, none⟩) c' (rowTp rs i) := by
  have hq := h.q
  rcases h.o.2 with ⟨hv, h0⟩ | ⟨q, cap', cur, hv, hb, hh, hf, hm, hs, ht⟩
  · omega
  · refine ⟨q, cap', hv, hb, hf, hm, fun i hi => ?_⟩
    obtain ⟨g, c', e1, e2, _⟩ := hq i hi
    refine ⟨g, c', ?_, e2⟩
    rw [← ht, Nat.mul_one, List.getElem?_take_of_lt hi] at e1
    exact (cell_of_row w q i _ _ _ hh).trans (by simpa using e1)
/-- What levelsOf answers. -/
def LvOut (w0 : World) (base : Nat) (w' : World) (T : Nat) (t : Nd) (v : Value) : Prop := (v = .slice none 0 0 ∧ lvBad t) ∨ ∃ m vs qss, LvR base w' v vs qss ∧ qss.length = m + 1 ∧ lvGood t m ∧ rowTp qss 0 = [(T, 0)] ∧ ∀ i, 1 ≤ i → i ≤ m → PtsAt w0 (rowTp qss i) (lvl t i)
theorem ndA_sz {ts : List Nd} {i : Nat} (h : i < ts.length) : (ndA ts i).ks.length ≤ ndSz.ndsSz ts := by
  have h1 := sz_ks (ndA ts i)
  have h2 : ndSz (ndA ts i) ≤ ndSz.ndsSz ts := by
    have key : ∀ (l : List Nd) (k : Nd), k ∈ l → ndSz k ≤ ndSz.ndsSz l := by
      intro l
      induction l with
      | nil => intro k h; cases h
      | cons q l ih =>
        intro k hk
        simp only [ndSz.ndsSz]
        rcases List.mem_cons.1 hk with rfl | hk
        · omega
        · have := ih k hk
          omega
    exact key ts _ (ndA_mem h)
  omega

set_option maxRecDepth 20000 in
set_option maxHeartbeats 8000000 in
theorem levelsOf_any {w0 : World} (T : Nat) (t : Nd) (v1 v2 v3 : Value) (w : World) (S : Sev w T 0 t.b v1 v2 v3) (N : NdUp w0 0 t v1 v2 v3) (hT : w0.heap.size ≤ T) (hP : Plain w T) (B0 : Below w0.heap.size w0 w) (hs : ndSz t ≤ 1048576) :
    Calls Tryz.prog 64 #[.pointer (some ⟨T, 0, none⟩), .func (Fn.func 65) #[] #[]] w fun e w' => ∃ v, e = .returned v ∧ LvOut w0 w.heap.size w' T t v ∧ Below w.heap.size w w' := by
  obtain ⟨iX, hiX, hx0, hx1, hx2⟩ := info_parts infoLv
  have HTT : Hid (w0.heap.size ≤ T) := hT
  have HPL : Hid (Plain w T) := hP
  have HSZ : Hid (ndSz t ≤ 1048576) := hs
  have b1 := below1 w (.cells #[.pointer (some ⟨T, 0, none⟩)] 93)
  have b2 := below1 (w.alloc (.cells #[.pointer (some ⟨T, 0, none⟩)] 93)) (.cells #[.slice (some ⟨w.heap.size, 0, none⟩) 1 1] 100)
  have L0 : LvR w.heap.size ((w.alloc (.cells #[.pointer (some ⟨T, 0, none⟩)] 93)).alloc (.cells #[.slice (some ⟨w.heap.size, 0, none⟩) 1 1] 100)) (.slice (some ⟨w.heap.size + 1, 0, none⟩) 1 1) [.slice (some ⟨w.heap.size, 0, none⟩) 1 1] [[(T, 0)]] := by
    refine ⟨⟨rfl, .inr ⟨w.heap.size + 1, 1, #[.slice (some ⟨w.heap.size, 0, none⟩) 1 1], rfl, by omega, ?_, Nat.le_refl _, by simp [maxLen], rfl, rfl⟩⟩, rfl, fun e => by simp at e, fun i hi => ?_⟩
    · have := heap_alloc_new (w.alloc (.cells #[.pointer (some ⟨T, 0, none⟩)] 93)) (.cells #[.slice (some ⟨w.heap.size, 0, none⟩) 1 1] 100)
      rw [World.size_alloc] at this
      exact this
    · obtain rfl : i = 0 := by simpa using hi
      refine ⟨w.heap.size, 1, rfl, SeesTp.below ⟨by simp [rowTp], by simp [maxLen], fun _ => ⟨w.heap.size, 0, rfl, fun i hi => ?_⟩⟩ b2, by simp [rowTp]⟩
      obtain rfl : i = 0 := by simpa [rowTp] using hi
      exact cell_new w #[.pointer (some ⟨T, 0, none⟩)] 93 0 rfl
  have B1 := b1.trans (b2.mono b1.size)
  clear b1 b2 hT hP hs
  go_enter Tryz.func64, Tryz.ntmps64
  go_wp2
  go_loopw [5, 6, 7, 8, 9] (fun s5 s6 _ _ _ wr => ∃ (k : Nat) (vs : List Value) (qss : List (List Ptr)) (mb mo : Nat), s6 = .pointer (some ⟨mb, mo, none⟩) ∧ Hid (LvR w.heap.size wr s5 vs qss) ∧ Hid (qss.length = k + 1) ∧ Hid (lvFine t k) ∧ Hid (rowTp qss 0 = [(T, 0)]) ∧ Hid (∀ i, 1 ≤ i → i ≤ k → PtsAt w0 (rowTp qss i) (lvl t i)) ∧ Hid ((mb = T ∨ mb < loAt qss k) ∧ Plain w mb) ∧ Below w.heap.size w wr) (fun s5 _ _ _ _ _ => 1048580 - lenV s5)
  case atStart => exact ⟨0, _, [[(T, 0)]], T, 0, rfl, L0, rfl, (fun i hi => absurd hi (by omega)), rfl, (fun i h1 h2 => absurd h1 (by omega)), ⟨.inl rfl, HPL.out⟩, B1⟩
  case round =>
    clear L0 B1
    obtain ⟨k, vs, qss, mb, mo, rfl, LR, QL, FN, R0, PT, MK, B⟩ := hrel
    rename World => wr
    obtain ⟨g0, c0, e5, hg0, hf0, hm0, hc⟩ := LvR.at2 LR.out (by have := QL.out; omega)
    have hql : qss.length = k + 1 := QL.out
    rw [hql] at e5 hf0 hc
    subst e5
    unfold maxLen at hm0
    obtain ⟨g, c', g1, SR⟩ := hc k (by omega)
    obtain ⟨sz, pos⟩ := sz_lvl t k FN.out
    have hk : k ≤ 1048576 := by have := HSZ.out; omega
    -- the level's pointers and trees
    have hlen : (rowTp qss k).length = (lvl t k).length := by
      rcases Nat.eq_zero_or_pos k with e | e
      · subst e; rw [R0.out]; rfl
      · exact (PT.out k e (Nat.le_refl _)).1
    have hl600 : (lvl t k).length ≤ 600 := by
      rcases Nat.eq_zero_or_pos k with e | e
      · subst e; simp [lvl]
      · obtain ⟨i, rfl⟩ : ∃ i, k = i + 1 := ⟨k - 1, by omega⟩
        exact (FN.out i (by omega)).2
    have LA : ∃ los : Nat → Nat, los 0 = loAt qss k ∧ LvAt w0 wr (rowTp qss k) (lvl t k) los := by
      rcases Nat.eq_zero_or_pos k with e | e
      · subst e
        refine ⟨fun _ => 0, rfl, by rw [R0.out]; rfl, fun i hi => ?_⟩
        obtain rfl : i = 0 := by simpa [lvl] using hi
        rw [R0.out]
        exact ⟨v1, v2, v3, S.below B, N⟩
      · exact ⟨_, (by unfold loAt; rw [if_neg (by omega)]), (PT.out k e (Nat.le_refl _)).lv (B0.trans (B.mono B0.size))⟩
    obtain ⟨los, hlo, LA⟩ := LA
    have HLO : Hid (los 0 = loAt qss k) := hlo
    have C := kidsOfAll_any (some ⟨g, 0, none⟩) c' (rowTp qss k) (lvl t k) los wr SR LA hl600 (fun i hi => Nat.le_trans (ndA_sz hi) (by have := HSZ.out; omega))
    rw [hlen] at C g1
    have HPOS : Hid (0 < (lvl t k).length) := pos
    clear hc LA SR hlo sz hlen hql pos
    generalize hn : (lvl t k).length = n at *
    have HN : Hid ((lvl t k).length = n) := hn
    clear hn
    go_wp2_with fail
    refine C.mono ?_
    rintro e w2 ⟨v8, qs2, ns, lv, rfl, R8, PA, KR, FI, hb⟩
    replace B := B.trans (hb.mono B.size)
    have LR2 : Hid (LvR w.heap.size w2 (.slice (some ⟨g0, 0, none⟩) (k + 1) c0) vs qss) := by have := LR.out.below hb; exact this
    have hsz2 : w.heap.size ≤ wr.heap.size := by have := B.size; have := hb.size; exact Nat.le_trans (Nat.le_of_lt (Nat.lt_of_le_of_lt hg0 (World.block_lt_of_cell? _ _ g1))) (Nat.le_refl _)
    clear hb g1 C LR
    have KR' : Hid (KaRes (lvl t k) ns lv) := KR
    have HL1 : Hid (lfN (lvl t k) (lvl t k).length ≤ (lvl t k).length) := lfN_le _ _
    have hlv : lv ≤ 600 := by
      rcases KR with ⟨_, e, _⟩ | ⟨_, e, _⟩
      · rw [e]; exact Nat.le_trans HL1.out (by rw [HN.out]; exact hl600)
      · have := HN.out; omega
    clear KR
    by_cases q1 : lv = n
    · have f1 : ((lv : Int) == (n : Int)) = true := by simp [q1]
      have G : Hid (lvGood t k) := by
        rcases KR'.out with ⟨_, e, _⟩ | ⟨_, e, _⟩
        · exact ⟨FN.out, by rw [← e, q1, HN.out]⟩
        · have := HN.out; omega
      have LO : Hid (LvOut w0 w.heap.size w2 T t (.slice (some ⟨g0, 0, none⟩) (k + 1) c0)) := .inr ⟨k, vs, qss, LR2.out, QL.out, G.out, R0.out, PT.out⟩
      obtain ⟨a8, c8, rfl, _, _⟩ := RowTp.sees R8
      clear q1 G LR2 QL FN R0 PT MK KR' HN HL1
      go_wp2
      go_ret
      exact ⟨_, rfl, LO.out, B⟩
    · have f1 : ((lv : Int) == (n : Int)) = false := by simp; omega
      by_cases q2 : 0 < lv
      · have f2 : (0 : Int) < (lv : Int) := by omega
        have BD : Hid (lvBad t) := ⟨k, FN.out, by
          rcases KR'.out with ⟨_, e, _⟩ | ⟨_, _, e⟩
          · exact .inl ⟨by rw [← e]; exact q2, by have := HL1.out; have := HN.out; rw [← e] at *; omega⟩
          · exact .inr e⟩
        obtain ⟨a8, c8, rfl, _, _⟩ := RowTp.sees R8
        clear q1 q2 LR2 QL FN R0 PT MK KR' HN HL1
        go_wp2
        go_ret
        exact ⟨_, rfl, .inl ⟨rfl, BD.out⟩, B⟩
      · obtain rfl : lv = 0 := by omega
        by_cases q3 : 600 < qs2.length
        · have f3 : (600 : Int) < (qs2.length : Int) := by omega
          have BD : Hid (lvBad t) := ⟨k, FN.out, by
            rcases KR'.out with ⟨_, _, e⟩ | ⟨_, _, e⟩
            · have := PA.1; omega
            · exact .inr e⟩
          obtain ⟨a8, c8, rfl, _, _⟩ := RowTp.sees R8
          clear q1 q2 q3 LR2 QL FN R0 PT MK KR' HN HL1
          go_wp2
          go_ret
          exact ⟨_, rfl, .inl ⟨rfl, BD.out⟩, B⟩
        · have f3 : ¬ (600 : Int) < (qs2.length : Int) := by omega
          obtain ⟨en, el, _⟩ : ns = kdN (lvl t k) (lvl t k).length ∧ 0 = lfN (lvl t k) (lvl t k).length ∧ ns.length ≤ 600 := by
            rcases KR'.out with q | ⟨e, _, _⟩
            · exact q
            · have := PA.1; omega
          have FN2 : Hid (lvFine t (k + 1)) := fun i hi => by
            rcases Nat.lt_or_ge i k with c | c
            · exact FN.out i c
            · obtain rfl : i = k := by omega
              refine ⟨el.symm, ?_⟩
              show (kdN (lvl t i) (lvl t i).length).length ≤ 600
              rw [← en, ← PA.1]
              omega
          obtain ⟨_, pos2⟩ := sz_lvl t (k + 1) FN2.out
          have hns : ns.length = (lvl t (k + 1)).length := by rw [en]; rfl
          have hq2 : 0 < qs2.length := by rw [PA.1, hns]; exact pos2
          have PA2 : Hid (PtsAt w0 qs2 (lvl t (k + 1))) := by
            have e : lvl t (k + 1) = ns := by rw [en]; rfl
            show PtsAt _ _ _
            rw [e]
            exact PA
          have hk0 : (ndA (lvl t k) 0).ks ≠ [] := by
            intro e0
            have key : ∀ j, 1 ≤ j → 0 < lfN (lvl t k) j := by
              intro j
              induction j with
              | zero => intro h; omega
              | succ j ih =>
                intro _
                simp only [lfN]
                rcases Nat.eq_zero_or_pos j with z | z
                · subst z; rw [e0]; simp
                · have := ih z; omega
            have := key (lvl t k).length (by rw [HN.out]; exact HPOS.out)
            omega
          have F0 := FI HPOS.out hk0
          obtain ⟨PL0, u1, u2, u3, SV0, _⟩ := PA2.out.2 0 pos2
          have hlt0 : (ptAt qs2 0).1 < w0.heap.size := PL0.lt
          have PLw : Hid (Plain w (ptAt qs2 0).1) := PL0.below B0
          have NE : (ptAt qs2 0) ≠ (mb, mo) := by
            intro e
            have e1 : (ptAt qs2 0).1 = mb := by rw [e]
            rcases MK.out.1 with c | c
            · have := HTT.out; omega
            · rw [HLO.out] at F0; omega
          have PE : (binOp .eql 93 (.pointer (some ⟨(ptAt qs2 0).1, (ptAt qs2 0).2, none⟩)) (.pointer (some ⟨mb, mo, none⟩))).run Tryz.prog w2 = .ok (.bool false) w2 := ptr_ne (by intro e; exact NE (by rw [← e])) (PLw.out.below B) (MK.out.2.below B)
          have MKa : Hid ((mb = T ∨ mb < loAt (qss ++ [qs2]) (k + 1)) ∧ Plain w mb) := ⟨by
            rcases MK.out.1 with c | c
            · exact .inl c
            · refine .inr ?_
              unfold loAt
              rw [if_neg (by omega)]
              have e : rowTp (qss ++ [qs2]) (k + 1) = qs2 := by rw [rowTp_snoc, if_neg (by have := QL.out; omega), if_pos QL.out.symm]
              rw [e]
              rw [HLO.out] at F0
              omega, MK.out.2⟩
          have MKb : Hid (((ptAt qs2 0).1 = T ∨ (ptAt qs2 0).1 < loAt (qss ++ [qs2]) (k + 1)) ∧ Plain w (ptAt qs2 0).1) := ⟨by
            refine .inr ?_
            unfold loAt
            rw [if_neg (by omega)]
            have e : rowTp (qss ++ [qs2]) (k + 1) = qs2 := by rw [rowTp_snoc, if_neg (by have := QL.out; omega), if_pos QL.out.symm]
            rw [e]
            omega, PLw.out⟩
          have R02 : Hid (rowTp (qss ++ [qs2]) 0 = [(T, 0)]) := by show _ = _; rw [rowTp_snoc, if_pos (by have := QL.out; omega)]; exact R0.out
          have PT2 : Hid (∀ i, 1 ≤ i → i ≤ k + 1 → PtsAt w0 (rowTp (qss ++ [qs2]) i) (lvl t i)) := fun i h1 h2 => by
            rw [rowTp_snoc]
            rcases Nat.lt_or_ge i (k + 1) with c | c
            · rw [if_pos (by have := QL.out; omega)]
              exact PT.out i h1 (by omega)
            · obtain rfl : i = k + 1 := by omega
              rw [if_neg (by have := QL.out; omega), if_pos QL.out.symm]
              exact PA2.out
          rcases R8.two with ⟨_, e⟩ | ⟨g8, c8, rfl, NW8, hg8⟩
          · rw [e] at hq2; simp at hq2
          have k0 : w2.cell? ⟨g8, 0, none⟩ = some (.pointer (some ⟨(ptAt qs2 0).1, (ptAt qs2 0).2, none⟩)) := by
            have := NW8 0 (ptV (ptAt qs2 0)) (by
              rw [List.getElem?_map, List.getElem?_eq_getElem hq2]
              unfold ptAt
              rw [List.getElem?_eq_getElem hq2]
              rfl)
            rw [Addr.add_lit, Nat.add_zero] at this
            exact this
          have SR2 : SeesTp w2 (some ⟨g8, 0, none⟩) c8 qs2 := by
            obtain ⟨a9, c9, e9, S9, _⟩ := RowTp.sees R8
            injection e9 with e1 e2 e3
            subst e1 e3
            exact S9
          generalize ptAt qs2 0 = q0 at *
          obtain ⟨qb, qo⟩ := q0
          dsimp only at k0 PE MKb
          have hb := below1 w2 (.cells #[.slice (some ⟨g8, 0, none⟩) qs2.length c8] 100)
          have NW := slice_newTp w2 (.slice (some ⟨g8, 0, none⟩) qs2.length c8) 100
          have LR3 := LR2.out.below hb
          have SR3 := SR2.below hb
          have k1 := bat hb k0
          have B3 := B.trans (hb.mono B.size)
          have hz3 : w.heap.size ≤ (w2.alloc (.cells #[.slice (some ⟨g8, 0, none⟩) qs2.length c8] 100)).heap.size := B3.size
          have OW : (w2.alloc (.cells #[.slice (some ⟨g8, 0, none⟩) qs2.length c8] 100)).ownsRow w.heap.size 100 1 (.slice (some ⟨g0, 0, none⟩) (k + 1) c0) (k + 1) vs := by have := LR3.o; rw [QL.out] at this; exact this
          have hne : some g8 ≠ (Value.slice (some ⟨g0, 0, none⟩) (k + 1) c0).ownBlock := LR2.out.apart SR2 hq2
          have hk2 : k + 2 ≤ 1048578 := by omega
          have QL2 : Hid ((qss ++ [qs2]).length = k + 1 + 1) := by show _ = _; rw [List.length_append, List.length_singleton, QL.out]
          have qnz : ((0 : Int) < (qs2.length : Int)) := by omega
          clear q1 q2 q3 hb LR2 R0 PT MK KR' HN HL1 FN PA2 PA FI F0 NE en el hns pos2 hk0 PL0 SV0 hlt0 R8 NW8 SR2
          go_wp2_with (at_builtin; refine wpList_append_own_at _ rfl (.tmp 45) (.tmp 47) 91 rfl w.heap.size 100 iX (.slice none 0 0) 1 24 Tryz.underlying91 hiX hx0 hx1 hx2 rfl (by decide) (.slice (some ⟨g0, 0, none⟩) (k + 1) c0) (k + 1) vs rfl OW ⟨w2.heap.size, 0, none⟩ 1 _ [.slice (some ⟨g8, 0, none⟩) qs2.length c8] rfl rfl NW (by intro u hu; simp at hu; subst hu; rfl) (by unfold maxLen; omega) (by omega) hz3 ?_; intro v9 w9 R9 G9 nil9 _; have R10 := LR3.snoc SR3 hq2 (by rw [QL.out]; exact R9) G9; obtain ⟨a9, c9, e9, hf9, hm9⟩ := R10.shape; rw [QL2.out] at e9; subst e9; have B9 := B3.grown G9 B3.size (fun k e => (World.ownsRow.lt OW _ e).1); have k2 := G9.cell k1 hne; clear nil9)
          refine (isPow_any _ _).mono ?_
          rintro e w10 ⟨b, rfl, rfl⟩
          cases b
          · go_wp2
            go_roundw
            case rel => exact ⟨k + 1, _, qss ++ [qs2], mb, mo, rfl, R10, QL2, FN2, R02, PT2, MKa, B9⟩
            case measure => simp [lenV]; omega
          · go_wp2
            go_roundw
            case rel => exact ⟨k + 1, _, qss ++ [qs2], qb, qo, rfl, R10, QL2, FN2, R02, PT2, MKb, B9⟩
            case measure => simp [lenV]; omega
end Go.Proofs.YtdkhaghcnijilaaGreat
