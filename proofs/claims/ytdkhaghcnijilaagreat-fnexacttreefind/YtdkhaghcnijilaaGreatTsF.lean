/- The numbers of a tree, of the specification: l15Ids. -/
import Derived.Test.YtdkhaghcnijilaaGreatTrL
import Derived.Test.YtdkhaghcnijilaaGreatTrM
import Derived.Test.YtdkhaghcnijilaaGreatOwns
import Derived.Laws.AppendOwnNone
namespace Go.Proofs.YtdkhaghcnijilaaGreat
open Go.RowKit

/-- All numbers of a tree, and of its kids, in their order. -/
def idV : Nd → List Int
  | .mk _ _ is ks => is ++ idL ks
where idL : List Nd → List Int
  | [] => []
  | k :: ks => idV k ++ idL ks
theorem idL_app (f : List Nd) : ∀ g : List Nd, idV.idL (f ++ g) = idV.idL f ++ idV.idL g := by
  induction f with
  | nil => intro g; simp [idV.idL]
  | cons a f ih => intro g; simp only [List.cons_append, idV.idL, ih, List.append_assoc]
theorem idL_at {ks : List Nd} {j : Nat} (h : j < ks.length) : idV.idL (ks.take (j + 1)) = idV.idL (ks.take j) ++ idV (ndA ks j) := by
  rw [take_ndA h, idL_app]
  simp [idV.idL]
theorem idV_le : ∀ t, (idV t).length ≤ ndSz t := by
  refine Nd.ind (P := fun t => (idV t).length ≤ ndSz t) ?_
  intro b bs is ks ih
  have key : ∀ l : List Nd, (∀ k ∈ l, (idV k).length ≤ ndSz k) → (idV.idL l).length ≤ ndSz.ndsSz l := by
    intro l
    induction l with
    | nil => intro _; simp [idV.idL]
    | cons a l ihl =>
      intro h
      have h1 := h a (List.mem_cons_self ..)
      have h2 := ihl (fun k hk => h k (List.mem_cons_of_mem _ hk))
      simp only [idV.idL, ndSz.ndsSz, List.length_append]
      omega
  have := key ks ih
  simp only [idV, ndSz, List.length_append]
  omega
theorem idL_le (ks : List Nd) : (idV.idL ks).length ≤ ndSz.ndsSz ks := by
  induction ks with
  | nil => simp [idV.idL]
  | cons a l ih =>
    have := idV_le a
    simp only [idV.idL, ndSz.ndsSz, List.length_append]
    omega
/-- A right tree's numbers, level by level. -/
theorem gd_ids : ∀ (d : Nat) (top : Bool) (t : Nd), Gd top t d → idV t = (lvL [t] d).flatMap Nd.is
  | 0, top, .mk b bs is ks, h => by
    obtain ⟨h1, _, _⟩ := h
    have h1' : ks = [] := h1
    subst h1'
    simp [idV, idV.idL, lvL, Nd.is]
  | d + 1, top, .mk b bs is ks, h => by
    obtain ⟨_, h2, h3⟩ := h
    have h3' : ∀ k ∈ ks, Gd false k d := h3
    have h2' : innB b bs is ks = true := h2
    have key : ∀ l : List Nd, (∀ k ∈ l, Gd false k d) → idV.idL l = (lvL l d).flatMap Nd.is := by
      intro l
      induction l with
      | nil =>
        intro _
        have e : ∀ n, lvL [] n = [] := by
          intro n
          induction n with
          | zero => rfl
          | succ n ih => rw [lvL_succ, ih]; rfl
        rw [e]
        rfl
      | cons a l ih =>
        intro hl
        have e1 := gd_ids d false a (hl a (List.mem_cons_self ..))
        have e2 := ih (fun k hk => hl k (List.mem_cons_of_mem _ hk))
        rw [show a :: l = [a] ++ l from rfl, lvL_app, List.flatMap_append, ← e1, ← e2]
        rfl
    have hi : is = [] := List.eq_nil_of_length_eq_zero ((innB_iff b bs is ks).1 h2').2.2.1
    have e3 : lvL [.mk b bs is ks] (d + 1) = lvL ks d := by
      show lvL ([Nd.mk b bs is ks].flatMap Nd.ks) d = _
      simp [Nd.ks]
    rw [e3, ← key ks h3', hi]
    simp [idV]
/-- Numbers of a call's own are seen. -/
theorem RowI.seesI {base : Nat} {w : World} {v : Value} {ds : List Int} (h : RowI base w v ds) : ∃ a c, v = .slice a ds.length c ∧ SeesI w a c ds := by
  obtain ⟨a, c, rfl, h1, h2⟩ := h.shape'
  refine ⟨a, c, rfl, h1, h2, fun hn => ?_⟩
  obtain ⟨q, rfl, _⟩ := h.at2 (j := 0) (List.length_pos_iff.2 hn)
  exact ⟨q, 0, rfl, fun i hi => by rw [Nat.zero_add]; exact h.at' hi⟩
theorem run_append_owned_zero {P : Program} {w : World} (base : Nat) (t ty e : TypeId) (i : TypeInfo) (size : Nat) (ht : P.underlying t = some (.slice e)) (hi : P.info? e = some i) (v : Value) (n c : Nat) (xs : List Value) (hown : w.ownsRow base e size v n xs) :
    (Builtin.append_ #[t, t] ty #[v, .slice none 0 c]).run P w = .ok v w := by
  rcases hown.2 with ⟨rfl, rfl⟩ | ⟨g, cap, cur, rfl, _, _, hnc, _⟩
  · simp [Builtin.append_, run_underlying ht, sizeOf, typeInfo, hi, Builtin.lenOf, Builtin.firstCells]
  · simp [Builtin.append_, run_underlying ht, sizeOf, typeInfo, hi, Builtin.lenOf, Builtin.firstCells, hnc, storeCells]
set_option maxRecDepth 100000 in
/-- Numbers that are seen are put behind those of a call's own. -/
theorem wpList_append_seesI {w : World} {ops : Array Oper} {rest : List Oper} {o : Oper} {a : Act} {Q : Exit → Act → World → Prop} (hgd : o.guard = none) (s x : Operand)
    (ho : o.op = .call { callee := .builtin .append, args := #[s, x], argTypes := #[27, 27] }) (base : Nat) (v : Value) (ds : List Int) (hs : a.eval s = v) (R : RowI base w v ds) (aa : Option Addr) (cc : Nat) (is : List Int) (hx : a.eval x = .slice aa is.length cc) (S : SeesI w aa cc is) (hl : ds.length + is.length ≤ 4000000) (hb : base ≤ w.heap.size)
    (h : ∀ v' w', RowI base w' v' (ds ++ is) → w.grownBy w' v.ownBlock → wpList Tryz.prog ops Q rest (a.put o.dst v') w') : wpList Tryz.prog ops Q (o :: rest) a w := by
  obtain ⟨iX, hiX, hx0, hx1, hx2⟩ := info_parts infoI
  cases aa with
  | none =>
    have e : is = [] := by
      rcases is with _ | ⟨y, l⟩
      · rfl
      · obtain ⟨b, off, e, _⟩ := S.cells (by simp)
        cases e
    subst e
    refine wpList_plain hgd fun K hK => ?_
    have hrun := run_append_owned_zero (P := Tryz.prog) (w := w) base 27 o.type 3 iX 1 Tryz.underlying27 hiX v ds.length cc (ds.map (Value.int .i64)) R
    unfold Oper.wp
    simp only [List.length_nil] at hx
    simp [execOp, ho, resolve, invoke, builtin, hs, hx, hrun, Result.andThen]
    exact hK _ _ (h v w (by rw [List.append_nil]; exact R) (grownBy_refl _ _))
  | some ad =>
    refine wpList_append_own_at _ hgd s x 27 ho base 3 iX (.int .i64 0) 1 8 Tryz.underlying27 hiX hx0 hx1 hx2 rfl (by decide) v ds.length (ds.map (Value.int .i64)) hs R ad is.length cc (is.map (Value.int .i64)) hx (by simp) (fun j u hu => ?_) (onesI _) (by unfold maxLen; omega) (by omega) hb (fun v' w' R' G' _ _ => h v' w' ?_ G')
    · have hj : j < is.length := by have := (List.getElem?_eq_some_iff.mp hu).1; simpa using this
      obtain ⟨b, off, e, hc⟩ := S.cells (by intro e; rw [e] at hj; simp at hj)
      injection e with e
      subst e
      rw [Addr.add_lit, hc j hj, ← hu, List.getElem?_map, List.getElem?_eq_getElem hj]
      rfl
    · unfold RowI
      rw [List.map_append, List.length_append]
      exact R'
def IdC (t : Nd) : Prop := ∀ (v1 v2 v3 : Value) (w : World), NdIn 0 w t v1 v2 v3 → ndSz t ≤ 1048576 →
  Calls Tryz.prog 51 #[ndV t v1 v2 v3] w fun e w' => ∃ v, e = .returned v ∧ RowI w.heap.size w' v (idV t) ∧ Below w.heap.size w w'

set_option maxRecDepth 20000 in
set_option maxHeartbeats 2000000 in
theorem l15Ids_step (b : Bx) (bs : List Bx) (is : List Int) (ks : List Nd) (ih : ∀ k ∈ ks, IdC k) : IdC (.mk b bs is ks) := by
  intro v1 v2 v3 w h hs
  obtain ⟨a1, c1, a2, c2, a3, c3, rfl, rfl, rfl, _, _, s2, _, s3⟩ := h.open
  obtain ⟨x1, x2, x3, x4⟩ := b
  simp only [Nd.is, Nd.ks] at s2 s3
  have HZ : Hid (is.length + ndSz.ndsSz ks ≤ 1048576) := by
    have : ndSz (.mk (x1, x2, x3, x4) bs is ks) = bs.length + is.length + ks.length + ndSz.ndsSz ks := rfl
    show is.length + ndSz.ndsSz ks ≤ 1048576
    omega
  have HK : Hid (∀ j, j ≤ ks.length → (idV.idL (ks.take j)).length ≤ ndSz.ndsSz ks) := fun j hj => by
    have h1 := idL_le (ks.take j)
    have h2 := sz_app (ks.take j) (ks.drop j)
    rw [List.take_append_drop] at h2
    omega
  have HKS : Hid (∀ j, j < ks.length → ndSz (ndA ks j) ≤ ndSz.ndsSz ks) := fun j hj => by
    have h1 := ndsSz_at hj
    have h2 := sz_app (ks.take (j + 1)) (ks.drop (j + 1))
    rw [List.take_append_drop] at h2
    omega
  have hf3 := s3.fits
  have hm3 := s3.max
  unfold maxLen at hm3
  have lis : is.length ≤ 1048576 := by have := HZ.out; omega
  have hf2 := s2.fits
  have hm2 := s2.max
  unfold maxLen at hm2
  have HV : Hid (idV (.mk (x1, x2, x3, x4) bs is ks) = is ++ idV.idL ks) := by show _ = _; simp [idV]
  have IH : Hid (∀ k ∈ ks, IdC k) := ih
  have e : ndV (.mk (x1, x2, x3, x4) bs is ks) (.slice a1 bs.length c1) (.slice a2 is.length c2) (.slice a3 ks.length c3) = .agg #[.int .i64 x1, .int .i64 x2, .int .i64 x3, .int .i64 x4, .slice a1 bs.length c1, .slice a2 is.length c2, .slice a3 ks.length c3] := rfl
  show Calls Tryz.prog 51 #[ndV (.mk (x1, x2, x3, x4) bs is ks) (.slice a1 bs.length c1) (.slice a2 is.length c2) (.slice a3 ks.length c3)] w _
  rw [e, HV.out]
  clear e h ih hs HV
  generalize bs.length = m1 at *
  have B0 := below1 w (.cells #[.int .i64 x1, .int .i64 x2, .int .i64 x3, .int .i64 x4, .slice a1 m1 c1, .slice a2 is.length c2, .slice a3 ks.length c3] 39)
  have V := Sev.new w x1 x2 x3 x4 (.slice a1 m1 c1) (.slice a2 is.length c2) (.slice a3 ks.length c3) 39
  go_enter Tryz.func51, Tryz.ntmps51
  obtain ⟨⟨k0, k1, k2, k3⟩, k4, k5, k6⟩ := id V
  simp only [Nat.zero_add] at k0 k1 k2 k3 k4 k5 k6
  go_upto_region 1 with fail
  generalize w.alloc (.cells #[.int .i64 x1, .int .i64 x2, .int .i64 x3, .int .i64 x4, .slice a1 m1 c1, .slice a2 is.length c2, .slice a3 ks.length c3] 39) = W0 at *
  have RE := RowI.empty W0 (base := w.heap.size + 1) (World.block_lt_of_cell? _ _ k6)
  have b1 := below1 W0 (.cells #[] 3)
  have S2 := (s2.below B0).below b1
  have hz0 : w.heap.size + 1 ≤ (W0.alloc (.cells #[] 3)).heap.size := by have := b1.size; have h6 := World.block_lt_of_cell? _ _ k6; dsimp only at h6; omega
  have q6 := bat b1 k6
  have q5 := bat b1 k5
  have BB := B0.trans (b1.mono B0.size)
  clear b1 V k0 k1 k2 k3 k4
  go_wp2_with (at_builtin; refine wpList_append_seesI rfl (.tmp 5) (.tmp 7) rfl (w.heap.size + 1) _ [] rfl RE a2 c2 is rfl S2 (by simp; omega) hz0 ?_; intro v8 w8 R8 G8; rw [List.nil_append] at R8)
  have p6 := (World.cell?_of_block (a := ⟨w.heap.size, 6, none⟩) (G8.block w.heap.size (World.block_lt_of_cell? _ _ q6) (fun e => by injection e with e; have := World.block_lt_of_cell? _ _ k6; dsimp only at this e; omega))).trans q6
  replace BB := BB.grown G8 (by omega) (fun k e => by injection e with e; have := B0.size; dsimp only at e; omega)
  have R9 : Hid (RowI (w.heap.size + 1) w8 v8 (is ++ idV.idL (ks.take 0))) := by show RowI _ _ _ _; rw [List.take_zero]; simpa [idV.idL] using R8
  have hp8 : w.heap.size < w8.heap.size := World.block_lt_of_cell? _ _ p6
  clear RE S2 q5 q6 k5 k6 G8 R8 hz0 B0
  generalize W0.alloc (.cells #[] 3) = W9 at *
  go_loopw [3, 4] (fun s3 s4 wr => ∃ j : Nat, j ≤ ks.length ∧ s4 = .int .i64 j ∧ Hid (RowI (w.heap.size + 1) wr s3 (is ++ idV.idL (ks.take j))) ∧ wr.cell? ⟨w.heap.size, 6, none⟩ = some (.slice a3 ks.length c3) ∧ Below w.heap.size w wr) (fun _ s4 _ => ks.length - (intOf s4).toNat)
  case atStart => exact ⟨0, Nat.zero_le _, rfl, R9, p6, BB⟩
  case round =>
    clear R9 p6 BB hp8
    obtain ⟨j, hj, rfl, RR, p6, B⟩ := hrel
    rename World => wr
    by_cases hlt : j < ks.length
    · obtain ⟨p, o, rfl, hcell⟩ := (s3.below B).cells (by intro e; simp [e] at hlt)
      obtain ⟨v1, v2, v3, ⟨⟨g0, g1, g2, g3⟩, g4, g5, g6⟩, N⟩ := hcell j hlt
      have C := IH.out _ (ndA_mem hlt) v1 v2 v3 wr N (by have := HKS.out j hlt; have := HZ.out; omega)
      have HI : Hid (idV.idL (ks.take (j + 1)) = idV.idL (ks.take j) ++ idV (ndA ks j)) := idL_at hlt
      have hil := idV_le (ndA ks j)
      have hi2 : (idV (ndA ks j)).length ≤ 1048576 := by have := HKS.out j hlt; have := HZ.out; omega
      have hi3 := HK.out j hj
      unfold ndV at C
      clear hcell N hil
      generalize ndA ks j = t at *
      go_wp2_with fail
      refine C.mono ?_
      rintro e w2 ⟨v, rfl, RI, hb⟩
      obtain ⟨av, cv, rfl, SI⟩ := RI.seesI
      have R2 := RR.out.below hb
      have p62 := bat hb p6
      have hsz : w.heap.size < wr.heap.size := World.block_lt_of_cell? _ _ p6
      replace B := B.trans (hb.mono B.size)
      have hz2 : w.heap.size + 1 ≤ w2.heap.size := World.block_lt_of_cell? _ _ p62
      have hl8 : (is ++ idV.idL (ks.take j)).length + (idV t).length ≤ 4000000 := by rw [List.length_append]; have := HZ.out; omega
      clear hb C g0 g1 g2 g3 g4 g5 g6 p6 RR RI
      go_wp2_with (at_builtin; refine wpList_append_seesI rfl (.tmp 16) (.tmp 22) rfl (w.heap.size + 1) u3 (is ++ idV.idL (ks.take j)) rfl R2 av cv (idV t) rfl SI hl8 hz2 ?_; intro v8 w8 R8 G8; rw [List.append_assoc, ← HI.out] at R8)
      have p63 := (World.cell?_of_block (a := ⟨w.heap.size, 6, none⟩) (G8.block w.heap.size (World.block_lt_of_cell? _ _ p62) (fun e => by have := (World.ownsRow.lt R2 _ e.symm).1; omega))).trans p62
      have B8 := B.grown G8 (by omega) (fun k e => by have := (World.ownsRow.lt R2 _ e).1; omega)
      clear R2 G8 p62
      go_roundw
      case rel => exact ⟨j + 1, by omega, by go_num, R8, p63, B8⟩
      case measure => simp [intOf]; omega
    · obtain rfl : j = ks.length := by omega
      have F : Hid (RowI (w.heap.size + 1) wr u3 (is ++ idV.idL ks)) := by have := RR.out; rw [List.take_length] at this; exact this
      clear RR
      go_wp2
      go_ret
      exact ⟨_, rfl, row_base F.out (Nat.le_succ _), B⟩
theorem l15Ids_any : ∀ t, IdC t := Nd.ind l15Ids_step
end Go.Proofs.YtdkhaghcnijilaaGreat
