/- The bytes of a shape, of the program: putShape of a point and of a line, and what they are parts of. -/
import Derived.Test.YtlkhbbllkkdhaaaGreatDoorPutI
import Derived.Test.YtlkhbbllkkdhaaaGreatDoorPtSh
import Derived.Test.YtlkhbbllkkdhaaaGreatDoorConP
namespace Go.Proofs.YtlkhbbllkkdhaaaGreatDoor
open Go.RowKit

theorem wp_append_own_at {P : Program} {w : World} {o : Oper} {a : Act} {K : Act → World → Prop} {Q : Exit → Act → World → Prop} (s x : Operand) (t : TypeId)
    (ho : o.op = .call { callee := .builtin .append, args := #[s, x], argTypes := #[t, t] })
    (base : Nat) (e : TypeId) (i : TypeInfo) (z : Value) (size bytes : Nat) (ht : P.underlying t = some (.slice e)) (hi : P.info? e = some i) (hz : i.zero = some z)
    (hsize : i.size = size) (hby : i.bytes = bytes) (hzs : z.cells.size = size) (hsz : 0 < size)
    (v : Value) (n : Nat) (xs : List Value) (hs : a.eval s = v) (hown : w.ownsRow base e size v n xs)
    (ad : Addr) (m c : Nat) (news : List Value) (hx : a.eval x = .slice (some ad) m c) (hl : news.length = m * size) (hnews : ∀ j u, news[j]? = some u → w.cell? (ad.add j) = some u) (h1 : ∀ u ∈ news, u.oneCell' = true)
    (h63 : n + m ≤ maxLen) (hbytes : (n + m) * bytes ≤ 140737488355328) (hbase : base ≤ w.heap.size)
    (h : ∀ v' w', w'.ownsRow base e size v' (n + m) (xs ++ news) → w.grownBy w' v.ownBlock → (v'.ownBlock = v.ownBlock ∨ v'.ownBlock = some w.heap.size) → K (a.put o.dst v') w') : o.wp P a w K Q := by
  obtain ⟨v', w', hr, h2, h3, _, h5⟩ := run_append_own_at (P := P) w base t o.type e i z size bytes ht hi hz hsize hby hzs hsz v n xs hown ad m c news hl hnews h1 h63 hbytes hbase
  unfold Oper.wp execOp
  simp only [ho, resolve, invoke, builtin, Sem.run_bind, Sem.run_pure, Result.andThen_ok, List.map_toArray, List.map_cons, List.map_nil, hs, hx, hr]
  exact h v' w' h2 h3 h5

/-- The types by kinds stand in their table. -/
def TabB (w : World) : Prop := ∀ k : Nat, 1 ≤ k → k ≤ 5 → w.cell? ⟨0, k, none⟩ = some (.int .u32 (tyN k))
/-- Rows of a shape that stay. -/
structure SeesT (w : World) (v : Value) (a : Option Addr) (cap : Nat) (rs : List (List (Int × Int))) : Prop where
  fits : rs.length ≤ cap
  max : cap ≤ maxLen
  cells : rs ≠ [] → ∃ b off, a = some ⟨b, off, none⟩ ∧ ∀ i, i < rs.length → ∃ a' c', Stays w v (fun W => W.cell? ⟨b, off + i, none⟩ = some (.slice a' (rowA rs i).length c')) ∧ Stays w v (fun W => SeesP W a' c' (rowA rs i))
theorem SeesP.ext {w w' : World} {v v' : Value} {q off c : Nat} {ps : List (Int × Int)} (h : SeesP w (some ⟨q, off, none⟩) c ps) (X : Ext w v w' v') (ne : v.ownBlock ≠ some q) : SeesP w' (some ⟨q, off, none⟩) c ps :=
  ⟨h.fits, h.max, fun hn => by
    obtain ⟨b, o, e, hc⟩ := h.cells hn
    simp only [Option.some.injEq, Addr.mk.injEq] at e
    obtain ⟨rfl, rfl, _⟩ := e
    exact ⟨_, _, rfl, fun i hi => ⟨X.cell (hc i hi).1 ne, X.cell (hc i hi).2 ne⟩⟩⟩
/-- With no row ahead all that was there stays. -/
theorem SeesS.stays {w : World} {a : Option Addr} {c : Nat} {rs : List (List (Int × Int))} (h : SeesS w a c rs) : SeesT w (.slice none 0 0) a c rs :=
  ⟨h.fits, h.max, fun hn => by
    obtain ⟨b, off, e, hc⟩ := h.cells hn
    refine ⟨b, off, e, fun i hi => ?_⟩
    obtain ⟨a', c', g, P⟩ := hc i hi
    exact ⟨a', c', fun w' v' X => bat (X.below rfl) g, fun w' v' X => P.below (X.below rfl)⟩⟩
theorem SeesT.one {w : World} {v : Value} {a : Option Addr} {c b : Nat} {ps : List (Int × Int)} (g : Stays w v (fun W => W.cell? ⟨b, 0, none⟩ = some (.slice a ps.length c))) (P : Stays w v (fun W => SeesP W a c ps)) : SeesT w v (some ⟨b, 0, none⟩) 1 [ps] :=
  ⟨Nat.le_refl _, by simp [maxLen], fun _ => ⟨b, 0, rfl, fun i hi => by
    obtain rfl : i = 0 := by simp at hi; exact hi
    exact ⟨a, c, g, P⟩⟩⟩

set_option maxRecDepth 20000 in
set_option maxHeartbeats 4000000 in
theorem putShape1 (base : Nat) (v : Value) (bs : List Int) (a : Option Addr) (c : Nat) (rs : List (List (Int × Int))) (w : World) (h : RowB base w v bs) (hb : base ≤ w.heap.size) (hl : bs.length ≤ 50000) (hS : SeesT w v a c rs) (hn : 0 < rs.length ∧ rs.length ≤ 12) (hr : ∀ i, i < rs.length → 0 < (rowA rs i).length ∧ (rowA rs i).length ≤ 60) (hT : Stays w v TabB) :
    Calls Tryz.prog 32 #[v, .agg #[.int .i64 1, .slice a rs.length c]] w fun e w' => ∃ v', e = .returned v' ∧ RowB base w' v' (bs ++ shBy 1 rs) ∧ Ext w v w' v' := by
  obtain ⟨i8, hi8, hy0, hy1, hy2⟩ := info_parts infoB
  have hm := hS.max
  have hf := hS.fits
  unfold maxLen at hm
  obtain ⟨b, off, rfl, hc⟩ := hS.cells (by intro e; rw [e] at hn; exact absurd hn.1 (by simp))
  have HC : Hid (∀ i, i < rs.length → ∃ a' c', Stays w v (fun W => W.cell? ⟨b, off + i, none⟩ = some (.slice a' (rowA rs i).length c')) ∧ Stays w v (fun W => SeesP W a' c' (rowA rs i))) := hc
  have HR : Hid (∀ i, i < rs.length → 0 < (rowA rs i).length ∧ (rowA rs i).length ≤ 60) := hr
  have HT : Hid (Stays w v TabB) := hT
  have B0 := below1 w (.cells #[.int .i64 1, .slice (some ⟨b, off, none⟩) rs.length c] 42)
  have V0 := Box2.new w (lo := w.heap.size) (Nat.le_refl _) (.int .i64 1) (.slice (some ⟨b, off, none⟩) rs.length c) 42
  have X0 := Ext.of_below v B0
  have R0 := h.below B0
  have ne := h.own_ne (k := w.heap.size) (Nat.le_refl _)
  have hb0 : base ≤ (w.alloc (.cells #[.int .i64 1, .slice (some ⟨b, off, none⟩) rs.length c] 42)).heap.size := Nat.le_trans hb B0.size
  have HH : Hid (hdB 1 = [1] ++ leB 4 (tyN 1)) := rfl
  have HS : Hid (shBy 1 rs = hdB 1 ++ (ptB (ptA (rowA rs 0) 0).1 (ptA (rowA rs 0) 0).2)) := rfl
  have HD := hdB_len 1
  have TB : 0 ≤ tyN 1 ∧ tyN 1 ≤ 5 := by decide
  have ML4 : (leB 4 (tyN 1)).length ≤ 4 := by rw [leB_len]; omega
  have HTY : Hid (∀ W, TabB W → W.cell? ⟨0, 1, none⟩ = some (.int .u32 (tyN 1))) := fun W t => t 1 (by decide) (by decide)
  rw [HS.out]
  clear hc hS hr hT HS h
  generalize hty : tyN 1 = ty at *
  generalize HHd : hdB 1 = H at *
  go_enter Tryz.func32, Tryz.ntmps32
  go_upto_region 1 with fail
  generalize w.alloc (.cells #[.int .i64 1, .slice (some ⟨b, off, none⟩) rs.length c] 42) = W0 at *
  have hd := ((Below.refl W0.heap.size W0).drew : Below W0.heap.size W0 _)
  have X1 := X0.trans (Ext.of_below v hd)
  have R1 := R0.below hd
  have V1 := V0.below hd
  have hb1 := Nat.le_trans hb0 hd.size
  have N : W0.drew.cell? ⟨w.heap.size, 0, none⟩ = some (.int .i64 1) ∧ W0.drew.cell? ⟨0, 1, none⟩ = some (.int .u32 ty) := ⟨V1.c0, HTY.out _ (HT.out _ _ X1)⟩
  clear X0 R0 V0 hb0 hd
  refine wp_region_held_drew (S := fun W => W.cell? ⟨w.heap.size, 0, none⟩ = some (.int .i64 1) ∧ W.cell? ⟨0, 1, none⟩ = some (.int .u32 ty)) (by kernel_rfl) N (fun hHeld => ?_)
  clear hHeld
  revert N X1 R1 V1 hb1
  generalize W0.drew = ww0
  intro X1 R1 V1 hb1 N
  refine takeW (i := 0) (by simp only [List.getElem?_toArray, List.getElem?_cons_zero]; exact rfl) (by kernel_rfl) (by kernel_rfl) (by kernel_rfl) (by exact fun _ _ _ h => h) (by rfl) (by intro wq hSw; go_simp <;> with_reducible rfl) (by assumption) ?_
  try simp only [Act.put, List.setIfInBounds_toArray, List.set_cons_zero, List.set_cons_succ]
  refine takeW (i := 3) (by simp only [List.getElem?_toArray, List.getElem?_cons_succ, List.getElem?_cons_zero]; exact rfl) (by kernel_rfl) (by kernel_rfl) (by kernel_rfl) (by exact fun _ _ _ h => h) (by rfl) (by intro wq hSw; go_simp <;> with_reducible rfl) (by assumption) ?_
  try simp only [Act.put, List.setIfInBounds_toArray, List.set_cons_zero, List.set_cons_succ]
  refine takeW (i := 4) (by simp only [List.getElem?_toArray, List.getElem?_cons_succ, List.getElem?_cons_zero]; exact rfl) (by kernel_rfl) (by kernel_rfl) (by kernel_rfl) (by exact fun _ _ _ h => h) (by rfl) (by intro wq hSw; obtain ⟨z0, z1⟩ := hSw; go_simp <;> with_reducible rfl) (by assumption) ?_
  try simp only [Act.put, List.setIfInBounds_toArray, List.set_cons_zero, List.set_cons_succ]
  refine takeW (i := 5) (by simp only [List.getElem?_toArray, List.getElem?_cons_succ, List.getElem?_cons_zero]; exact rfl) (by kernel_rfl) (by kernel_rfl) (by kernel_rfl) (by exact fun _ _ _ h => h) (by rfl) (by intro wq hSw; go_simp <;> with_reducible rfl) (by assumption) ?_
  try simp only [Act.put, List.setIfInBounds_toArray, List.set_cons_zero, List.set_cons_succ]
  refine takeW (i := 6) (by simp only [List.getElem?_toArray, List.getElem?_cons_succ, List.getElem?_cons_zero]; exact rfl) (by kernel_rfl) (by kernel_rfl) (by kernel_rfl) (by exact fun _ _ _ h => h) (by rfl) (by intro wq hSw; obtain ⟨z0, z1⟩ := hSw; go_simp <;> with_reducible rfl) (by assumption) ?_
  try simp only [Act.put, List.setIfInBounds_toArray, List.set_cons_zero, List.set_cons_succ]
  refine wpAnyH_ready (rs := [1]) (by kernel_rfl) (by simp) (AllReadyH.cons (by simp only [List.getElem?_toArray, List.getElem?_cons_succ, List.getElem?_cons_zero]; exact rfl) (fun K hK => ?_) AllReadyH.nil)
  go_simp
  have bn := below1 ww0 (.cells #[.int .u8 1] 5)
  have X2 := X1.trans (Ext.of_below v bn)
  have R2 := R1.below bn
  have V2 := V1.below bn
  have NW := one_new8 ww0 5 1
  have hb2 := Nat.le_trans hb1 bn.size
  have N2 := (⟨V2.c0, HTY.out _ (HT.out _ _ X2)⟩ : (ww0.alloc (.cells #[.int .u8 1] 5)).cell? ⟨w.heap.size, 0, none⟩ = some (.int .i64 1) ∧ (ww0.alloc (.cells #[.int .u8 1] 5)).cell? ⟨0, 1, none⟩ = some (.int .u32 ty))
  refine hK.out _ _ N2 (fun hHeld => ?_)
  clear hK K hHeld bn X1 R1 V1 N hb1
  try simp only [Act.put, List.setIfInBounds_toArray, List.set_cons_zero, List.set_cons_succ]
  generalize hz9 : ww0.heap.size = z9 at *
  generalize ww0.alloc (.cells #[.int .u8 1] 5) = ww1 at *
  refine wpAnyH_ready (rs := [2]) (by kernel_rfl) (by simp) (AllReadyH.cons (by simp only [List.getElem?_toArray, List.getElem?_cons_succ, List.getElem?_cons_zero]; exact rfl) (fun K hK => ?_) AllReadyH.nil)
  refine wp_append_own_at (.tmp 5) (.tmp 6) 24 rfl base 5 i8 (.int .u8 0) 1 1 Tryz.underlying24 hi8 hy0 hy1 hy2 rfl (by decide) v bs.length (bs.map (Value.int .u8)) rfl R2 ⟨z9, 0, none⟩ ([1] : List Int).length _ (([1] : List Int).map (Value.int .u8)) rfl (by simp) NW (ones8 _) (by simp only [List.length_cons, List.length_nil]; unfold maxLen; omega) (by simp only [List.length_cons, List.length_nil]; omega) hb2 ?_
  intro v3 w3 R3 G3 A3
  have X23 := Ext.of_at G3 A3
  have X3 := X2.trans X23
  have V3 := X23.box V2 ne
  replace R3 : RowB base w3 v3 (bs ++ [1]) := RowB.app R3
  have hb3 := Nat.le_trans hb2 X23.size
  have N3 := (⟨V3.c0, HTY.out _ (HT.out _ _ X3)⟩ : w3.cell? ⟨w.heap.size, 0, none⟩ = some (.int .i64 1) ∧ w3.cell? ⟨0, 1, none⟩ = some (.int .u32 ty))
  have ne3 : v3.ownBlock ≠ some w.heap.size := by
    rcases X3.b with e | ⟨q, e, hq⟩
    · rw [e]; exact ne
    · intro e2
      rcases A3 with e4 | e4
      · exact ne (e4.symm.trans e2)
      · have := V2.lt
        rw [e4] at e2
        injection e2 with e2
        omega
  refine hK.out _ _ N3 (fun hHeld => ?_)
  clear hK K hHeld G3 A3 X23 R2 V2 X2 N2 hb2
  try simp only [Act.put, List.setIfInBounds_toArray, List.set_cons_zero, List.set_cons_succ]
  refine wpAnyH_ready (rs := [7]) (by kernel_rfl) (by simp) (AllReadyH.cons (by simp only [List.getElem?_toArray, List.getElem?_cons_succ, List.getElem?_cons_zero]; exact rfl) (fun K hK => ?_) AllReadyH.nil)
  go_simp
  go_at_call 31
  refine (putNumber32 base v3 (bs ++ [1]) ty _ R3 hb3 (by simp only [List.length_append, List.length_cons, List.length_nil]; omega) (by omega) (by omega)).mono ?_
  rintro e w4 ⟨v4, rfl, R4, X34⟩
  have X4 := X3.trans X34
  have V4 := X34.box V3 ne3
  have hb4 := Nat.le_trans hb3 X34.size
  have N4 := (⟨V4.c0, HTY.out _ (HT.out _ _ X4)⟩ : w4.cell? ⟨w.heap.size, 0, none⟩ = some (.int .i64 1) ∧ w4.cell? ⟨0, 1, none⟩ = some (.int .u32 ty))
  rw [List.append_assoc, ← HH.out] at R4
  refine hK.out _ _ N4 (fun hHeld => ?_)
  clear hK K hHeld X34 R3 V3 X3 N3 hb3
  try simp only [Act.put, List.setIfInBounds_toArray, List.set_cons_zero, List.set_cons_succ]
  refine takeW (i := 8) (by simp only [List.getElem?_toArray, List.getElem?_cons_succ, List.getElem?_cons_zero]; exact rfl) (by kernel_rfl) (by kernel_rfl) (by kernel_rfl) (by exact fun _ _ _ h => h) (by rfl) (by intro wq hSw; go_simp <;> with_reducible rfl) (by assumption) ?_
  try simp only [Act.put, List.setIfInBounds_toArray, List.set_cons_zero]
  refine wpAnyH_done (by kernel_rfl) ?_ _
  have L4 : (bs ++ H).length ≤ 50005 := by rw [List.length_append]; omega
  generalize HQ : bs ++ H = L at *
  have K0 := V4.c0
  have K1 := V4.c1
  obtain ⟨a', c', sg, sp⟩ := HC.out 0 hn.1
  obtain ⟨l0, l1⟩ := HR.out 0 hn.1
  have g0 := sg _ _ X4
  simp only [Nat.add_zero] at g0
  have PP := sp _ _ X4
  have PM := PP.max
  have PF := PP.fits
  unfold maxLen at PM

  obtain ⟨b', off', rfl, hp⟩ := PP.cells (by intro e; rw [e] at l0; exact absurd l0 (by simp))
  obtain ⟨g1, g2⟩ := hp 0 l0
  simp only [Nat.zero_mul, Nat.add_zero] at g1 g2
  have g3 : w4.cell? ⟨b', off', none⟩ = some (.int .i64 (ptA (rowA rs 0) 0).1) := g1
  have g4 : w4.cell? ⟨b', off' + 1, none⟩ = some (.int .i64 (ptA (rowA rs 0) 0).2) := g2
  clear hp sp sg g1 g2
  generalize hx : (ptA (rowA rs 0) 0).1 = x at *
  generalize hy : (ptA (rowA rs 0) 0).2 = y at *
  go_wp2_with fail
  refine (putPoint_any base v4 L x y _ R4 hb4 (by omega)).mono ?_
  rintro e w5 ⟨v5, rfl, R5, X5⟩
  go_wp2
  go_ret
  exact ⟨_, rfl, by rw [← List.append_assoc, HQ, hx, hy]; exact R5, X4.trans X5⟩

set_option maxRecDepth 20000 in
set_option maxHeartbeats 4000000 in
theorem putShape3 (base : Nat) (v : Value) (bs : List Int) (a : Option Addr) (c : Nat) (rs : List (List (Int × Int))) (w : World) (h : RowB base w v bs) (hb : base ≤ w.heap.size) (hl : bs.length ≤ 50000) (hS : SeesT w v a c rs) (hn : 0 < rs.length ∧ rs.length ≤ 12) (hr : ∀ i, i < rs.length → 0 < (rowA rs i).length ∧ (rowA rs i).length ≤ 60) (hT : Stays w v TabB) :
    Calls Tryz.prog 32 #[v, .agg #[.int .i64 3, .slice a rs.length c]] w fun e w' => ∃ v', e = .returned v' ∧ RowB base w' v' (bs ++ shBy 3 rs) ∧ Ext w v w' v' := by
  obtain ⟨i8, hi8, hy0, hy1, hy2⟩ := info_parts infoB
  have hm := hS.max
  have hf := hS.fits
  unfold maxLen at hm
  obtain ⟨b, off, rfl, hc⟩ := hS.cells (by intro e; rw [e] at hn; exact absurd hn.1 (by simp))
  have HC : Hid (∀ i, i < rs.length → ∃ a' c', Stays w v (fun W => W.cell? ⟨b, off + i, none⟩ = some (.slice a' (rowA rs i).length c')) ∧ Stays w v (fun W => SeesP W a' c' (rowA rs i))) := hc
  have HR : Hid (∀ i, i < rs.length → 0 < (rowA rs i).length ∧ (rowA rs i).length ≤ 60) := hr
  have HT : Hid (Stays w v TabB) := hT
  have B0 := below1 w (.cells #[.int .i64 3, .slice (some ⟨b, off, none⟩) rs.length c] 42)
  have V0 := Box2.new w (lo := w.heap.size) (Nat.le_refl _) (.int .i64 3) (.slice (some ⟨b, off, none⟩) rs.length c) 42
  have X0 := Ext.of_below v B0
  have R0 := h.below B0
  have ne := h.own_ne (k := w.heap.size) (Nat.le_refl _)
  have hb0 : base ≤ (w.alloc (.cells #[.int .i64 3, .slice (some ⟨b, off, none⟩) rs.length c] 42)).heap.size := Nat.le_trans hb B0.size
  have HH : Hid (hdB 3 = [1] ++ leB 4 (tyN 3)) := rfl
  have HS : Hid (shBy 3 rs = hdB 3 ++ (lnB (rowA rs 0))) := rfl
  have HD := hdB_len 3
  have TB : 0 ≤ tyN 3 ∧ tyN 3 ≤ 5 := by decide
  have ML4 : (leB 4 (tyN 3)).length ≤ 4 := by rw [leB_len]; omega
  have HTY : Hid (∀ W, TabB W → W.cell? ⟨0, 3, none⟩ = some (.int .u32 (tyN 3))) := fun W t => t 3 (by decide) (by decide)
  rw [HS.out]
  clear hc hS hr hT HS h
  generalize hty : tyN 3 = ty at *
  generalize HHd : hdB 3 = H at *
  go_enter Tryz.func32, Tryz.ntmps32
  go_upto_region 1 with fail
  generalize w.alloc (.cells #[.int .i64 3, .slice (some ⟨b, off, none⟩) rs.length c] 42) = W0 at *
  have hd := ((Below.refl W0.heap.size W0).drew : Below W0.heap.size W0 _)
  have X1 := X0.trans (Ext.of_below v hd)
  have R1 := R0.below hd
  have V1 := V0.below hd
  have hb1 := Nat.le_trans hb0 hd.size
  have N : W0.drew.cell? ⟨w.heap.size, 0, none⟩ = some (.int .i64 3) ∧ W0.drew.cell? ⟨0, 3, none⟩ = some (.int .u32 ty) := ⟨V1.c0, HTY.out _ (HT.out _ _ X1)⟩
  clear X0 R0 V0 hb0 hd
  refine wp_region_held_drew (S := fun W => W.cell? ⟨w.heap.size, 0, none⟩ = some (.int .i64 3) ∧ W.cell? ⟨0, 3, none⟩ = some (.int .u32 ty)) (by kernel_rfl) N (fun hHeld => ?_)
  clear hHeld
  revert N X1 R1 V1 hb1
  generalize W0.drew = ww0
  intro X1 R1 V1 hb1 N
  refine takeW (i := 0) (by simp only [List.getElem?_toArray, List.getElem?_cons_zero]; exact rfl) (by kernel_rfl) (by kernel_rfl) (by kernel_rfl) (by exact fun _ _ _ h => h) (by rfl) (by intro wq hSw; go_simp <;> with_reducible rfl) (by assumption) ?_
  try simp only [Act.put, List.setIfInBounds_toArray, List.set_cons_zero, List.set_cons_succ]
  refine takeW (i := 3) (by simp only [List.getElem?_toArray, List.getElem?_cons_succ, List.getElem?_cons_zero]; exact rfl) (by kernel_rfl) (by kernel_rfl) (by kernel_rfl) (by exact fun _ _ _ h => h) (by rfl) (by intro wq hSw; go_simp <;> with_reducible rfl) (by assumption) ?_
  try simp only [Act.put, List.setIfInBounds_toArray, List.set_cons_zero, List.set_cons_succ]
  refine takeW (i := 4) (by simp only [List.getElem?_toArray, List.getElem?_cons_succ, List.getElem?_cons_zero]; exact rfl) (by kernel_rfl) (by kernel_rfl) (by kernel_rfl) (by exact fun _ _ _ h => h) (by rfl) (by intro wq hSw; obtain ⟨z0, z1⟩ := hSw; go_simp <;> with_reducible rfl) (by assumption) ?_
  try simp only [Act.put, List.setIfInBounds_toArray, List.set_cons_zero, List.set_cons_succ]
  refine takeW (i := 5) (by simp only [List.getElem?_toArray, List.getElem?_cons_succ, List.getElem?_cons_zero]; exact rfl) (by kernel_rfl) (by kernel_rfl) (by kernel_rfl) (by exact fun _ _ _ h => h) (by rfl) (by intro wq hSw; go_simp <;> with_reducible rfl) (by assumption) ?_
  try simp only [Act.put, List.setIfInBounds_toArray, List.set_cons_zero, List.set_cons_succ]
  refine takeW (i := 6) (by simp only [List.getElem?_toArray, List.getElem?_cons_succ, List.getElem?_cons_zero]; exact rfl) (by kernel_rfl) (by kernel_rfl) (by kernel_rfl) (by exact fun _ _ _ h => h) (by rfl) (by intro wq hSw; obtain ⟨z0, z1⟩ := hSw; go_simp <;> with_reducible rfl) (by assumption) ?_
  try simp only [Act.put, List.setIfInBounds_toArray, List.set_cons_zero, List.set_cons_succ]
  refine wpAnyH_ready (rs := [1]) (by kernel_rfl) (by simp) (AllReadyH.cons (by simp only [List.getElem?_toArray, List.getElem?_cons_succ, List.getElem?_cons_zero]; exact rfl) (fun K hK => ?_) AllReadyH.nil)
  go_simp
  have bn := below1 ww0 (.cells #[.int .u8 1] 5)
  have X2 := X1.trans (Ext.of_below v bn)
  have R2 := R1.below bn
  have V2 := V1.below bn
  have NW := one_new8 ww0 5 1
  have hb2 := Nat.le_trans hb1 bn.size
  have N2 := (⟨V2.c0, HTY.out _ (HT.out _ _ X2)⟩ : (ww0.alloc (.cells #[.int .u8 1] 5)).cell? ⟨w.heap.size, 0, none⟩ = some (.int .i64 3) ∧ (ww0.alloc (.cells #[.int .u8 1] 5)).cell? ⟨0, 3, none⟩ = some (.int .u32 ty))
  refine hK.out _ _ N2 (fun hHeld => ?_)
  clear hK K hHeld bn X1 R1 V1 N hb1
  try simp only [Act.put, List.setIfInBounds_toArray, List.set_cons_zero, List.set_cons_succ]
  generalize hz9 : ww0.heap.size = z9 at *
  generalize ww0.alloc (.cells #[.int .u8 1] 5) = ww1 at *
  refine wpAnyH_ready (rs := [2]) (by kernel_rfl) (by simp) (AllReadyH.cons (by simp only [List.getElem?_toArray, List.getElem?_cons_succ, List.getElem?_cons_zero]; exact rfl) (fun K hK => ?_) AllReadyH.nil)
  refine wp_append_own_at (.tmp 5) (.tmp 6) 24 rfl base 5 i8 (.int .u8 0) 1 1 Tryz.underlying24 hi8 hy0 hy1 hy2 rfl (by decide) v bs.length (bs.map (Value.int .u8)) rfl R2 ⟨z9, 0, none⟩ ([1] : List Int).length _ (([1] : List Int).map (Value.int .u8)) rfl (by simp) NW (ones8 _) (by simp only [List.length_cons, List.length_nil]; unfold maxLen; omega) (by simp only [List.length_cons, List.length_nil]; omega) hb2 ?_
  intro v3 w3 R3 G3 A3
  have X23 := Ext.of_at G3 A3
  have X3 := X2.trans X23
  have V3 := X23.box V2 ne
  replace R3 : RowB base w3 v3 (bs ++ [1]) := RowB.app R3
  have hb3 := Nat.le_trans hb2 X23.size
  have N3 := (⟨V3.c0, HTY.out _ (HT.out _ _ X3)⟩ : w3.cell? ⟨w.heap.size, 0, none⟩ = some (.int .i64 3) ∧ w3.cell? ⟨0, 3, none⟩ = some (.int .u32 ty))
  have ne3 : v3.ownBlock ≠ some w.heap.size := by
    rcases X3.b with e | ⟨q, e, hq⟩
    · rw [e]; exact ne
    · intro e2
      rcases A3 with e4 | e4
      · exact ne (e4.symm.trans e2)
      · have := V2.lt
        rw [e4] at e2
        injection e2 with e2
        omega
  refine hK.out _ _ N3 (fun hHeld => ?_)
  clear hK K hHeld G3 A3 X23 R2 V2 X2 N2 hb2
  try simp only [Act.put, List.setIfInBounds_toArray, List.set_cons_zero, List.set_cons_succ]
  refine wpAnyH_ready (rs := [7]) (by kernel_rfl) (by simp) (AllReadyH.cons (by simp only [List.getElem?_toArray, List.getElem?_cons_succ, List.getElem?_cons_zero]; exact rfl) (fun K hK => ?_) AllReadyH.nil)
  go_simp
  go_at_call 31
  refine (putNumber32 base v3 (bs ++ [1]) ty _ R3 hb3 (by simp only [List.length_append, List.length_cons, List.length_nil]; omega) (by omega) (by omega)).mono ?_
  rintro e w4 ⟨v4, rfl, R4, X34⟩
  have X4 := X3.trans X34
  have V4 := X34.box V3 ne3
  have hb4 := Nat.le_trans hb3 X34.size
  have N4 := (⟨V4.c0, HTY.out _ (HT.out _ _ X4)⟩ : w4.cell? ⟨w.heap.size, 0, none⟩ = some (.int .i64 3) ∧ w4.cell? ⟨0, 3, none⟩ = some (.int .u32 ty))
  rw [List.append_assoc, ← HH.out] at R4
  refine hK.out _ _ N4 (fun hHeld => ?_)
  clear hK K hHeld X34 R3 V3 X3 N3 hb3
  try simp only [Act.put, List.setIfInBounds_toArray, List.set_cons_zero, List.set_cons_succ]
  refine takeW (i := 8) (by simp only [List.getElem?_toArray, List.getElem?_cons_succ, List.getElem?_cons_zero]; exact rfl) (by kernel_rfl) (by kernel_rfl) (by kernel_rfl) (by exact fun _ _ _ h => h) (by rfl) (by intro wq hSw; go_simp <;> with_reducible rfl) (by assumption) ?_
  try simp only [Act.put, List.setIfInBounds_toArray, List.set_cons_zero]
  refine wpAnyH_done (by kernel_rfl) ?_ _
  have L4 : (bs ++ H).length ≤ 50005 := by rw [List.length_append]; omega
  generalize HQ : bs ++ H = L at *
  have K0 := V4.c0
  have K1 := V4.c1
  obtain ⟨a', c', sg, sp⟩ := HC.out 0 hn.1
  obtain ⟨l0, l1⟩ := HR.out 0 hn.1
  have g0 := sg _ _ X4
  simp only [Nat.add_zero] at g0
  have PP := sp _ _ X4
  have PM := PP.max
  have PF := PP.fits
  unfold maxLen at PM

  have SS := Stays.step sp X4
  clear sp sg
  go_wp2_with fail
  refine (putLine_any base v4 L a' c' (rowA rs 0) _ R4 hb4 (by omega) (by omega) SS).mono ?_
  rintro e w5 ⟨v5, rfl, R5, X5⟩
  go_wp2
  go_ret
  exact ⟨_, rfl, by rw [← List.append_assoc, HQ]; exact R5, X4.trans X5⟩
end Go.Proofs.YtlkhbbllkkdhaaaGreatDoor
