/- The program's piece of a sector. -/
import Derived.Test.YtgcaemhcdpddiaaDoorPoK
namespace Go.Proofs.YtgcaemhcdpddiaaDoor
open Go.RowKit

theorem new_seesB (w : World) (bs : List Int) (t : TypeId) (hl : bs.length = 64) : SeesB (w.alloc (.cells (secA bs) t)) (some ⟨w.heap.size, 0, none⟩) 64 bs :=
  ⟨by omega, by unfold maxLen; omega, fun _ => ⟨_, _, rfl, fun i hi => by
    rw [Nat.zero_add]
    exact cell_new w (secA bs) t i (secA_at hi)⟩⟩
theorem run_load_sec {ev : Operand → Value} {o : Oper} {w : World} {bs : List Int} (hl : bs.length = 64) (x : Operand) (ho : o.op = .load 81 x) (p : Nat) (hx : ev x = .pointer (some ⟨p, 0, none⟩)) (hg : w.heap[p]? = some (.cells (secA bs) 81 (0, 0))) :
    (execOp ev o).run Tryd.prog w = .ok (.value (.agg (secA bs))) w := by
  have hi : (Tryd.prog.info? 81).map (·.size) = some (secA bs).size := by rw [secA_size, hl]; exact infoSec
  unfold execOp
  simp only [ho, hx, Instr.loadAt, Instr.sureAddr, Sem.run_bind, Sem.run_pure, Result.andThen_ok, run_loadVar_row w p 81 81 (secA bs) (0, 0) _ hg Tryd.underlying81 rfl hi]
/-- What pieceOf answers. -/
def PoRes (b : Nat) (w : World) (bs : List Int) (ep nu mk : Int) (v : Value) (ok : Bool) : Prop :=
  (ok = true ∧ LgIs bs ∧ ep = lgGet bs 0 ∧ nu = lgGet bs 4 ∧ mk = u8N bs 8 ∧ ∃ ad c, ad.block = b ∧ v = .slice (some ad) (lgPc bs).length c ∧ SeesB w (some ad) c (lgPc bs)) ∨ (ok = false ∧ ¬LgIs bs ∧ ep = 0 ∧ nu = 0 ∧ mk = 0 ∧ v = .slice none 0 0)

theorem sector_mk (ep nu mk : Int) (m : Bool) (ad : Addr) (n c : Nat) (ps : List Int) (w : World) (h : SeesB w (some ad) c ps) (hn : ps.length = n) (hp : n ≤ 44) (h8 : ∀ x ∈ ps, 0 ≤ x ∧ x < 256) (hm : mk = if m then 1 else 2) (e0 : 0 ≤ ep) (e1 : ep ≤ 4294967295) (n0 : 0 ≤ nu) (n1 : nu ≤ 4294967295) :
    Calls Tryd.prog 53 #[.agg #[.int .i64 ep, .int .i64 nu, .int .u8 mk, .slice (some ad) n c]] w fun e w' => e = .returned (.agg (secA (lgSec ep nu m ps))) ∧ Below w.heap.size w w' := by
  rw [← hn, hm]
  exact sector_any ep nu m ad c ps w h (by omega) h8 e0 e1 n0 n1
theorem slice_sec (p sn : Nat) (h : sn ≤ 44) (W : World) : (Instr.sliceAt 81 (.pointer (some ⟨p, 0, none⟩)) (some (.int .i64 16)) (some (.int .i64 (16 + (sn : Int)))) none).run Tryd.prog W = .ok (.slice (some ⟨p, 16, none⟩) sn 48) W := by
  have hal : Tryd.prog.arrayLen 81 = 64 := by simp [Program.arrayLen, Tryd.underlying81]
  have e : (16 + (sn : Int)).toNat = 16 + sn := by omega
  rw [run_sliceAt_array_lh W 81 ⟨p, 0, none⟩ (by simp [Program.arrayLen, Program.elem, Tryd.underlying81]) .i64 .i64 16 (16 + (sn : Int)) (by omega) (by omega) (by rw [hal]; omega), hal, e]
  go_simp
theorem arr_ne' {xs ys : List Int} (hx : xs.length = 64) (hy : ys.length = 64) : ∃ r : Bool, (r = false ↔ xs = ys) ∧ ∀ w, (binOp .neq 81 (.agg (secA xs)) (.agg (secA ys))).run Tryd.prog w = .ok (.bool r) w := by
  by_cases e : xs = ys
  · refine ⟨false, ⟨fun _ => e, fun _ => rfl⟩, fun w => ?_⟩
    obtain ⟨r, h1, h2⟩ := arr_ne hx hy w
    rw [h1, h2.2 e]
  · refine ⟨true, ⟨(fun q => by cases q), fun q => absurd q e⟩, fun w => ?_⟩
    obtain ⟨r, h1, h2⟩ := arr_ne hx hy w
    rw [h1]
    cases r
    · exact absurd (h2.1 rfl) e
    · rfl

set_option maxRecDepth 20000 in
set_option maxHeartbeats 4000000 in
theorem pieceOf_any (bs : List Int) (w : World) (hl : bs.length = 64) (h8 : ∀ x ∈ bs, 0 ≤ x ∧ x < 256) :
    Calls Tryd.prog 44 #[.agg (secA bs)] w fun e w' => ∃ ep nu mk v ok, e = .returned (.tuple #[.agg #[.int .i64 ep, .int .i64 nu, .int .u8 mk, v], .bool ok]) ∧ PoRes w.heap.size w' bs ep nu mk v ok ∧ Below w.heap.size w w' := by
  have B : Below w.heap.size w ((w.alloc (.cells (secA bs) 81)).alloc (.cells #[.int .i64 0, .int .i64 0, .int .u8 0, .slice none 0 0] 87)) := below2 w _ _
  have VR : Box4 w.heap.size ((w.alloc (.cells (secA bs) 81)).alloc (.cells #[.int .i64 0, .int .i64 0, .int .u8 0, .slice none 0 0] 87)) (w.heap.size + 1) (.int .i64 0) (.int .i64 0) (.int .u8 0) (.slice none 0 0) := by
    have := Box4.new (w.alloc (.cells (secA bs) 81)) (lo := w.heap.size) (by simp) (.int .i64 0) (.int .i64 0) (.int .u8 0) (.slice none 0 0) 87
    rw [World.size_alloc] at this
    exact this
  have SB : SeesB ((w.alloc (.cells (secA bs) 81)).alloc (.cells #[.int .i64 0, .int .i64 0, .int .u8 0, .slice none 0 0] 87)) (some ⟨w.heap.size, 0, none⟩) 64 bs := (new_seesB w bs 81 hl).below (below1 _ _)
  have HG : ((w.alloc (.cells (secA bs) 81)).alloc (.cells #[.int .i64 0, .int .i64 0, .int .u8 0, .slice none 0 0] 87)).heap[w.heap.size]? = some (.cells (secA bs) 81 (0, 0)) := (heap_alloc_old (w.alloc (.cells (secA bs) 81)) _ (by simp)).trans (heap_alloc_new w (.cells (secA bs) 81))
  have bz9 := u8At h8 9
  have bz8 := u8At h8 8
  have s9 : ((w.alloc (.cells (secA bs) 81)).alloc (.cells #[.int .i64 0, .int .i64 0, .int .u8 0, .slice none 0 0] 87)).cell? ⟨w.heap.size, 9, none⟩ = some (.int .u8 (u8N bs 9)) := by
    obtain ⟨b, off, e, hc⟩ := SB.cells (by intro e; rw [e] at hl; simp at hl)
    simp only [Option.some.injEq, Addr.mk.injEq] at e
    obtain ⟨rfl, rfl, _⟩ := e
    have := hc 9 (by omega)
    rwa [Nat.zero_add] at this
  have s8 : ((w.alloc (.cells (secA bs) 81)).alloc (.cells #[.int .i64 0, .int .i64 0, .int .u8 0, .slice none 0 0] 87)).cell? ⟨w.heap.size, 8, none⟩ = some (.int .u8 (u8N bs 8)) := by
    obtain ⟨b, off, e, hc⟩ := SB.cells (by intro e; rw [e] at hl; simp at hl)
    simp only [Option.some.injEq, Addr.mk.injEq] at e
    obtain ⟨rfl, rfl, _⟩ := e
    have := hc 8 (by omega)
    rwa [Nat.zero_add] at this
  have hp0 : w.heap.size < ((w.alloc (.cells (secA bs) 81)).alloc (.cells #[.int .i64 0, .int .i64 0, .int .u8 0, .slice none 0 0] 87)).heap.size := World.block_lt_of_cell? _ _ s9
  obtain ⟨sn, HSN⟩ : ∃ sn : Nat, u8N bs 9 = (sn : Int) := ⟨(u8N bs 9).toNat, by unfold u8N; omega⟩
  have sn2 : sn < 256 := by unfold u8N at HSN; omega
  have HPC : Hid (lgPc bs = (bs.drop 16).take sn) := by show _ = _; unfold lgPc; rw [HSN]; rfl
  obtain ⟨mk, HMK⟩ : ∃ mk, Hid (u8N bs 8 = mk) := ⟨_, rfl⟩
  obtain ⟨ep, HEP⟩ : ∃ ep, Hid (lgGet bs 0 = ep) := ⟨_, rfl⟩
  obtain ⟨nu, HNU⟩ : ∃ nu, Hid (lgGet bs 4 = nu) := ⟨_, rfl⟩
  have mk0 : 0 ≤ mk ∧ mk < 256 := by rw [← HMK.out]; exact bz8
  have eb : 0 ≤ ep ∧ ep ≤ 4294967295 := by rw [← HEP.out]; have := u8At h8 0; have := u8At h8 1; have := u8At h8 2; have := u8At h8 3; show 0 ≤ bs[0]?.getD 0 + bs[1]?.getD 0 * 256 + bs[2]?.getD 0 * 65536 + bs[3]?.getD 0 * 16777216 ∧ bs[0]?.getD 0 + bs[1]?.getD 0 * 256 + bs[2]?.getD 0 * 65536 + bs[3]?.getD 0 * 16777216 ≤ 4294967295; omega
  have nb : 0 ≤ nu ∧ nu ≤ 4294967295 := by rw [← HNU.out]; have := u8At h8 4; have := u8At h8 5; have := u8At h8 6; have := u8At h8 7; show 0 ≤ bs[4]?.getD 0 + bs[5]?.getD 0 * 256 + bs[6]?.getD 0 * 65536 + bs[7]?.getD 0 * 16777216 ∧ bs[4]?.getD 0 + bs[5]?.getD 0 * 256 + bs[6]?.getD 0 * 65536 + bs[7]?.getD 0 * 16777216 ≤ 4294967295; omega
  obtain ⟨ep0, ep1⟩ := eb
  obtain ⟨nu0, nu1⟩ := nb
  have HIS : Hid (LgIs bs ↔ PcOk ep mk sn ∧ lgSec ep nu (mk == 1) (lgPc bs) = bs) := by
    show _ ↔ _
    unfold LgIs PcOk
    rw [HSN, HMK.out, HEP.out, HNU.out]
    constructor
    · rintro ⟨q1, q2, q3, q4, q5⟩
      refine ⟨⟨q1, ?_⟩, q5⟩
      by_cases e : mk = 1
      · exact .inl ⟨e, by have := q4 e; omega⟩
      · exact .inr ⟨by omega, by omega⟩
    · rintro ⟨⟨q1, q2⟩, q5⟩
      refine ⟨q1, ?_, ?_, ?_, q5⟩ <;> rcases q2 with q2 | q2 <;> omega
  rw [HSN] at s9
  rw [HMK.out] at s8
  have h8' : Hid (∀ x ∈ bs, 0 ≤ x ∧ x < 256) := h8
  have HGH : Hid (((w.alloc (.cells (secA bs) 81)).alloc (.cells #[.int .i64 0, .int .i64 0, .int .u8 0, .slice none 0 0] 87)).heap[w.heap.size]? = some (.cells (secA bs) 81 (0, 0))) := HG
  have SBH : Hid (SeesB ((w.alloc (.cells (secA bs) 81)).alloc (.cells #[.int .i64 0, .int .i64 0, .int .u8 0, .slice none 0 0] 87)) (some ⟨w.heap.size, 0, none⟩) 64 bs) := SB
  clear bz8 bz9 HSN HG SB h8
  go_enter Tryd.func44, Tryd.ntmps44
  go_upto_region 1 with fail
  generalize ((w.alloc (.cells (secA bs) 81)).alloc (.cells #[.int .i64 0, .int .i64 0, .int .u8 0, .slice none 0 0] 87)) = w0 at *
  by_cases h44 : 44 < sn
  · have NI : Hid (¬LgIs bs) := fun q => by have := (HIS.out.1 q).1.2; omega
    have E := Box4.chain B VR (.int .i64 0) (.int .i64 0) (.int .u8 0) (.slice none 0 0)
    obtain ⟨z0, z1, z2, z3, _, _⟩ := VR.put (.int .i64 0) (.int .i64 0) (.int .u8 0) (.slice none 0 0)
    obtain ⟨d0, d1, d2, d3, df, _⟩ := id VR
    clear HIS HEP HNU HMK HGH SBH h8' HPC
    go_wp2
    refine bodyPost_ret (v := .tuple #[.agg #[.int .i64 0, .int .i64 0, .int .u8 0, .slice none 0 0], .bool false]) (by simp [results, Tryd.results44, go_sem, z0, z1, z2, z3]) rfl ?_
    exact ⟨_, _, _, _, _, rfl, .inr ⟨rfl, NI.out, rfl, rfl, rfl, rfl⟩, E⟩
  · have hsn : sn ≤ 44 := by omega
    have hq0 : w.heap.size + 1 < w0.heap.size := VR.lt
    have bn := below1 w0 (.cells #[.slice (some ⟨w.heap.size, 0, none⟩) 64 64, .int .i64 0, .int .u8 1] 101)
    have Q0 := Box3.new w0 (lo := w.heap.size) B.size (.slice (some ⟨w.heap.size, 0, none⟩) 64 64) (.int .i64 0) (.int .u8 1) 101
    replace B := B.trans (bn.mono B.size)
    replace VR := VR.below bn
    replace s8 := bat bn s8
    have HG1 : Hid ((w0.alloc (.cells #[.slice (some ⟨w.heap.size, 0, none⟩) 64 64, .int .i64 0, .int .u8 1] 101)).heap[w.heap.size]? = some (.cells (secA bs) 81 (0, 0))) := (bn.block _ hp0).trans HGH.out
    have SB1 : Hid (SeesB (w0.alloc (.cells #[.slice (some ⟨w.heap.size, 0, none⟩) 64 64, .int .i64 0, .int .u8 1] 101)) (some ⟨w.heap.size, 0, none⟩) 64 bs) := SBH.out.below bn
    clear bn HGH SBH
    go_wp2_with fail
    generalize w0.alloc (.cells #[.slice (some ⟨w.heap.size, 0, none⟩) 64 64, .int .i64 0, .int .u8 1] 101) = w1 at *
    generalize hq : w0.heap.size = q at *
    have Q1 : Box3 w.heap.size w1 q (.slice (some ⟨w.heap.size, 0, none⟩) bs.length 64) (.int .i64 ((0 : Nat) : Int)) (.int .u8 1) := by rw [hl]; exact Q0
    refine (readNumber32 w.heap.size q _ 64 bs 0 _ SB1.out Q1 (by omega) (by omega) h8'.out (fun b off e => by simp only [Option.some.injEq, Addr.mk.injEq] at e; omega)).mono ?_
    rintro e x1 ⟨rfl, Q2, G⟩
    rw [HEP.out]
    have B1 := B.grown G B.size (fun k hk => by injection hk with hk; omega)
    have V1 := VR.grownL G (by omega)
    have t8 : x1.cell? ⟨w.heap.size, 8, none⟩ = some (.int .u8 mk) := (World.cell?_of_block (a := ⟨w.heap.size, 8, none⟩) (G.block _ (World.block_lt_of_cell? _ _ s8) (by simp; omega))).trans s8
    have HG2 : Hid (x1.heap[w.heap.size]? = some (.cells (secA bs) 81 (0, 0))) := (G.block _ (World.block_lt_of_cell? _ _ s8) (by simp; omega)).trans HG1.out
    have SB2 : Hid (SeesB x1 (some ⟨w.heap.size, 0, none⟩) 64 bs) := SB1.out.keptW G (fun b off _ e => by simp only [Option.some.injEq, Addr.mk.injEq] at e; simp; omega)
    rw [show ((0 : Nat) : Int) + 4 = ((4 : Nat) : Int) from rfl] at Q2
    clear Q0 Q1 G HG1 SB1 s8 B VR s9
    go_wp2_with fail
    refine (readNumber32 w.heap.size q _ 64 bs 4 _ SB2.out Q2 (by omega) (by omega) h8'.out (fun b off e => by simp only [Option.some.injEq, Addr.mk.injEq] at e; omega)).mono ?_
    rintro e x2 ⟨rfl, Q3, G⟩
    rw [HNU.out]
    have B := B1.grown G B1.size (fun k hk => by injection hk with hk; omega)
    have VR := V1.grownL G (by omega)
    have s8 : x2.cell? ⟨w.heap.size, 8, none⟩ = some (.int .u8 mk) := (World.cell?_of_block (a := ⟨w.heap.size, 8, none⟩) (G.block _ (World.block_lt_of_cell? _ _ t8) (by simp; omega))).trans t8
    have HG : Hid (x2.heap[w.heap.size]? = some (.cells (secA bs) 81 (0, 0))) := (G.block _ (World.block_lt_of_cell? _ _ t8) (by simp; omega)).trans HG2.out
    have SB : Hid (SeesB x2 (some ⟨w.heap.size, 0, none⟩) 64 bs) := SB2.out.keptW G (fun b off _ e => by simp only [Option.some.injEq, Addr.mk.injEq] at e; simp; omega)
    have we : IntKind.i64.wrap ep = ep := by rw [IntKind.wrap_i64]; omega
    have wn : IntKind.i64.wrap nu = nu := by rw [IntKind.wrap_i64]; omega
    have w16 : IntKind.i64.wrap (16 + (sn : Int)) = 16 + (sn : Int) := by rw [IntKind.wrap_i64]; omega
    have hsl := slice_sec w.heap.size sn hsn
    clear Q2 Q3 G HG2 SB2 t8 B1 V1
    go_wp2_with fail
    refine wp_region_held_drew (S := Below x2.heap.size x2) (by kernel_rfl) ((Below.refl _ _).drew) (fun hHeld => ?_)
    have N : Below x2.heap.size x2 x2.drew := hHeld
    revert hHeld N
    generalize x2.drew = ww0
    intro hHeld N
    refine takeQ (i := 0) (gt rfl) (by kernel_rfl) (fun _ _ _ h => h) (by rfl) (by intro wq _; go_simp <;> with_reducible rfl) (by assumption) ?_
    try simp only [Act.put, sA, sB, sC]
    refine takeQ (i := 1) (gt rfl) (by kernel_rfl) (fun _ _ _ h => h) (by rfl) (by intro wq _; go_simp <;> with_reducible rfl) (by assumption) ?_
    try simp only [Act.put, sA, sB, sC]
    refine takeQ (i := 2) (gt rfl) (by kernel_rfl) (fun _ _ _ h => h) (by rfl) (by intro wq _; go_simp <;> with_reducible rfl) (by assumption) ?_
    try simp only [Act.put, sA, sB, sC]
    refine takeQ (i := 3) (gt rfl) (by kernel_rfl) (fun _ _ _ h => h) (by rfl) (by intro wq _; go_simp <;> with_reducible rfl) (by assumption) ?_
    try simp only [Act.put, sA, sB, sC]
    refine takeQ (i := 4) (gt rfl) (by kernel_rfl) (fun _ _ _ h => h) (by rfl) (by intro wq _; go_simp <;> with_reducible rfl) (by assumption) ?_
    try simp only [Act.put, sA, sB, sC]
    refine takeQ (i := 5) (gt rfl) (by kernel_rfl) (fun _ _ _ h => h) (by rfl) (by intro wq hSw; have q0 := bat hSw s8; go_simp <;> with_reducible rfl) (by assumption) ?_
    try simp only [Act.put, sA, sB, sC]
    refine takeQ (i := 6) (gt rfl) (by kernel_rfl) (fun _ _ _ h => h) (by rfl) (by intro wq _; go_simp <;> with_reducible rfl) (by assumption) ?_
    try simp only [Act.put, sA, sB, sC]
    refine takeQ (i := 7) (gt rfl) (by kernel_rfl) (fun _ _ _ h => h) (by rfl) (by intro wq _; go_simp <;> with_reducible rfl) (by assumption) ?_
    try simp only [Act.put, sA, sB, sC]
    refine takeQ (i := 8) (gt rfl) (by kernel_rfl) (fun _ _ _ h => h) (by rfl) (by intro wq _; go_simp <;> with_reducible rfl) (by assumption) ?_
    try simp only [Act.put, sA, sB, sC]
    refine takeQ (i := 9) (gt rfl) (by kernel_rfl) (fun _ _ _ h => h) (by rfl) (by intro wq _; go_simp <;> with_reducible rfl) (by assumption) ?_
    try simp only [Act.put, sA, sB, sC]
    refine wpAnyH_ready (rs := [10]) (by kernel_rfl) (by simp) (AllReadyH.cons (gt rfl) (fun K hK => ?_) AllReadyH.nil)
    go_simp
    have KB := Box4.new ww0 N.size (.int .i64 0) (.int .i64 0) (.int .u8 0) (.slice none 0 0) 87
    have hb := below1 ww0 (.cells #[.int .i64 0, .int .i64 0, .int .u8 0, .slice none 0 0] 87)
    replace N := N.trans (hb.mono N.size)
    clear hb
    generalize ww0.alloc (.cells #[.int .i64 0, .int .i64 0, .int .u8 0, .slice none 0 0] 87) = ww1 at *
    refine hK.out _ _ N (fun hHeld => ?_)
    clear hK K
    try simp only [Act.put, sA, sB, sC]
    refine wpAnyH_ready (rs := [11]) (by kernel_rfl) (by simp) (AllReadyH.cons (gt rfl) (fun K hK => ?_) AllReadyH.nil)
    have z0 := KB.c0
    have z1 := KB.c1
    have z2 := KB.c2
    have z3 := KB.c3
    have zf := KB.fr
    go_simp
    clear z0 z1 z2 z3 zf
    replace N := Box4.chain N KB (.int .i64 ep) (.int .i64 nu) (.int .u8 mk) (.slice (some ⟨w.heap.size, 16, none⟩) sn 48)
    replace KB := KB.put (.int .i64 ep) (.int .i64 nu) (.int .u8 mk) (.slice (some ⟨w.heap.size, 16, none⟩) sn 48)
    refine hK.out _ _ N (fun hHeld => ?_)
    clear hK K
    try simp only [Act.put, sA, sB, sC]
    refine wpAnyH_done (by kernel_rfl) ?_ _
    replace B := B.trans (N.mono B.size)
    replace VR := VR.below N
    have HG' : Hid (((((ww1.setCell ⟨ww0.heap.size, 0, none⟩ (.int .i64 ep)).setCell ⟨ww0.heap.size, 1, none⟩ (.int .i64 nu)).setCell ⟨ww0.heap.size, 2, none⟩ (.int .u8 mk)).setCell ⟨ww0.heap.size, 3, none⟩ (.slice (some ⟨w.heap.size, 16, none⟩) sn 48)).heap[w.heap.size]? = some (.cells (secA bs) 81 (0, 0))) := (N.block _ (World.block_lt_of_cell? _ _ s8)).trans HG.out
    have SB' : SeesB ((((ww1.setCell ⟨ww0.heap.size, 0, none⟩ (.int .i64 ep)).setCell ⟨ww0.heap.size, 1, none⟩ (.int .i64 nu)).setCell ⟨ww0.heap.size, 2, none⟩ (.int .u8 mk)).setCell ⟨ww0.heap.size, 3, none⟩ (.slice (some ⟨w.heap.size, 16, none⟩) sn 48)) (some ⟨w.heap.size, 0, none⟩) 64 bs := SB.out.below N
    have SP : Hid (SeesB ((((ww1.setCell ⟨ww0.heap.size, 0, none⟩ (.int .i64 ep)).setCell ⟨ww0.heap.size, 1, none⟩ (.int .i64 nu)).setCell ⟨ww0.heap.size, 2, none⟩ (.int .u8 mk)).setCell ⟨ww0.heap.size, 3, none⟩ (.slice (some ⟨w.heap.size, 16, none⟩) sn 48)) (some ⟨w.heap.size, 16, none⟩) 48 (lgPc bs)) := by
      show SeesB _ _ _ _
      rw [HPC.out]
      have := SB'.part (i := 16) (n := sn) (by omega)
      rwa [Nat.zero_add] at this
    have hpX : w.heap.size < ((((ww1.setCell ⟨ww0.heap.size, 0, none⟩ (.int .i64 ep)).setCell ⟨ww0.heap.size, 1, none⟩ (.int .i64 nu)).setCell ⟨ww0.heap.size, 2, none⟩ (.int .u8 mk)).setCell ⟨ww0.heap.size, 3, none⟩ (.slice (some ⟨w.heap.size, 16, none⟩) sn 48)).heap.size := Nat.lt_of_lt_of_le (World.block_lt_of_cell? _ _ s8) N.size
    have HLN : Hid ((lgPc bs).length = sn) := by show _ = _; rw [HPC.out, List.length_take, List.length_drop]; omega
    have hp8 : Hid (∀ x ∈ lgPc bs, 0 ≤ x ∧ x < 256) := fun x hx => by rw [HPC.out] at hx; exact h8'.out x (List.mem_of_mem_drop (List.mem_of_mem_take hx))
    clear HG SB SB' s8 N hHeld HPC h8'
    have HG := HG'
    clear HG'
    generalize ((((ww1.setCell ⟨ww0.heap.size, 0, none⟩ (.int .i64 ep)).setCell ⟨ww0.heap.size, 1, none⟩ (.int .i64 nu)).setCell ⟨ww0.heap.size, 2, none⟩ (.int .u8 mk)).setCell ⟨ww0.heap.size, 3, none⟩ (.slice (some ⟨w.heap.size, 16, none⟩) sn 48)) = X4 at *
    generalize ww0.heap.size = p4 at *
    obtain ⟨k0, k1, k2, k3, _, _⟩ := id KB
    by_cases hok0 : PcOk ep mk sn
    · have hok : Hid (∀ r : Bool, (r = true ↔ PcOk ep mk sn) → r = true) := fun r q => q.2 hok0
      have hmm : Hid (mk = if (mk == 1) then 1 else 2) := by
        show _ = _
        rcases hok0.2 with q | q
        · rw [q.1]; rfl
        · rw [q.1]; rfl
      obtain ⟨rn, hrn, hne⟩ := arr_ne' (xs := lgSec ep nu (mk == 1) (lgPc bs)) (ys := bs) (lgSec_len (by rw [HLN.out]; exact hsn)) hl
      cases rn with
      | false =>
        have YI : Hid (LgIs bs) := HIS.out.2 ⟨hok0, hrn.1 rfl⟩
        clear HIS hrn hok0
        go_wp2_with fail
        refine wp_region_held_drew (S := Below X4.heap.size X4) (by kernel_rfl) ((Below.refl _ _).drew) (fun hHeld => ?_)
        have N : Below X4.heap.size X4 X4.drew := hHeld
        revert hHeld N
        generalize X4.drew = ww0
        intro hHeld N
        refine takeQ (i := 0) (gt rfl) (by kernel_rfl) (fun _ _ _ h => h) (by rfl) (by intro wq hSw; have q0 := bat hSw k0; have q1 := bat hSw k1; have q2 := bat hSw k2; have q3 := bat hSw k3; go_simp <;> with_reducible rfl) (by assumption) ?_
        try simp only [Act.put, sA, sB, sC]
        refine wpAnyH_ready (rs := [1]) (by kernel_rfl) (by simp) (AllReadyH.cons (gt rfl) (fun K hK => ?_) AllReadyH.nil)
        go_simp
        refine (pieceOk_any ep nu mk _ sn 48 _ (by omega)).mono ?_
        rintro e1 ww1 ⟨r1, rfl, hr1, hb⟩
        rw [hok.out r1 hr1]
        clear hr1
        replace N := N.trans (hb.mono N.size)
        clear hb
        refine hK.out _ _ N (fun hHeld => ?_)
        clear hK K
        try simp only [Act.put, sA, sB, sC]
        refine takeQ (i := 2) (gt rfl) (by kernel_rfl) (fun _ _ _ h => h) (by rfl) (by intro wq _; go_simp <;> with_reducible rfl) (by assumption) ?_
        try simp only [Act.put, sA, sB, sC]
        refine takeQ (i := 3) (gt rfl) (by kernel_rfl) (fun _ _ _ h => h) (by rfl) (by intro wq _; go_simp <;> with_reducible rfl) (by assumption) ?_
        try simp only [Act.put, sA, sB, sC]
        refine takeQ (i := 4) (gt rfl) (by kernel_rfl) (fun _ _ _ h => h) (by rfl) (by intro wq hSw; have q0 := bat hSw k0; have q1 := bat hSw k1; have q2 := bat hSw k2; have q3 := bat hSw k3; go_simp <;> with_reducible rfl) (by assumption) ?_
        try simp only [Act.put, sA, sB, sC]
        refine takeQ (i := 6) (v := .agg (secA bs)) (gt rfl) (by kernel_rfl) (fun _ _ _ h => h) (by rfl) (by intro wq hSw; exact run_load_sec hl (.tmp 1) rfl w.heap.size rfl ((hSw.block _ hpX).trans HG.out)) (by assumption) ?_
        try simp only [Act.put, sA, sB, sC]
        refine wpAnyH_ready (rs := [5]) (by kernel_rfl) (by simp) (AllReadyH.cons (gt rfl) (fun K hK => ?_) AllReadyH.nil)
        go_simp
        refine (sector_mk ep nu mk (mk == 1) ⟨w.heap.size, 16, none⟩ sn 48 (lgPc bs) _ (SP.out.below N) HLN.out hsn hp8.out hmm.out ep0 ep1 nu0 nu1).mono ?_
        rintro e1 ww2 ⟨rfl, hb⟩
        replace N := N.trans (hb.mono N.size)
        clear hb
        refine hK.out _ _ N (fun hHeld => ?_)
        clear hK K
        try simp only [Act.put, sA, sB, sC]
        refine takeQ (i := 7) (v := .bool false) (gt rfl) (by kernel_rfl) (fun _ _ _ h => h) (by rfl) (by intro wq hSw; have hn7 := hne wq; go_simp <;> with_reducible rfl) (by assumption) ?_
        try simp only [Act.put, sA, sB, sC]
        refine takeQ (i := 8) (gt rfl) (by kernel_rfl) (fun _ _ _ h => h) (by rfl) (by intro wq _; go_simp <;> with_reducible rfl) (by assumption) ?_
        try simp only [Act.put, sA, sB, sC]
        refine wpAnyH_done (by kernel_rfl) ?_ _
        replace B := B.trans (N.mono B.size)
        replace VR := VR.below N
        have SQ := SP.out.below N
        replace KB := KB.below N
        have E := Box4.chain B VR (.int .i64 ep) (.int .i64 nu) (.int .u8 mk) (.slice (some ⟨w.heap.size, 16, none⟩) sn 48)
        have gq := ((((grownBy_refl ww2 (some (w.heap.size + 1))))) )
        obtain ⟨z0, z1, z2, z3, _, _⟩ := VR.put (.int .i64 ep) (.int .i64 nu) (.int .u8 mk) (.slice (some ⟨w.heap.size, 16, none⟩) sn 48)
        obtain ⟨d0, d1, d2, d3, df, _⟩ := id VR
        obtain ⟨k0, k1, k2, k3, _, _⟩ := id KB
        have SR : Hid (SeesB (((((ww2.setCell ⟨w.heap.size + 1, 0, none⟩ (.int .i64 ep))).setCell ⟨w.heap.size + 1, 1, none⟩ (.int .i64 nu)).setCell ⟨w.heap.size + 1, 2, none⟩ (.int .u8 mk)).setCell ⟨w.heap.size + 1, 3, none⟩ (.slice (some ⟨w.heap.size, 16, none⟩) sn 48)) (some ⟨w.heap.size, 16, none⟩) 48 (lgPc bs)) := SQ.keptW (row := some (w.heap.size + 1)) (grownBy_setCell (p := ⟨w.heap.size + 1, 3, none⟩) (grownBy_setCell (p := ⟨w.heap.size + 1, 2, none⟩) (grownBy_setCell (p := ⟨w.heap.size + 1, 1, none⟩) (grownBy_setCell (p := ⟨w.heap.size + 1, 0, none⟩) (grownBy_refl _ _) rfl _) rfl _) rfl _) rfl _) (fun b off _ e => by simp only [Option.some.injEq, Addr.mk.injEq] at e; simp; omega)
        clear N hHeld HG SP SQ gq
        go_wp2
        refine bodyPost_ret (v := .tuple #[.agg #[.int .i64 ep, .int .i64 nu, .int .u8 mk, .slice (some ⟨w.heap.size, 16, none⟩) sn 48], .bool true]) (by simp [results, Tryd.results44, go_sem, z0, z1, z2, z3]) rfl ?_
        exact ⟨_, _, _, _, _, rfl, .inl ⟨rfl, YI.out, HEP.out.symm, HNU.out.symm, HMK.out.symm, ⟨w.heap.size, 16, none⟩, 48, rfl, by rw [HLN.out], SR.out⟩, E⟩
      | true =>
        have NI : Hid (¬LgIs bs) := fun q => by have := hrn.2 (HIS.out.1 q).2; cases this
        clear HIS hrn hok0
        go_wp2_with fail
        refine wp_region_held_drew (S := Below X4.heap.size X4) (by kernel_rfl) ((Below.refl _ _).drew) (fun hHeld => ?_)
        have N : Below X4.heap.size X4 X4.drew := hHeld
        revert hHeld N
        generalize X4.drew = ww0
        intro hHeld N
        refine takeQ (i := 0) (gt rfl) (by kernel_rfl) (fun _ _ _ h => h) (by rfl) (by intro wq hSw; have q0 := bat hSw k0; have q1 := bat hSw k1; have q2 := bat hSw k2; have q3 := bat hSw k3; go_simp <;> with_reducible rfl) (by assumption) ?_
        try simp only [Act.put, sA, sB, sC]
        refine wpAnyH_ready (rs := [1]) (by kernel_rfl) (by simp) (AllReadyH.cons (gt rfl) (fun K hK => ?_) AllReadyH.nil)
        go_simp
        refine (pieceOk_any ep nu mk _ sn 48 _ (by omega)).mono ?_
        rintro e1 ww1 ⟨r1, rfl, hr1, hb⟩
        rw [hok.out r1 hr1]
        clear hr1
        replace N := N.trans (hb.mono N.size)
        clear hb
        refine hK.out _ _ N (fun hHeld => ?_)
        clear hK K
        try simp only [Act.put, sA, sB, sC]
        refine takeQ (i := 2) (gt rfl) (by kernel_rfl) (fun _ _ _ h => h) (by rfl) (by intro wq _; go_simp <;> with_reducible rfl) (by assumption) ?_
        try simp only [Act.put, sA, sB, sC]
        refine takeQ (i := 3) (gt rfl) (by kernel_rfl) (fun _ _ _ h => h) (by rfl) (by intro wq _; go_simp <;> with_reducible rfl) (by assumption) ?_
        try simp only [Act.put, sA, sB, sC]
        refine takeQ (i := 4) (gt rfl) (by kernel_rfl) (fun _ _ _ h => h) (by rfl) (by intro wq hSw; have q0 := bat hSw k0; have q1 := bat hSw k1; have q2 := bat hSw k2; have q3 := bat hSw k3; go_simp <;> with_reducible rfl) (by assumption) ?_
        try simp only [Act.put, sA, sB, sC]
        refine takeQ (i := 6) (v := .agg (secA bs)) (gt rfl) (by kernel_rfl) (fun _ _ _ h => h) (by rfl) (by intro wq hSw; exact run_load_sec hl (.tmp 1) rfl w.heap.size rfl ((hSw.block _ hpX).trans HG.out)) (by assumption) ?_
        try simp only [Act.put, sA, sB, sC]
        refine wpAnyH_ready (rs := [5]) (by kernel_rfl) (by simp) (AllReadyH.cons (gt rfl) (fun K hK => ?_) AllReadyH.nil)
        go_simp
        refine (sector_mk ep nu mk (mk == 1) ⟨w.heap.size, 16, none⟩ sn 48 (lgPc bs) _ (SP.out.below N) HLN.out hsn hp8.out hmm.out ep0 ep1 nu0 nu1).mono ?_
        rintro e1 ww2 ⟨rfl, hb⟩
        replace N := N.trans (hb.mono N.size)
        clear hb
        refine hK.out _ _ N (fun hHeld => ?_)
        clear hK K
        try simp only [Act.put, sA, sB, sC]
        refine takeQ (i := 7) (v := .bool true) (gt rfl) (by kernel_rfl) (fun _ _ _ h => h) (by rfl) (by intro wq hSw; have hn7 := hne wq; go_simp <;> with_reducible rfl) (by assumption) ?_
        try simp only [Act.put, sA, sB, sC]
        refine takeQ (i := 8) (gt rfl) (by kernel_rfl) (fun _ _ _ h => h) (by rfl) (by intro wq _; go_simp <;> with_reducible rfl) (by assumption) ?_
        try simp only [Act.put, sA, sB, sC]
        refine wpAnyH_done (by kernel_rfl) ?_ _
        replace B := B.trans (N.mono B.size)
        replace VR := VR.below N
        have E := Box4.chain B VR (.int .i64 0) (.int .i64 0) (.int .u8 0) (.slice none 0 0)
        obtain ⟨z0, z1, z2, z3, _, _⟩ := VR.put (.int .i64 0) (.int .i64 0) (.int .u8 0) (.slice none 0 0)
        obtain ⟨d0, d1, d2, d3, df, _⟩ := id VR
        clear N hHeld HG SP HMK HEP HNU KB k0 k1 k2 k3
        go_wp2
        refine bodyPost_ret (v := .tuple #[.agg #[.int .i64 0, .int .i64 0, .int .u8 0, .slice none 0 0], .bool false]) (by simp [results, Tryd.results44, go_sem, z0, z1, z2, z3]) rfl ?_
        exact ⟨_, _, _, _, _, rfl, .inr ⟨rfl, NI.out, rfl, rfl, rfl, rfl⟩, E⟩
    · have hok : Hid (∀ r : Bool, (r = true ↔ PcOk ep mk sn) → r = false) := fun r q => by
        cases r
        · rfl
        · exact absurd (q.1 rfl) hok0
      have NI : Hid (¬LgIs bs) := fun q => hok0 (HIS.out.1 q).1
      clear HIS hok0
      go_wp2_with fail
      refine wp_region_held_drew (S := Below X4.heap.size X4) (by kernel_rfl) ((Below.refl _ _).drew) (fun hHeld => ?_)
      have N : Below X4.heap.size X4 X4.drew := hHeld
      revert hHeld N
      generalize X4.drew = ww0
      intro hHeld N
      refine takeQ (i := 0) (gt rfl) (by kernel_rfl) (fun _ _ _ h => h) (by rfl) (by intro wq hSw; have q0 := bat hSw k0; have q1 := bat hSw k1; have q2 := bat hSw k2; have q3 := bat hSw k3; go_simp <;> with_reducible rfl) (by assumption) ?_
      try simp only [Act.put, sA, sB, sC]
      refine wpAnyH_ready (rs := [1]) (by kernel_rfl) (by simp) (AllReadyH.cons (gt rfl) (fun K hK => ?_) AllReadyH.nil)
      go_simp
      refine (pieceOk_any ep nu mk _ sn 48 _ (by omega)).mono ?_
      rintro e1 ww1 ⟨r1, rfl, hr1, hb⟩
      rw [hok.out r1 hr1]
      clear hr1
      replace N := N.trans (hb.mono N.size)
      clear hb
      refine hK.out _ _ N (fun hHeld => ?_)
      clear hK K
      try simp only [Act.put, sA, sB, sC]
      refine takeQ (i := 2) (gt rfl) (by kernel_rfl) (fun _ _ _ h => h) (by rfl) (by intro wq _; go_simp <;> with_reducible rfl) (by assumption) ?_
      try simp only [Act.put, sA, sB, sC]
      refine takeQ (i := 3) (gt rfl) (by kernel_rfl) (fun _ _ _ h => h) (by rfl) (by intro wq _; go_simp <;> with_reducible rfl) (by assumption) ?_
      try simp only [Act.put, sA, sB, sC]
      refine takeN (i := 4) (gt rfl) (by kernel_rfl) (by kernel_rfl) (by kernel_rfl) (by exact fun _ _ _ h => h) (by rfl) (by assumption) ?_
      try simp only [Act.put, sA, sB, sC]
      refine takeN (i := 5) (gt rfl) (by kernel_rfl) (by kernel_rfl) (by kernel_rfl) (by exact fun _ _ _ h => h) (by rfl) (by assumption) ?_
      try simp only [Act.put, sA, sB, sC]
      refine takeN (i := 6) (gt rfl) (by kernel_rfl) (by kernel_rfl) (by kernel_rfl) (by exact fun _ _ _ h => h) (by rfl) (by assumption) ?_
      try simp only [Act.put, sA, sB, sC]
      refine takeN (i := 7) (gt rfl) (by kernel_rfl) (by kernel_rfl) (by kernel_rfl) (by exact fun _ _ _ h => h) (by rfl) (by assumption) ?_
      try simp only [Act.put, sA, sB, sC]
      refine takeQ (i := 8) (gt rfl) (by kernel_rfl) (fun _ _ _ h => h) (by rfl) (by intro wq _; go_simp <;> with_reducible rfl) (by assumption) ?_
      try simp only [Act.put, sA, sB, sC]
      refine wpAnyH_done (by kernel_rfl) ?_ _
      replace B := B.trans (N.mono B.size)
      replace VR := VR.below N
      have E := Box4.chain B VR (.int .i64 0) (.int .i64 0) (.int .u8 0) (.slice none 0 0)
      obtain ⟨z0, z1, z2, z3, _, _⟩ := VR.put (.int .i64 0) (.int .i64 0) (.int .u8 0) (.slice none 0 0)
      obtain ⟨d0, d1, d2, d3, df, _⟩ := id VR
      clear N hHeld HG SP HMK HEP HNU KB k0 k1 k2 k3
      go_wp2
      refine bodyPost_ret (v := .tuple #[.agg #[.int .i64 0, .int .i64 0, .int .u8 0, .slice none 0 0], .bool false]) (by simp [results, Tryd.results44, go_sem, z0, z1, z2, z3]) rfl ?_
      exact ⟨_, _, _, _, _, rfl, .inr ⟨rfl, NI.out, rfl, rfl, rfl, rfl⟩, E⟩
end Go.Proofs.YtgcaemhcdpddiaaDoor
