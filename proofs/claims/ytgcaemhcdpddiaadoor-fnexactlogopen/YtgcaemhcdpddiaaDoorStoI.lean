/- The program's look-up of a sector, and whether a disk is good. -/
import Derived.Test.YtgcaemhcdpddiaaDoorSecI
import Derived.Test.YtgcaemhcdpddiaaDoorIsI
namespace Go.Proofs.YtgcaemhcdpddiaaDoor
open Go.RowKit

/-- The package's error, as it lies. -/
def Er (b : Addr) (w : World) : Prop := w.cell? ⟨0, 0, none⟩ = some (.iface 131 (.pointer (some b)))
theorem Er.below {b : Addr} {w w' : World} {n : Nat} (h : Er b w) (hb : Below n w w') (hn : 0 < n) : Er b w' := by
  unfold Er at h ⊢
  exact (World.cell?_of_block (a := ⟨0, 0, none⟩) (hb.block _ hn)).trans h
theorem Er.pos {b : Addr} {w : World} (h : Er b w) : 0 < w.heap.size := World.block_lt_of_cell? w ⟨0, 0, none⟩ h
theorem results_row_tmp {P : Program} {fn : Func} {p q : Tmp} {ty : TypeId} (h : fn.results = #[.cell p ty, .tmp q]) (tmps : Array Value) (w : World) (g : Nat) (t : TypeId) (cs : Array Value) (fr : Nat × Nat) (d : TypeDesc)
    (hp : tmps.getD p undef = .pointer (some ⟨g, 0, none⟩)) (hg : w.heap[g]? = some (.cells cs t fr))
    (hu : P.underlying ty = some d) (hd : (match d with | .struct _ | .array _ _ => true | _ => false) = true) (hi : (P.info? ty).map (·.size) = some cs.size) :
    (results fn tmps).run P w = .ok (.tuple #[.agg cs, tmps.getD q undef]) w := by
  have hp' : tmps[p]?.getD undef = .pointer (some ⟨g, 0, none⟩) := by simpa using hp
  simp [results, h, hp', asAddr, run_loadVar_row w g t ty cs fr d hg hu hd hi]
theorem built64 : Tryd.prog.built 81 [] = some nil64 := by kernel_rfl
theorem nil64_one : nil64.all (·.oneCell') = true := by simp [nil64, Value.oneCell']

/-- A sector's bytes. -/
def secN (bs : List Int) (t : Nat) : List Int := (bs.drop (t * 64)).take 64

/-- What the look-up answers. -/
def StoRes (b : Addr) (bs : List Int) (k : Nat) (t : Int) (e : Ending) : Prop := (0 ≤ t ∧ t < (k : Int) ∧ e = .returned (.tuple #[.agg (secA (secN bs t.toNat)), .nilIface])) ∨ (¬(0 ≤ t ∧ t < (k : Int)) ∧ e = .returned (.tuple #[.agg nil64, noSec t b]))

theorem sectors_any (a a2 : Option Addr) (c c2 n n2 k : Nat) (w : World) (hk : Hid (n / 64 = k)) (hn : n ≤ 2000000) :
    Calls Tryd.prog 36 #[.agg #[.slice a n c, .slice a2 n2 c2]] w fun e w' => e = .returned (.int .i64 (k : Int)) ∧ Below w.heap.size w w' := by
  have B := below1 w (.cells #[.slice a n c, .slice a2 n2 c2] 34)
  have hq : (n : Int).tdiv 64 = (k : Int) := by rw [Int.tdiv_eq_ediv_of_nonneg (by omega)]; have := hk.out; omega
  have hq2 : (n : Int) / 64 = (k : Int) := by have := hk.out; omega
  go_enter Tryd.func36, Tryd.ntmps36
  go_wp2
  go_ret
  exact ⟨by first | rfl | rw [hq2] | rw [hq], B⟩

set_option maxRecDepth 20000 in
set_option maxHeartbeats 4000000 in
theorem stored_any (b : Addr) (a a2 : Option Addr) (c c2 n2 k : Nat) (t : Int) (bs : List Int) (w : World) (h : SeesB w a c bs) (E : Er b w) (hk : Hid (bs.length / 64 = k)) (hb0 : bs.length ≤ 2000000) :
    Calls Tryd.prog 43 #[.agg #[.slice a bs.length c, .slice a2 n2 c2], .int .i64 t] w fun e w' => StoRes b bs k t e ∧ Below w.heap.size w w' := by
  have hc := h.max
  have hcf := h.fits
  unfold maxLen at hc
  have hq : (bs.length : Int).tdiv 64 = (k : Int) := by rw [Int.tdiv_eq_ediv_of_nonneg (by omega)]; have := hk.out; omega
  have hkb : k ≤ 31250 := by have := hk.out; omega
  have b1 := below1 w (.cells #[.slice a bs.length c, .slice a2 n2 c2] 34)
  have V1 := Box2.new w (lo := w.heap.size) (Nat.le_refl _) (.slice a bs.length c) (.slice a2 n2 c2) 34
  have b2 := below1 (w.alloc (.cells #[.slice a bs.length c, .slice a2 n2 c2] 34)) (.cells nil64 81)
  have g1 : Hid (((w.alloc (.cells #[.slice a bs.length c, .slice a2 n2 c2] 34)).alloc (.cells nil64 81)).heap[w.heap.size + 1]? = some (.cells nil64 81 (0, 0))) := (by have := heap_alloc_new (w.alloc (.cells #[.slice a bs.length c, .slice a2 n2 c2] 34)) (.cells nil64 81); rw [show (w.alloc (.cells #[.slice a bs.length c, .slice a2 n2 c2] 34)).heap.size = w.heap.size + 1 by simp] at this; exact this)
  have B := b1.trans (b2.mono b1.size)
  replace V1 := V1.below b2
  have E1 : Hid (Er b ((w.alloc (.cells #[.slice a bs.length c, .slice a2 n2 c2] 34)).alloc (.cells nil64 81))) := E.below B E.pos
  have S1 : Hid (SeesB ((w.alloc (.cells #[.slice a bs.length c, .slice a2 n2 c2] 34)).alloc (.cells nil64 81)) a c bs) := h.below B
  have z2 : ((w.alloc (.cells #[.slice a bs.length c, .slice a2 n2 c2] 34)).alloc (.cells nil64 81)).heap.size = w.heap.size + 2 := by simp
  have wp := E.pos
  have HK : Hid (bs.length / 64 = k) := hk
  clear b1 b2 h E
  go_enter Tryd.func43, Tryd.ntmps43
  go_upto_region 1 with fail
  rw [lit64]
  generalize (w.alloc (.cells #[.slice a bs.length c, .slice a2 n2 c2] 34)).alloc (.cells nil64 81) = W0 at *
  obtain ⟨t0, t1, tf, _⟩ := id V1
  by_cases hx : 0 ≤ t ∧ t < (k : Int)
  · obtain ⟨hx0, hx1⟩ := hx
    have G : Hid (0 ≤ t ∧ t < (k : Int)) := ⟨hx0, hx1⟩
    obtain ⟨m, rfl⟩ : ∃ m : Nat, t = m := ⟨t.toNat, by omega⟩
    have htm : (m + 1) * 64 ≤ bs.length := by have := hk.out; omega
    have hne : bs ≠ [] := by intro e; rw [e] at htm; simp at htm
    obtain ⟨q, off, rfl, -⟩ := S1.out.cells hne
    have e64 : (m + 1) * 64 - m * 64 = 64 := by omega
    have hl64 : Hid ((secN bs m).length = 64) := by show _ = _; unfold secN; simp; omega
    have SS : Hid (SeesB W0 (some ⟨q, off + m * 64, none⟩) (c - m * 64) (secN bs m)) := by
      refine ⟨by rw [hl64.out]; omega, by unfold maxLen; omega, fun _ => ⟨q, off + m * 64, rfl, fun i hi => ?_⟩⟩
      rw [hl64.out] at hi
      obtain ⟨q', off', e, hcell⟩ := S1.out.cells hne
      injection e with e
      injection e with e1 e2
      subst e1 e2
      rw [Nat.add_assoc, hcell (m * 64 + i) (by omega)]
      unfold secN
      rw [List.getElem?_take_of_lt hi, List.getElem?_drop]
    have hge : ¬ (k : Int) ≤ (m : Int) := by omega
    clear hne hk
    have g2 := setRow_heap W0 (w.heap.size + 1) nil64 (secA (secN bs m)) 81 (0, 0) g1.out
    have hsz : (secA (secN bs m)).size = 64 := by rw [secA_size]; exact hl64.out
    have h1 : (secA (secN bs m)).all (·.oneCell') = true := by
      rw [Array.all_eq_true_iff_forall_mem]
      intro v hv
      exact ones8 (secN bs m) v (by simpa [secA] using hv)
    have SN : Hid (StoRes b bs k m (.returned (.tuple #[.agg (secA (secN bs m)), .nilIface]))) := .inl ⟨G.out.1, G.out.2, by rw [Int.toNat_natCast]⟩
    clear G S1 E1
    go_wp2_with fail
    refine (sectors_any _ a2 c c2 bs.length n2 k _ HK hb0).mono ?_
    rintro e wS ⟨rfl, hb⟩
    have zS : w.heap.size + 2 ≤ wS.heap.size := by rw [← z2]; exact hb.size
    replace g1 : Hid (wS.heap[w.heap.size + 1]? = some (.cells nil64 81 (0, 0))) := (hb.block _ (by omega)).trans g1.out
    replace SS : Hid (SeesB wS (some ⟨q, off + m * 64, none⟩) (c - m * 64) (secN bs m)) := SS.out.below hb
    replace V1 := V1.below hb
    replace B := B.trans (hb.mono B.size)
    clear hb g2 t0 t1 tf
    obtain ⟨t0, t1, tf, _⟩ := id V1
    go_wp2_with fail
    refine (sectorOf_any _ (c - m * 64) (secN bs m) _ SS.out hl64.out).mono ?_
    rintro e w1 ⟨rfl, hb⟩
    have g3 : w1.heap[w.heap.size + 1]? = some (.cells nil64 81 (0, 0)) := (hb.block _ (by omega)).trans g1.out
    replace B := B.trans (hb.mono B.size)
    clear hb g1 SS
    have g4 := setRow_heap w1 (w.heap.size + 1) nil64 (secA (secN bs m)) 81 (0, 0) g3
    have gq := grownBy_setRow w1 (w.heap.size + 1) (secA (secN bs m))
    have B2 := B.grown gq B.size (fun k hk => by injection hk with hk; omega)
    clear V1 t0 t1 tf gq
    go_wp2_with (refine wpList_store_row rfl 81 (.tmp 4) (.tmp 27) rfl (w.heap.size + 1) (secA (secN bs m)) rfl rfl 81 nil64 g3 (by rw [hsz]; exact infoSec) (by rw [hsz]; rfl) h1 ?_)
    refine bodyPost_ret (results_row_tmp (p := 4) (q := 5) rfl _ _ (w.heap.size + 1) 81 (secA (secN bs m)) (0, 0) _ rfl g4 Tryd.underlying81 rfl (by rw [hsz]; exact infoSec)) rfl ⟨SN.out, B2⟩
  · have HX : Hid (¬(0 ≤ t ∧ t < (k : Int))) := hx
    rcases (show t < 0 ∨ ¬ t < 0 ∧ (k : Int) ≤ t by omega) with q | ⟨q, q2⟩
    · go_upto_region 2 with fail
      have bd := ((Below.refl W0.heap.size W0).drew : Below W0.heap.size W0 _)
      have N : W0.drew.cell? ⟨0, 0, none⟩ = some (.iface 131 (.pointer (some b))) ∧ W0.drew.heap[w.heap.size + 1]? = some (.cells nil64 81 (0, 0)) := ⟨E1.out, g1.out⟩
      have B2 := B.trans (bd.mono B.size)
      clear bd B V1 t0 t1 tf E1 S1 g1
      refine wp_region_held_drew (S := fun W => W.cell? ⟨0, 0, none⟩ = some (.iface 131 (.pointer (some b))) ∧ W.heap[w.heap.size + 1]? = some (.cells nil64 81 (0, 0))) (by kernel_rfl) N (fun hHeld => ?_)
      clear hHeld
      revert N B2
      generalize W0.drew = ww0
      intro N B2
      refine takeW (i := 0) (v := .agg nil64) (by simp only [List.getElem?_toArray, List.getElem?_cons_zero]; exact rfl) (by kernel_rfl) (by kernel_rfl) (by kernel_rfl) (by exact fun _ _ _ h => h) (by rfl) (by intro wq hSw; simp only [execOp, Act.eval, Array.map_empty]; rfl) (by assumption) ?_
      try simp only [Act.put, List.setIfInBounds_toArray, List.set_cons_zero, List.set_cons_succ]
      refine takeW (i := 1) (by simp only [List.getElem?_toArray, List.getElem?_cons_succ, List.getElem?_cons_zero]; exact rfl) (by kernel_rfl) (by kernel_rfl) (by kernel_rfl) (by exact fun _ _ _ h => h) (by rfl) (by intro wq hSw; go_simp <;> with_reducible rfl) (by assumption) ?_
      try simp only [Act.put, List.setIfInBounds_toArray, List.set_cons_zero, List.set_cons_succ]
      refine takeW (i := 2) (by simp only [List.getElem?_toArray, List.getElem?_cons_succ, List.getElem?_cons_zero]; exact rfl) (by kernel_rfl) (by kernel_rfl) (by kernel_rfl) (by exact fun _ _ _ h => h) (by rfl) (by intro wq hSw; obtain ⟨p1, p2⟩ := hSw; go_simp <;> with_reducible rfl) (by assumption) ?_
      try simp only [Act.put, List.setIfInBounds_toArray, List.set_cons_zero, List.set_cons_succ]
      refine takeW (i := 3) (by simp only [List.getElem?_toArray, List.getElem?_cons_succ, List.getElem?_cons_zero]; exact rfl) (by kernel_rfl) (by kernel_rfl) (by kernel_rfl) (by exact fun _ _ _ h => h) (by rfl) (by intro wq hSw; go_simp <;> with_reducible rfl) (by assumption) ?_
      try simp only [Act.put, List.setIfInBounds_toArray, List.set_cons_zero, List.set_cons_succ]
      refine takeW (i := 4) (by simp only [List.getElem?_toArray, List.getElem?_cons_succ, List.getElem?_cons_zero]; exact rfl) (by kernel_rfl) (by kernel_rfl) (by kernel_rfl) (by exact fun _ _ _ h => h) (by rfl) (by intro wq hSw; go_simp <;> with_reducible rfl) (by assumption) ?_
      try simp only [Act.put, List.setIfInBounds_toArray, List.set_cons_zero, List.set_cons_succ]
      refine wpAnyH_ready (rs := [5]) (by kernel_rfl) (by simp) (AllReadyH.cons (by simp only [List.getElem?_toArray, List.getElem?_cons_succ, List.getElem?_cons_zero]; exact rfl) (fun K hK => ?_) AllReadyH.nil)
      have gq := grownBy_setRow ww0 (w.heap.size + 1) nil64
      refine wp_store_row 81 (.tmp 4) (.tmp 14) rfl (w.heap.size + 1) nil64 rfl rfl 81 nil64 N.2 infoSec rfl nil64_one ?_
      have N9 := And.intro (cell_drawnD gq N.1 (by omega)) (setRow_heap ww0 (w.heap.size + 1) _ nil64 _ _ N.2)
      replace B2 := B2.grown gq B2.size (fun k hk => by injection hk with hk; omega)
      generalize ww0.setRow (w.heap.size + 1) nil64 = ww9 at *
      refine hK.out _ _ N9 (fun hHeld => ?_)
      clear hK K hHeld gq N
      try simp only [Act.put]
      refine takeW (i := 6) (by simp only [List.getElem?_toArray, List.getElem?_cons_succ, List.getElem?_cons_zero]; exact rfl) (by kernel_rfl) (by kernel_rfl) (by kernel_rfl) (by exact fun _ _ _ h => h) (by rfl) (by intro wq hSw; go_simp <;> with_reducible rfl) (by assumption) ?_
      try simp only [Act.put, List.setIfInBounds_toArray, List.set_cons_zero, List.set_cons_succ]
      refine wpAnyH_done (by kernel_rfl) ?_ _
      go_wp2
      refine bodyPost_ret (results_row_tmp (p := 4) (q := 5) rfl _ _ (w.heap.size + 1) 81 nil64 (0, 0) _ rfl N9.2 Tryd.underlying81 rfl infoSec) rfl ⟨.inr ⟨HX.out, rfl⟩, B2⟩
    · go_wp2_with fail
      refine (sectors_any _ a2 c c2 bs.length n2 k _ HK hb0).mono ?_
      rintro e wS ⟨rfl, hb⟩
      replace g1 : Hid (wS.heap[w.heap.size + 1]? = some (.cells nil64 81 (0, 0))) := (hb.block _ (by omega)).trans g1.out
      replace E1 : Hid (Er b wS) := E1.out.below hb (by omega)
      replace S1 : Hid (SeesB wS a c bs) := S1.out.below hb
      replace V1 := V1.below hb
      replace B := B.trans (hb.mono B.size)
      clear hb t0 t1 tf z2
      obtain ⟨t0, t1, tf, _⟩ := id V1
      rename World => W0
      go_upto_region 2 with fail
      have bd := ((Below.refl W0.heap.size W0).drew : Below W0.heap.size W0 _)
      have N : W0.drew.cell? ⟨0, 0, none⟩ = some (.iface 131 (.pointer (some b))) ∧ W0.drew.heap[w.heap.size + 1]? = some (.cells nil64 81 (0, 0)) := ⟨E1.out, g1.out⟩
      have B2 := B.trans (bd.mono B.size)
      clear bd B V1 t0 t1 tf E1 S1 g1
      refine wp_region_held_drew (S := fun W => W.cell? ⟨0, 0, none⟩ = some (.iface 131 (.pointer (some b))) ∧ W.heap[w.heap.size + 1]? = some (.cells nil64 81 (0, 0))) (by kernel_rfl) N (fun hHeld => ?_)
      clear hHeld
      revert N B2
      generalize W0.drew = ww0
      intro N B2
      refine takeW (i := 0) (v := .agg nil64) (by simp only [List.getElem?_toArray, List.getElem?_cons_zero]; exact rfl) (by kernel_rfl) (by kernel_rfl) (by kernel_rfl) (by exact fun _ _ _ h => h) (by rfl) (by intro wq hSw; simp only [execOp, Act.eval, Array.map_empty]; rfl) (by assumption) ?_
      try simp only [Act.put, List.setIfInBounds_toArray, List.set_cons_zero, List.set_cons_succ]
      refine takeW (i := 1) (by simp only [List.getElem?_toArray, List.getElem?_cons_succ, List.getElem?_cons_zero]; exact rfl) (by kernel_rfl) (by kernel_rfl) (by kernel_rfl) (by exact fun _ _ _ h => h) (by rfl) (by intro wq hSw; go_simp <;> with_reducible rfl) (by assumption) ?_
      try simp only [Act.put, List.setIfInBounds_toArray, List.set_cons_zero, List.set_cons_succ]
      refine takeW (i := 2) (by simp only [List.getElem?_toArray, List.getElem?_cons_succ, List.getElem?_cons_zero]; exact rfl) (by kernel_rfl) (by kernel_rfl) (by kernel_rfl) (by exact fun _ _ _ h => h) (by rfl) (by intro wq hSw; obtain ⟨p1, p2⟩ := hSw; go_simp <;> with_reducible rfl) (by assumption) ?_
      try simp only [Act.put, List.setIfInBounds_toArray, List.set_cons_zero, List.set_cons_succ]
      refine takeW (i := 3) (by simp only [List.getElem?_toArray, List.getElem?_cons_succ, List.getElem?_cons_zero]; exact rfl) (by kernel_rfl) (by kernel_rfl) (by kernel_rfl) (by exact fun _ _ _ h => h) (by rfl) (by intro wq hSw; go_simp <;> with_reducible rfl) (by assumption) ?_
      try simp only [Act.put, List.setIfInBounds_toArray, List.set_cons_zero, List.set_cons_succ]
      refine takeW (i := 4) (by simp only [List.getElem?_toArray, List.getElem?_cons_succ, List.getElem?_cons_zero]; exact rfl) (by kernel_rfl) (by kernel_rfl) (by kernel_rfl) (by exact fun _ _ _ h => h) (by rfl) (by intro wq hSw; go_simp <;> with_reducible rfl) (by assumption) ?_
      try simp only [Act.put, List.setIfInBounds_toArray, List.set_cons_zero, List.set_cons_succ]
      refine wpAnyH_ready (rs := [5]) (by kernel_rfl) (by simp) (AllReadyH.cons (by simp only [List.getElem?_toArray, List.getElem?_cons_succ, List.getElem?_cons_zero]; exact rfl) (fun K hK => ?_) AllReadyH.nil)
      have gq := grownBy_setRow ww0 (w.heap.size + 1) nil64
      refine wp_store_row 81 (.tmp 4) (.tmp 14) rfl (w.heap.size + 1) nil64 rfl rfl 81 nil64 N.2 infoSec rfl nil64_one ?_
      have N9 := And.intro (cell_drawnD gq N.1 (by omega)) (setRow_heap ww0 (w.heap.size + 1) _ nil64 _ _ N.2)
      replace B2 := B2.grown gq B2.size (fun k hk => by injection hk with hk; omega)
      generalize ww0.setRow (w.heap.size + 1) nil64 = ww9 at *
      refine hK.out _ _ N9 (fun hHeld => ?_)
      clear hK K hHeld gq N
      try simp only [Act.put]
      refine takeW (i := 6) (by simp only [List.getElem?_toArray, List.getElem?_cons_succ, List.getElem?_cons_zero]; exact rfl) (by kernel_rfl) (by kernel_rfl) (by kernel_rfl) (by exact fun _ _ _ h => h) (by rfl) (by intro wq hSw; go_simp <;> with_reducible rfl) (by assumption) ?_
      try simp only [Act.put, List.setIfInBounds_toArray, List.set_cons_zero, List.set_cons_succ]
      refine wpAnyH_done (by kernel_rfl) ?_ _
      go_wp2
      refine bodyPost_ret (results_row_tmp (p := 4) (q := 5) rfl _ _ (w.heap.size + 1) 81 nil64 (0, 0) _ rfl N9.2 Tryd.underlying81 rfl infoSec) rfl ⟨.inr ⟨HX.out, rfl⟩, B2⟩
end Go.Proofs.YtgcaemhcdpddiaaDoor
