/- The program's LogAdd. -/
import Derived.Test.YtonbmeepfgejmaaGreatDoorLaB
namespace Go.Proofs.YtonbmeepfgejmaaGreatDoor
open Go.RowKit

theorem owns_keptQ {w w' : World} {base e size n : Nat} {v : Value} {xs : List Value} {row : Option Nat} (h : w.ownsRow base e size v n xs) (hg : w.grownBy w' row) (hne : ∀ k, v.ownBlock = some k → row ≠ some k) : w'.ownsRow base e size v n xs := by
  refine h.kept hg ?_
  cases e : v.ownBlock with
  | none => exact .inl rfl
  | some k => exact .inr (fun q => hne k e q.symm)
/-- What queuedRecord answers: the disk with the record's writes in its queue, or nothing. -/
def QrPost (ad : Addr) (c : Nat) (bs : List Int) (qs : List Wr) (F L X E : Int) (rs : List Int) (e : Ending) (w' : World) : Prop :=
  (∃ (g c7 : Nat) (zs : List Wr), zs = qs ++ lgWs F X E rs (lgMany rs.length) ∧ e = .returned (.tuple #[.agg #[.slice (some ad) bs.length c, .slice (some ⟨g, 0, none⟩) zs.length c7], .agg #[.int .i64 F, .int .i64 L, .int .i64 (X + (lgMany rs.length : Int)), .int .i64 E], .bool true]) ∧ (LaFine bs qs F L X E ∧ LwOk F L X E rs.length) ∧ QuV w' (some ⟨g, 0, none⟩) c7 zs ∧ DkOk bs zs ∧ uptoQ zs zs.length ≤ 2000000) ∨ (e = .returned (.tuple #[.agg #[.slice none 0 0, .slice none 0 0], .agg #[.int .i64 0, .int .i64 0, .int .i64 0, .int .i64 0], .bool false]) ∧ ¬(LaFine bs qs F L X E ∧ LwOk F L X E rs.length))

set_option maxRecDepth 20000 in
set_option maxHeartbeats 8000000 in
theorem implQueued {lo : Nat} (b0 : Addr) (ad : Addr) (a2 : Option Addr) (c c2 : Nat) (vs0 : List Value) (bs : List Int) (qs : List Wr) (F L X E : Int) (b off c3 : Nat) (rs : List Int) (w : World) (h : DkR lo w (.slice (some ad) bs.length c) (.slice a2 qs.length c2) vs0 bs qs) (hv0 : SomeV vs0) (hr : SeesB w (some ⟨b, off, none⟩) c3 rs) (hl : rs.length ≤ 1048576) (h8 : ∀ x ∈ rs, 0 ≤ x ∧ x < 256) (hb0 : bs.length ≤ 1900000) (hs : uptoQ qs qs.length ≤ 1900000) (er : Er b0 w) :
    Calls Tryz.prog 23 #[.agg #[.slice (some ad) bs.length c, .slice a2 qs.length c2], .agg #[.int .i64 F, .int .i64 L, .int .i64 X, .int .i64 E], .slice (some ⟨b, off, none⟩) rs.length c3] w fun e w' => QrPost ad c bs qs F L X E rs e w' ∧ Below w.heap.size w w' := by
  have hn : qs.length ≤ 1900000 := by have := uptoQ_mono qs (Nat.zero_le qs.length); simp only [uptoQ] at this; omega
  have HS : Hid (uptoQ qs qs.length ≤ 1900000) := hs
  have HM : Hid (SomeV vs0) := hv0
  have HD : Hid (DkR lo w (.slice (some ad) bs.length c) (.slice a2 qs.length c2) vs0 bs qs) := h
  have HP : Hid (SeesB w (some ⟨b, off, none⟩) c3 rs) := hr
  have H8 : Hid (∀ x ∈ rs, 0 ≤ x ∧ x < 256) := h8
  have HE : Hid (Er b0 w) := er
  have wp := er.pos
  obtain ⟨kk, hk⟩ : ∃ kk, Hid (bs.length / 64 = kk) := ⟨_, rfl⟩
  have V1 := Box2.new w (lo := w.heap.size) (Nat.le_refl _) (.slice (some ad) bs.length c) (.slice a2 qs.length c2) 31
  have B := below1 w (.cells #[.slice (some ad) bs.length c, .slice a2 qs.length c2] 31)
  generalize hWa : w.alloc (.cells #[.slice (some ad) bs.length c, .slice a2 qs.length c2] 31) = Wa at *
  have za : Wa.heap.size = w.heap.size + 1 := by rw [← hWa]; simp
  have V4 := Box4.new Wa (lo := w.heap.size) B.size (.int .i64 F) (.int .i64 L) (.int .i64 X) (.int .i64 E) 32
  have b2 := below1 Wa (.cells #[.int .i64 F, .int .i64 L, .int .i64 X, .int .i64 E] 32)
  replace V1 := V1.below b2
  replace B := B.trans (b2.mono B.size)
  rw [za] at V4
  generalize hWb : Wa.alloc (.cells #[.int .i64 F, .int .i64 L, .int .i64 X, .int .i64 E] 32) = Wb at *
  have zb : Wb.heap.size = w.heap.size + 2 := by rw [← hWb]; simp [za]
  have VD := Box2.new Wb (lo := w.heap.size) B.size (.slice none 0 0) (.slice none 0 0) 31
  have b3 := below1 Wb (.cells #[.slice none 0 0, .slice none 0 0] 31)
  replace V1 := V1.below b3
  replace V4 := V4.below b3
  replace B := B.trans (b3.mono B.size)
  rw [zb] at VD
  generalize hWc : Wb.alloc (.cells #[.slice none 0 0, .slice none 0 0] 31) = Wc at *
  have zc : Wc.heap.size = w.heap.size + 3 := by rw [← hWc]; simp [zb]
  have VL := Box4.new Wc (lo := w.heap.size) B.size (.int .i64 0) (.int .i64 0) (.int .i64 0) (.int .i64 0) 32
  have b4 := below1 Wc (.cells #[.int .i64 0, .int .i64 0, .int .i64 0, .int .i64 0] 32)
  replace V1 := V1.below b4
  replace V4 := V4.below b4
  replace VD := VD.below b4
  replace B := B.trans (b4.mono B.size)
  rw [zc] at VL
  have zd : (Wc.alloc (.cells #[.int .i64 0, .int .i64 0, .int .i64 0, .int .i64 0] 32)).heap.size = w.heap.size + 4 := by simp [zc]
  clear b2 b3 b4 hs hv0 h hr h8 er
  go_enter Tryz.func23, Tryz.ntmps23
  go_upto_region 1 with fail
  try rw [za]
  try rw [zb]
  try rw [zc]
  generalize Wc.alloc (.cells #[.int .i64 0, .int .i64 0, .int .i64 0, .int .i64 0] 32) = W0 at *
  clear hWa hWb hWc za zb zc
  have bd := ((Below.refl W0.heap.size W0).drew : Below W0.heap.size W0 _)
  replace V1 := V1.below bd
  replace V4 := V4.below bd
  replace VD := VD.below bd
  replace VL := VL.below bd
  replace B := B.trans (bd.mono B.size)
  clear bd
  have N : Box2 w.heap.size W0.drew w.heap.size (.slice (some ad) bs.length c) (.slice a2 qs.length c2) ∧ Box4 w.heap.size W0.drew (w.heap.size + 1) (.int .i64 F) (.int .i64 L) (.int .i64 X) (.int .i64 E) := And.intro V1 V4
  refine wp_region_held_drew (S := fun W => Box2 w.heap.size W w.heap.size (.slice (some ad) bs.length c) (.slice a2 qs.length c2) ∧ Box4 w.heap.size W (w.heap.size + 1) (.int .i64 F) (.int .i64 L) (.int .i64 X) (.int .i64 E)) (by kernel_rfl) N (fun hHeld => ?_)
  clear hHeld
  generalize W0.drew = ww0 at *
  have s00 : w.heap.size + 4 ≤ ww0.heap.size := by have := VL.lt; omega
  refine takeW (i := 0) (by simp only [List.getElem?_toArray, List.getElem?_cons_zero]; exact rfl) (by kernel_rfl) (by kernel_rfl) (by kernel_rfl) (by exact fun _ _ _ h => h) (by rfl) (by intro wq hSw; obtain ⟨⟨y0, y1, _, _⟩, ⟨l0, l1, l2, l3, _, _⟩⟩ := hSw; go_simp <;> with_reducible rfl) (by assumption) ?_
  try simp only [Act.put, List.setIfInBounds_toArray, List.set_cons_zero, List.set_cons_succ]
  refine wpAnyH_ready (rs := [1]) (by kernel_rfl) (by simp) (AllReadyH.cons (by simp only [List.getElem?_toArray, List.getElem?_cons_succ, List.getElem?_cons_zero]; exact rfl) (fun K hK => ?_) AllReadyH.nil)
  go_simp
  refine (implDiskOk b0 _ _ c c2 vs0 bs qs _ (HD.out.below B) (HE.out.below B wp)).mono ?_
  rintro e ww1 ⟨r, rfl, hr, hb⟩
  have R1 : Hid (r = true ↔ DkOk bs qs) := hr
  clear hr
  replace V1 := V1.below hb
  replace V4 := V4.below hb
  replace VD := VD.below hb
  replace VL := VL.below hb
  replace B := B.trans (hb.mono B.size)
  replace N := And.intro V1 V4
  refine hK.out _ _ N (fun hHeld => ?_)
  clear hK K hHeld
  try simp only [Act.put, List.setIfInBounds_toArray, List.set_cons_zero, List.set_cons_succ]
  clear hb
  cases r with
  | false =>
    refine takeW (i := 2) (by simp only [List.getElem?_toArray, List.getElem?_cons_succ, List.getElem?_cons_zero]; exact rfl) (by kernel_rfl) (by kernel_rfl) (by kernel_rfl) (by exact fun _ _ _ h => h) (by rfl) (by intro wq hSw; go_simp <;> with_reducible rfl) (by assumption) ?_
    try simp only [Act.put, List.setIfInBounds_toArray, List.set_cons_zero, List.set_cons_succ]
    refine takeW (i := 3) (by simp only [List.getElem?_toArray, List.getElem?_cons_succ, List.getElem?_cons_zero]; exact rfl) (by kernel_rfl) (by kernel_rfl) (by kernel_rfl) (by exact fun _ _ _ h => h) (by rfl) (by intro wq hSw; go_simp <;> with_reducible rfl) (by assumption) ?_
    try simp only [Act.put, List.setIfInBounds_toArray, List.set_cons_zero, List.set_cons_succ]
    refine takeN (i := 4) (by simp only [List.getElem?_toArray, List.getElem?_cons_succ, List.getElem?_cons_zero]; exact rfl) (by kernel_rfl) (by kernel_rfl) (by kernel_rfl) (by exact fun _ _ _ h => h) (by rfl) (by assumption) ?_
    try simp only [Act.put, List.setIfInBounds_toArray, List.set_cons_zero, List.set_cons_succ]
    refine takeN (i := 5) (by simp only [List.getElem?_toArray, List.getElem?_cons_succ, List.getElem?_cons_zero]; exact rfl) (by kernel_rfl) (by kernel_rfl) (by kernel_rfl) (by exact fun _ _ _ h => h) (by rfl) (by assumption) ?_
    try simp only [Act.put, List.setIfInBounds_toArray, List.set_cons_zero, List.set_cons_succ]
    refine takeN (i := 6) (by simp only [List.getElem?_toArray, List.getElem?_cons_succ, List.getElem?_cons_zero]; exact rfl) (by kernel_rfl) (by kernel_rfl) (by kernel_rfl) (by exact fun _ _ _ h => h) (by rfl) (by assumption) ?_
    try simp only [Act.put, List.setIfInBounds_toArray, List.set_cons_zero, List.set_cons_succ]
    refine takeN (i := 7) (by simp only [List.getElem?_toArray, List.getElem?_cons_succ, List.getElem?_cons_zero]; exact rfl) (by kernel_rfl) (by kernel_rfl) (by kernel_rfl) (by exact fun _ _ _ h => h) (by rfl) (by assumption) ?_
    try simp only [Act.put, List.setIfInBounds_toArray, List.set_cons_zero, List.set_cons_succ]
    refine takeN (i := 8) (by simp only [List.getElem?_toArray, List.getElem?_cons_succ, List.getElem?_cons_zero]; exact rfl) (by kernel_rfl) (by kernel_rfl) (by kernel_rfl) (by exact fun _ _ _ h => h) (by rfl) (by assumption) ?_
    try simp only [Act.put, List.setIfInBounds_toArray, List.set_cons_zero, List.set_cons_succ]
    refine takeW (i := 9) (by simp only [List.getElem?_toArray, List.getElem?_cons_succ, List.getElem?_cons_zero]; exact rfl) (by kernel_rfl) (by kernel_rfl) (by kernel_rfl) (by exact fun _ _ _ h => h) (by rfl) (by intro wq hSw; go_simp <;> with_reducible rfl) (by assumption) ?_
    try simp only [Act.put, List.setIfInBounds_toArray, List.set_cons_zero, List.set_cons_succ]
    refine takeW (i := 10) (by simp only [List.getElem?_toArray, List.getElem?_cons_succ, List.getElem?_cons_zero]; exact rfl) (by kernel_rfl) (by kernel_rfl) (by kernel_rfl) (by exact fun _ _ _ h => h) (by rfl) (by intro wq hSw; go_simp <;> with_reducible rfl) (by assumption) ?_
    try simp only [Act.put, List.setIfInBounds_toArray, List.set_cons_zero, List.set_cons_succ]
    refine takeN (i := 11) (by simp only [List.getElem?_toArray, List.getElem?_cons_succ, List.getElem?_cons_zero]; exact rfl) (by kernel_rfl) (by kernel_rfl) (by kernel_rfl) (by exact fun _ _ _ h => h) (by rfl) (by assumption) ?_
    try simp only [Act.put, List.setIfInBounds_toArray, List.set_cons_zero, List.set_cons_succ]
    refine takeN (i := 12) (by simp only [List.getElem?_toArray, List.getElem?_cons_succ, List.getElem?_cons_zero]; exact rfl) (by kernel_rfl) (by kernel_rfl) (by kernel_rfl) (by exact fun _ _ _ h => h) (by rfl) (by assumption) ?_
    try simp only [Act.put, List.setIfInBounds_toArray, List.set_cons_zero, List.set_cons_succ]
    refine takeN (i := 13) (by simp only [List.getElem?_toArray, List.getElem?_cons_succ, List.getElem?_cons_zero]; exact rfl) (by kernel_rfl) (by kernel_rfl) (by kernel_rfl) (by exact fun _ _ _ h => h) (by rfl) (by assumption) ?_
    try simp only [Act.put, List.setIfInBounds_toArray, List.set_cons_zero, List.set_cons_succ]
    refine takeN (i := 14) (by simp only [List.getElem?_toArray, List.getElem?_cons_succ, List.getElem?_cons_zero]; exact rfl) (by kernel_rfl) (by kernel_rfl) (by kernel_rfl) (by exact fun _ _ _ h => h) (by rfl) (by assumption) ?_
    try simp only [Act.put, List.setIfInBounds_toArray, List.set_cons_zero, List.set_cons_succ]
    refine takeW (i := 15) (by simp only [List.getElem?_toArray, List.getElem?_cons_succ, List.getElem?_cons_zero]; exact rfl) (by kernel_rfl) (by kernel_rfl) (by kernel_rfl) (by exact fun _ _ _ h => h) (by rfl) (by intro wq hSw; go_simp <;> with_reducible rfl) (by assumption) ?_
    try simp only [Act.put, List.setIfInBounds_toArray, List.set_cons_zero, List.set_cons_succ]
    refine wpAnyH_done (by kernel_rfl) ?_ _
    have NO : Hid (¬(LaFine bs qs F L X E ∧ LwOk F L X E rs.length)) := fun q => by have q2 := la_ok.1 q; rw [hk.out] at q2; have := R1.out.2 q2.1.1; cases this
    clear N
    obtain ⟨d0, d1, df, _⟩ := id VD
    obtain ⟨s0, s1, s2, s3, sf, _⟩ := id VL
    have gq : ww1.grownBy ((ww1.setCell ⟨w.heap.size + 2, 0, none⟩ (.slice none 0 0)).setCell ⟨w.heap.size + 2, 1, none⟩ (.slice none 0 0)) (some (w.heap.size + 2)) := grownBy_setCell (p := ⟨w.heap.size + 2, 1, none⟩) (grownBy_setCell (p := ⟨w.heap.size + 2, 0, none⟩) (grownBy_refl _ _) rfl _) rfl _
    have B1 := Box2.chain B VD (.slice none 0 0) (.slice none 0 0)
    have VD1 := VD.put (.slice none 0 0) (.slice none 0 0)
    have VL1 := VL.grownW gq (by intro e; injection e with e; omega)
    have gl := grownBy_setCell (grownBy_setCell (grownBy_setCell (grownBy_setCell (grownBy_refl ((ww1.setCell ⟨w.heap.size + 2, 0, none⟩ (.slice none 0 0)).setCell ⟨w.heap.size + 2, 1, none⟩ (.slice none 0 0)) (some (w.heap.size + 3))) (p := ⟨w.heap.size + 3, 0, none⟩) rfl (.int .i64 0)) (p := ⟨w.heap.size + 3, 1, none⟩) rfl (.int .i64 0)) (p := ⟨w.heap.size + 3, 2, none⟩) rfl (.int .i64 0)) (p := ⟨w.heap.size + 3, 3, none⟩) rfl (.int .i64 0)
    have B2 := Box4.chain B1 VL1 (.int .i64 0) (.int .i64 0) (.int .i64 0) (.int .i64 0)
    have VD2 := VD1.grownO gl (by intro e; injection e with e; omega)
    have VL2 := VL1.put (.int .i64 0) (.int .i64 0) (.int .i64 0) (.int .i64 0)
    have r0 := VD2.c0
    have r1 := VD2.c1
    obtain ⟨t0, t1, t2, t3, _, _⟩ := id VL2
    clear V4 V1 VL VD VD1 VL1 VD2 VL2 gq gl B1
    go_wp2
    exact bodyPost_ret (v := .tuple #[.agg #[.slice none 0 0, .slice none 0 0], .agg #[.int .i64 0, .int .i64 0, .int .i64 0, .int .i64 0], .bool false]) (by simp [results, Tryz.results23, go_sem, r0, r1, t0, t1, t2, t3]) rfl ⟨.inr ⟨rfl, NO.out⟩, B2⟩
  | true =>
    refine takeW (i := 2) (by simp only [List.getElem?_toArray, List.getElem?_cons_succ, List.getElem?_cons_zero]; exact rfl) (by kernel_rfl) (by kernel_rfl) (by kernel_rfl) (by exact fun _ _ _ h => h) (by rfl) (by intro wq hSw; go_simp <;> with_reducible rfl) (by assumption) ?_
    try simp only [Act.put, List.setIfInBounds_toArray, List.set_cons_zero, List.set_cons_succ]
    refine takeW (i := 3) (by simp only [List.getElem?_toArray, List.getElem?_cons_succ, List.getElem?_cons_zero]; exact rfl) (by kernel_rfl) (by kernel_rfl) (by kernel_rfl) (by exact fun _ _ _ h => h) (by rfl) (by intro wq hSw; go_simp <;> with_reducible rfl) (by assumption) ?_
    try simp only [Act.put, List.setIfInBounds_toArray, List.set_cons_zero, List.set_cons_succ]
    refine takeW (i := 4) (by simp only [List.getElem?_toArray, List.getElem?_cons_succ, List.getElem?_cons_zero]; exact rfl) (by kernel_rfl) (by kernel_rfl) (by kernel_rfl) (by exact fun _ _ _ h => h) (by rfl) (by intro wq hSw; obtain ⟨⟨y0, y1, _, _⟩, ⟨l0, l1, l2, l3, _, _⟩⟩ := hSw; go_simp <;> with_reducible rfl) (by assumption) ?_
    try simp only [Act.put, List.setIfInBounds_toArray, List.set_cons_zero, List.set_cons_succ]
    refine takeW (i := 5) (by simp only [List.getElem?_toArray, List.getElem?_cons_succ, List.getElem?_cons_zero]; exact rfl) (by kernel_rfl) (by kernel_rfl) (by kernel_rfl) (by exact fun _ _ _ h => h) (by rfl) (by intro wq hSw; obtain ⟨⟨y0, y1, _, _⟩, ⟨l0, l1, l2, l3, _, _⟩⟩ := hSw; go_simp <;> with_reducible rfl) (by assumption) ?_
    try simp only [Act.put, List.setIfInBounds_toArray, List.set_cons_zero, List.set_cons_succ]
    refine wpAnyH_ready (rs := [6]) (by kernel_rfl) (by simp) (AllReadyH.cons (by simp only [List.getElem?_toArray, List.getElem?_cons_succ, List.getElem?_cons_zero]; exact rfl) (fun K hK => ?_) AllReadyH.nil)
    go_simp
    refine (sectors_any _ _ c c2 bs.length qs.length kk _ hk (by omega)).mono ?_
    rintro e ww2 ⟨rfl, hb⟩
    replace V1 := V1.below hb
    replace V4 := V4.below hb
    replace VD := VD.below hb
    replace VL := VL.below hb
    replace B := B.trans (hb.mono B.size)
    replace N := And.intro V1 V4
    refine hK.out _ _ N (fun hHeld => ?_)
    clear hK K hHeld
    try simp only [Act.put, List.setIfInBounds_toArray, List.set_cons_zero, List.set_cons_succ]
    clear hb
    refine wpAnyH_ready (rs := [7]) (by kernel_rfl) (by simp) (AllReadyH.cons (by simp only [List.getElem?_toArray, List.getElem?_cons_succ, List.getElem?_cons_zero]; exact rfl) (fun K hK => ?_) AllReadyH.nil)
    go_simp
    refine (lies_any F L X E (kk : Int) _ (by have := (R1.out.1 rfl).2.2.1; have := hk.out; omega)).mono ?_
    rintro e ww3 ⟨r, rfl, hr, hb⟩
    have R2 : Hid (r = true ↔ LgIn (kk : Int) F L X E) := hr
    clear hr
    replace V1 := V1.below hb
    replace V4 := V4.below hb
    replace VD := VD.below hb
    replace VL := VL.below hb
    replace B := B.trans (hb.mono B.size)
    replace N := And.intro V1 V4
    refine hK.out _ _ N (fun hHeld => ?_)
    clear hK K hHeld
    try simp only [Act.put, List.setIfInBounds_toArray, List.set_cons_zero, List.set_cons_succ]
    clear hb
    cases r with
    | false =>
      refine takeW (i := 8) (by simp only [List.getElem?_toArray, List.getElem?_cons_succ, List.getElem?_cons_zero]; exact rfl) (by kernel_rfl) (by kernel_rfl) (by kernel_rfl) (by exact fun _ _ _ h => h) (by rfl) (by intro wq hSw; go_simp <;> with_reducible rfl) (by assumption) ?_
      try simp only [Act.put, List.setIfInBounds_toArray, List.set_cons_zero, List.set_cons_succ]
      refine takeW (i := 9) (by simp only [List.getElem?_toArray, List.getElem?_cons_succ, List.getElem?_cons_zero]; exact rfl) (by kernel_rfl) (by kernel_rfl) (by kernel_rfl) (by exact fun _ _ _ h => h) (by rfl) (by intro wq hSw; go_simp <;> with_reducible rfl) (by assumption) ?_
      try simp only [Act.put, List.setIfInBounds_toArray, List.set_cons_zero, List.set_cons_succ]
      refine takeW (i := 10) (by simp only [List.getElem?_toArray, List.getElem?_cons_succ, List.getElem?_cons_zero]; exact rfl) (by kernel_rfl) (by kernel_rfl) (by kernel_rfl) (by exact fun _ _ _ h => h) (by rfl) (by intro wq hSw; go_simp <;> with_reducible rfl) (by assumption) ?_
      try simp only [Act.put, List.setIfInBounds_toArray, List.set_cons_zero, List.set_cons_succ]
      refine takeN (i := 11) (by simp only [List.getElem?_toArray, List.getElem?_cons_succ, List.getElem?_cons_zero]; exact rfl) (by kernel_rfl) (by kernel_rfl) (by kernel_rfl) (by exact fun _ _ _ h => h) (by rfl) (by assumption) ?_
      try simp only [Act.put, List.setIfInBounds_toArray, List.set_cons_zero, List.set_cons_succ]
      refine takeN (i := 12) (by simp only [List.getElem?_toArray, List.getElem?_cons_succ, List.getElem?_cons_zero]; exact rfl) (by kernel_rfl) (by kernel_rfl) (by kernel_rfl) (by exact fun _ _ _ h => h) (by rfl) (by assumption) ?_
      try simp only [Act.put, List.setIfInBounds_toArray, List.set_cons_zero, List.set_cons_succ]
      refine takeN (i := 13) (by simp only [List.getElem?_toArray, List.getElem?_cons_succ, List.getElem?_cons_zero]; exact rfl) (by kernel_rfl) (by kernel_rfl) (by kernel_rfl) (by exact fun _ _ _ h => h) (by rfl) (by assumption) ?_
      try simp only [Act.put, List.setIfInBounds_toArray, List.set_cons_zero, List.set_cons_succ]
      refine takeN (i := 14) (by simp only [List.getElem?_toArray, List.getElem?_cons_succ, List.getElem?_cons_zero]; exact rfl) (by kernel_rfl) (by kernel_rfl) (by kernel_rfl) (by exact fun _ _ _ h => h) (by rfl) (by assumption) ?_
      try simp only [Act.put, List.setIfInBounds_toArray, List.set_cons_zero, List.set_cons_succ]
      refine takeW (i := 15) (by simp only [List.getElem?_toArray, List.getElem?_cons_succ, List.getElem?_cons_zero]; exact rfl) (by kernel_rfl) (by kernel_rfl) (by kernel_rfl) (by exact fun _ _ _ h => h) (by rfl) (by intro wq hSw; go_simp <;> with_reducible rfl) (by assumption) ?_
      try simp only [Act.put, List.setIfInBounds_toArray, List.set_cons_zero, List.set_cons_succ]
      refine wpAnyH_done (by kernel_rfl) ?_ _
      have NO : Hid (¬(LaFine bs qs F L X E ∧ LwOk F L X E rs.length)) := fun q => by have q2 := la_ok.1 q; rw [hk.out] at q2; have := R2.out.2 q2.1.2; cases this
      clear N
      obtain ⟨d0, d1, df, _⟩ := id VD
      obtain ⟨s0, s1, s2, s3, sf, _⟩ := id VL
      have gq : ww3.grownBy ((ww3.setCell ⟨w.heap.size + 2, 0, none⟩ (.slice none 0 0)).setCell ⟨w.heap.size + 2, 1, none⟩ (.slice none 0 0)) (some (w.heap.size + 2)) := grownBy_setCell (p := ⟨w.heap.size + 2, 1, none⟩) (grownBy_setCell (p := ⟨w.heap.size + 2, 0, none⟩) (grownBy_refl _ _) rfl _) rfl _
      have B1 := Box2.chain B VD (.slice none 0 0) (.slice none 0 0)
      have VD1 := VD.put (.slice none 0 0) (.slice none 0 0)
      have VL1 := VL.grownW gq (by intro e; injection e with e; omega)
      have gl := grownBy_setCell (grownBy_setCell (grownBy_setCell (grownBy_setCell (grownBy_refl ((ww3.setCell ⟨w.heap.size + 2, 0, none⟩ (.slice none 0 0)).setCell ⟨w.heap.size + 2, 1, none⟩ (.slice none 0 0)) (some (w.heap.size + 3))) (p := ⟨w.heap.size + 3, 0, none⟩) rfl (.int .i64 0)) (p := ⟨w.heap.size + 3, 1, none⟩) rfl (.int .i64 0)) (p := ⟨w.heap.size + 3, 2, none⟩) rfl (.int .i64 0)) (p := ⟨w.heap.size + 3, 3, none⟩) rfl (.int .i64 0)
      have B2 := Box4.chain B1 VL1 (.int .i64 0) (.int .i64 0) (.int .i64 0) (.int .i64 0)
      have VD2 := VD1.grownO gl (by intro e; injection e with e; omega)
      have VL2 := VL1.put (.int .i64 0) (.int .i64 0) (.int .i64 0) (.int .i64 0)
      have r0 := VD2.c0
      have r1 := VD2.c1
      obtain ⟨t0, t1, t2, t3, _, _⟩ := id VL2
      clear V4 V1 VL VD VD1 VL1 VD2 VL2 gq gl B1
      go_wp2
      exact bodyPost_ret (v := .tuple #[.agg #[.slice none 0 0, .slice none 0 0], .agg #[.int .i64 0, .int .i64 0, .int .i64 0, .int .i64 0], .bool false]) (by simp [results, Tryz.results23, go_sem, r0, r1, t0, t1, t2, t3]) rfl ⟨.inr ⟨rfl, NO.out⟩, B2⟩
    | true =>
      refine takeW (i := 8) (by simp only [List.getElem?_toArray, List.getElem?_cons_succ, List.getElem?_cons_zero]; exact rfl) (by kernel_rfl) (by kernel_rfl) (by kernel_rfl) (by exact fun _ _ _ h => h) (by rfl) (by intro wq hSw; go_simp <;> with_reducible rfl) (by assumption) ?_
      try simp only [Act.put, List.setIfInBounds_toArray, List.set_cons_zero, List.set_cons_succ]
      refine takeW (i := 9) (by simp only [List.getElem?_toArray, List.getElem?_cons_succ, List.getElem?_cons_zero]; exact rfl) (by kernel_rfl) (by kernel_rfl) (by kernel_rfl) (by exact fun _ _ _ h => h) (by rfl) (by intro wq hSw; go_simp <;> with_reducible rfl) (by assumption) ?_
      try simp only [Act.put, List.setIfInBounds_toArray, List.set_cons_zero, List.set_cons_succ]
      refine takeW (i := 10) (by simp only [List.getElem?_toArray, List.getElem?_cons_succ, List.getElem?_cons_zero]; exact rfl) (by kernel_rfl) (by kernel_rfl) (by kernel_rfl) (by exact fun _ _ _ h => h) (by rfl) (by intro wq hSw; go_simp <;> with_reducible rfl) (by assumption) ?_
      try simp only [Act.put, List.setIfInBounds_toArray, List.set_cons_zero, List.set_cons_succ]
      refine takeW (i := 11) (by simp only [List.getElem?_toArray, List.getElem?_cons_succ, List.getElem?_cons_zero]; exact rfl) (by kernel_rfl) (by kernel_rfl) (by kernel_rfl) (by exact fun _ _ _ h => h) (by rfl) (by intro wq hSw; obtain ⟨⟨y0, y1, _, _⟩, ⟨l0, l1, l2, l3, _, _⟩⟩ := hSw; go_simp <;> with_reducible rfl) (by assumption) ?_
      try simp only [Act.put, List.setIfInBounds_toArray, List.set_cons_zero, List.set_cons_succ]
      refine takeW (i := 12) (by simp only [List.getElem?_toArray, List.getElem?_cons_succ, List.getElem?_cons_zero]; exact rfl) (by kernel_rfl) (by kernel_rfl) (by kernel_rfl) (by exact fun _ _ _ h => h) (by rfl) (by intro wq hSw; go_simp <;> with_reducible rfl) (by assumption) ?_
      try simp only [Act.put, List.setIfInBounds_toArray, List.set_cons_zero, List.set_cons_succ]
      refine wpAnyH_ready (rs := [13]) (by kernel_rfl) (by simp) (AllReadyH.cons (by simp only [List.getElem?_toArray, List.getElem?_cons_succ, List.getElem?_cons_zero]; exact rfl) (fun K hK => ?_) AllReadyH.nil)
      go_simp
      refine (lgTakes_any F L X E _ rs.length c3 _ hl (by have q := R2.out.1 rfl; have := (R1.out.1 rfl).2.2.1; have := hk.out; unfold LgIn at q ⊢; omega)).mono ?_
      rintro e ww4 ⟨r, rfl, hr, hb⟩
      have R3 : Hid (r = true ↔ LgTk F L X rs.length) := hr
      clear hr
      replace V1 := V1.below hb
      replace V4 := V4.below hb
      replace VD := VD.below hb
      replace VL := VL.below hb
      replace B := B.trans (hb.mono B.size)
      replace N := And.intro V1 V4
      refine hK.out _ _ N (fun hHeld => ?_)
      clear hK K hHeld
      try simp only [Act.put, List.setIfInBounds_toArray, List.set_cons_zero, List.set_cons_succ]
      clear hb
      cases r with
      | false =>
        refine takeW (i := 14) (by simp only [List.getElem?_toArray, List.getElem?_cons_succ, List.getElem?_cons_zero]; exact rfl) (by kernel_rfl) (by kernel_rfl) (by kernel_rfl) (by exact fun _ _ _ h => h) (by rfl) (by intro wq hSw; go_simp <;> with_reducible rfl) (by assumption) ?_
        try simp only [Act.put, List.setIfInBounds_toArray, List.set_cons_zero, List.set_cons_succ]
        refine takeW (i := 15) (by simp only [List.getElem?_toArray, List.getElem?_cons_succ, List.getElem?_cons_zero]; exact rfl) (by kernel_rfl) (by kernel_rfl) (by kernel_rfl) (by exact fun _ _ _ h => h) (by rfl) (by intro wq hSw; go_simp <;> with_reducible rfl) (by assumption) ?_
        try simp only [Act.put, List.setIfInBounds_toArray, List.set_cons_zero, List.set_cons_succ]
        refine wpAnyH_done (by kernel_rfl) ?_ _
        have NO : Hid (¬(LaFine bs qs F L X E ∧ LwOk F L X E rs.length)) := fun q => by have q2 := la_ok.1 q; rw [hk.out] at q2; have := R3.out.2 q2.2; cases this
        clear N
        obtain ⟨d0, d1, df, _⟩ := id VD
        obtain ⟨s0, s1, s2, s3, sf, _⟩ := id VL
        have gq : ww4.grownBy ((ww4.setCell ⟨w.heap.size + 2, 0, none⟩ (.slice none 0 0)).setCell ⟨w.heap.size + 2, 1, none⟩ (.slice none 0 0)) (some (w.heap.size + 2)) := grownBy_setCell (p := ⟨w.heap.size + 2, 1, none⟩) (grownBy_setCell (p := ⟨w.heap.size + 2, 0, none⟩) (grownBy_refl _ _) rfl _) rfl _
        have B1 := Box2.chain B VD (.slice none 0 0) (.slice none 0 0)
        have VD1 := VD.put (.slice none 0 0) (.slice none 0 0)
        have VL1 := VL.grownW gq (by intro e; injection e with e; omega)
        have gl := grownBy_setCell (grownBy_setCell (grownBy_setCell (grownBy_setCell (grownBy_refl ((ww4.setCell ⟨w.heap.size + 2, 0, none⟩ (.slice none 0 0)).setCell ⟨w.heap.size + 2, 1, none⟩ (.slice none 0 0)) (some (w.heap.size + 3))) (p := ⟨w.heap.size + 3, 0, none⟩) rfl (.int .i64 0)) (p := ⟨w.heap.size + 3, 1, none⟩) rfl (.int .i64 0)) (p := ⟨w.heap.size + 3, 2, none⟩) rfl (.int .i64 0)) (p := ⟨w.heap.size + 3, 3, none⟩) rfl (.int .i64 0)
        have B2 := Box4.chain B1 VL1 (.int .i64 0) (.int .i64 0) (.int .i64 0) (.int .i64 0)
        have VD2 := VD1.grownO gl (by intro e; injection e with e; omega)
        have VL2 := VL1.put (.int .i64 0) (.int .i64 0) (.int .i64 0) (.int .i64 0)
        have r0 := VD2.c0
        have r1 := VD2.c1
        obtain ⟨t0, t1, t2, t3, _, _⟩ := id VL2
        clear V4 V1 VL VD VD1 VL1 VD2 VL2 gq gl B1
        go_wp2
        exact bodyPost_ret (v := .tuple #[.agg #[.slice none 0 0, .slice none 0 0], .agg #[.int .i64 0, .int .i64 0, .int .i64 0, .int .i64 0], .bool false]) (by simp [results, Tryz.results23, go_sem, r0, r1, t0, t1, t2, t3]) rfl ⟨.inr ⟨rfl, NO.out⟩, B2⟩
      | true =>
        refine takeW (i := 14) (by simp only [List.getElem?_toArray, List.getElem?_cons_succ, List.getElem?_cons_zero]; exact rfl) (by kernel_rfl) (by kernel_rfl) (by kernel_rfl) (by exact fun _ _ _ h => h) (by rfl) (by intro wq hSw; go_simp <;> with_reducible rfl) (by assumption) ?_
        try simp only [Act.put, List.setIfInBounds_toArray, List.set_cons_zero, List.set_cons_succ]
        refine takeW (i := 15) (by simp only [List.getElem?_toArray, List.getElem?_cons_succ, List.getElem?_cons_zero]; exact rfl) (by kernel_rfl) (by kernel_rfl) (by kernel_rfl) (by exact fun _ _ _ h => h) (by rfl) (by intro wq hSw; go_simp <;> with_reducible rfl) (by assumption) ?_
        try simp only [Act.put, List.setIfInBounds_toArray, List.set_cons_zero, List.set_cons_succ]
        refine wpAnyH_done (by kernel_rfl) ?_ _
        have O1 : Hid (DkOk bs qs) := R1.out.1 rfl
        have O2 : Hid (LgIn (kk : Int) F L X E) := R2.out.1 rfl
        have O3 : Hid (LgTk F L X rs.length) := R3.out.1 rfl
        have O4 : Hid (LgIn ((bs.length / 64 : Nat) : Int) F L X E) := by show LgIn _ _ _ _ _; rw [hk.out]; exact O2.out
        have LO : Hid (LaFine bs qs F L X E ∧ LwOk F L X E rs.length) := la_ok.2 ⟨⟨O1.out, O4.out⟩, O3.out⟩
        have OD : Hid (DkOk bs (qs ++ lgWs F X E rs (lgMany rs.length))) := la_dk O1.out O4.out O3.out
        have xb : 0 ≤ X ∧ X ≤ 400 := by
          have q := O2.out
          unfold LgIn at q
          have := O1.out.2.2.1
          have := hk.out
          omega
        obtain ⟨m, hm0⟩ : ∃ m : Nat, Hid (lgMany rs.length = m) := ⟨_, rfl⟩
        have hmb : 1 ≤ m ∧ m ≤ 91 := by
          have o4 := O3.out.1
          rw [← hm0.out]
          refine ⟨lgMany_pos _, ?_⟩
          unfold lgMany
          split <;> omega
        clear N R1 R2 R3 O1 O2 O3 O4
        obtain ⟨l0, l1, l2, l3, lf, _⟩ := id V4
        go_wp2_with fail
        refine (implLogWrites F L X E b off c3 rs _ (HP.out.below B) hl H8.out).mono ?_
        rintro e w4 ⟨v4, us, ws, rfl, LW, QW, hb⟩
        have HWS : Hid (ws = lgWs F X E rs m) := by
          show _ = _
          rcases LW with ⟨_, e⟩ | ⟨n, _⟩
          · rw [e, hm0.out]
          · exact absurd LO.out.2 n
        have wl : Hid (ws.length = m) := by show _ = _; rw [HWS.out, lgWs_len]
        have wlb : ws.length ≤ 91 := by have := wl.out; omega
        have wp1 : 0 < ws.length := by have := wl.out; omega
        have SU : Hid (SomeV us) := QW.some (fun i hi => by rw [wl.out] at hi; rw [HWS.out, wrN_lgWs F X E rs hi]; omega)
        have UZ : Hid (uptoQ (qs ++ ws) (qs ++ ws).length ≤ 2000000) := by
          show _ ≤ _
          rw [List.length_append, uptoQ_appR, wl.out, HWS.out, uptoQ_lgWs F X E rs m m (Nat.le_refl _)]
          have := HS.out
          omega
        have s4 : w.heap.size + 4 ≤ ww4.heap.size := by have := VL.lt; omega
        replace QW := QW.base (lo' := w.heap.size + 4) s4
        obtain ⟨zs, hzs⟩ : ∃ zs, Hid (qs ++ ws = zs) := ⟨_, rfl⟩
        have OZ : Hid (DkOk bs zs) := by show DkOk _ _; rw [← hzs.out, HWS.out, ← hm0.out]; exact OD.out
        rw [hzs.out] at UZ
        obtain ⟨a4, c4, rfl, hc4, hm4⟩ := QW.shape
        replace V1 := V1.below hb
        replace V4 := V4.below hb
        replace VD := VD.below hb
        replace VL := VL.below hb
        replace B := B.trans (hb.mono B.size)
        clear hb l0 l1 l2 l3 lf LW OD
        go_upto_region 4 with fail
        obtain ⟨l0, l1, l2, l3, lf, _⟩ := id V4
        have gq : w4.grownBy (w4.setCell ⟨w.heap.size + 1, 2, none⟩ (.int .i64 (X + (ws.length : Int)))) (some (w.heap.size + 1)) := grownBy_setCell (p := ⟨w.heap.size + 1, 2, none⟩) (grownBy_refl _ _) rfl _
        go_upto_region 5 with fail
        clear l0 l1 l2 l3 lf
        replace V1 := V1.grownO gq (by intro e; injection e with e; omega)
        replace VD := VD.grownO gq (by intro e; injection e with e; omega)
        replace VL := VL.grownW gq (by intro e; injection e with e; omega)
        replace V4 := V4.put2W (.int .i64 (X + (ws.length : Int)))
        replace QW := QW.kept gq (fun k hk e => by have := (QW.lts.1 k hk).1; injection e with e; omega) (fun u hu k hk e => by have := (QW.lts.2 u hu k hk).1; injection e with e; omega)
        replace B := B.grown gq B.size (fun k hk => by injection hk with hk; omega)
        clear gq
        generalize w4.setCell ⟨w.heap.size + 1, 2, none⟩ (.int .i64 (X + (ws.length : Int))) = W5 at *
        have bd := ((Below.refl W5.heap.size W5).drew : Below W5.heap.size W5 _)
        replace V1 := V1.below bd
        replace V4 := V4.below bd
        replace VD := VD.below bd
        replace VL := VL.below bd
        replace QW := QW.below bd
        replace B := B.trans (bd.mono B.size)
        clear bd
        have N : Box2 w.heap.size W5.drew w.heap.size (.slice (some ad) bs.length c) (.slice a2 qs.length c2) ∧ Box4 w.heap.size W5.drew (w.heap.size + 1) (.int .i64 F) (.int .i64 L) (.int .i64 (X + (ws.length : Int))) (.int .i64 E) := And.intro V1 V4
        refine wp_region_held_drew (S := fun W => Box2 w.heap.size W w.heap.size (.slice (some ad) bs.length c) (.slice a2 qs.length c2) ∧ Box4 w.heap.size W (w.heap.size + 1) (.int .i64 F) (.int .i64 L) (.int .i64 (X + (ws.length : Int))) (.int .i64 E)) (by kernel_rfl) N (fun hHeld => ?_)
        clear hHeld
        generalize W5.drew = xx0 at *
        have s0 : w.heap.size + 4 ≤ xx0.heap.size := by have := VL.lt; omega
        refine takeW (i := 0) (by simp only [List.getElem?_toArray, List.getElem?_cons_zero]; exact rfl) (by kernel_rfl) (by kernel_rfl) (by kernel_rfl) (by exact fun _ _ _ h => h) (by rfl) (by intro wq hSw; go_simp <;> with_reducible rfl) (by assumption) ?_
        try simp only [Act.put, List.setIfInBounds_toArray, List.set_cons_zero, List.set_cons_succ]
        refine takeW (i := 1) (by simp only [List.getElem?_toArray, List.getElem?_cons_succ, List.getElem?_cons_zero]; exact rfl) (by kernel_rfl) (by kernel_rfl) (by kernel_rfl) (by exact fun _ _ _ h => h) (by rfl) (by intro wq hSw; obtain ⟨⟨y0, y1, _, _⟩, ⟨l0, l1, l2, l3, _, _⟩⟩ := hSw; go_simp <;> with_reducible rfl) (by assumption) ?_
        try simp only [Act.put, List.setIfInBounds_toArray, List.set_cons_zero, List.set_cons_succ]
        refine takeW (i := 2) (by simp only [List.getElem?_toArray, List.getElem?_cons_succ, List.getElem?_cons_zero]; exact rfl) (by kernel_rfl) (by kernel_rfl) (by kernel_rfl) (by exact fun _ _ _ h => h) (by rfl) (by intro wq hSw; go_simp <;> with_reducible rfl) (by assumption) ?_
        try simp only [Act.put, List.setIfInBounds_toArray, List.set_cons_zero, List.set_cons_succ]
        refine takeW (i := 3) (by simp only [List.getElem?_toArray, List.getElem?_cons_succ, List.getElem?_cons_zero]; exact rfl) (by kernel_rfl) (by kernel_rfl) (by kernel_rfl) (by exact fun _ _ _ h => h) (by rfl) (by intro wq hSw; obtain ⟨⟨y0, y1, _, _⟩, ⟨l0, l1, l2, l3, _, _⟩⟩ := hSw; go_simp <;> with_reducible rfl) (by assumption) ?_
        try simp only [Act.put, List.setIfInBounds_toArray, List.set_cons_zero, List.set_cons_succ]
        refine takeW (i := 4) (by simp only [List.getElem?_toArray, List.getElem?_cons_succ, List.getElem?_cons_zero]; exact rfl) (by kernel_rfl) (by kernel_rfl) (by kernel_rfl) (by exact fun _ _ _ h => h) (by rfl) (by intro wq hSw; go_simp <;> with_reducible rfl) (by assumption) ?_
        try simp only [Act.put, List.setIfInBounds_toArray, List.set_cons_zero, List.set_cons_succ]
        refine takeW (i := 8) (by simp only [List.getElem?_toArray, List.getElem?_cons_succ, List.getElem?_cons_zero]; exact rfl) (by kernel_rfl) (by kernel_rfl) (by kernel_rfl) (by exact fun _ _ _ h => h) (by rfl) (by intro wq hSw; obtain ⟨⟨y0, y1, _, _⟩, ⟨l0, l1, l2, l3, _, _⟩⟩ := hSw; go_simp <;> with_reducible rfl) (by assumption) ?_
        try simp only [Act.put, List.setIfInBounds_toArray, List.set_cons_zero, List.set_cons_succ]
        refine wpAnyH_ready (rs := [5]) (by kernel_rfl) (by simp) (AllReadyH.cons (by simp only [List.getElem?_toArray, List.getElem?_cons_succ, List.getElem?_cons_zero]; exact rfl) (fun K hK => ?_) AllReadyH.nil)
        go_simp
        have bq := below1 xx0 (.cells #[.slice a2 qs.length c2, .slice a4 ws.length c4] 29)
        have VP := Box2.new xx0 (lo := 0) (by omega) (.slice a2 qs.length c2) (.slice a4 ws.length c4) 29
        replace V1 := V1.below bq
        replace V4 := V4.below bq
        replace VD := VD.below bq
        replace VL := VL.below bq
        replace QW := QW.below bq
        replace B := B.trans (bq.mono B.size)
        replace N := And.intro V1 V4
        refine hK.out _ _ N (fun hHeld => ?_)
        clear hK K hHeld
        try simp only [Act.put, List.setIfInBounds_toArray, List.set_cons_zero, List.set_cons_succ]
        have s1 : w.heap.size + 4 ≤ (xx0.alloc (.cells #[.slice a2 qs.length c2, .slice a4 ws.length c4] 29)).heap.size := by rw [World.size_alloc]; omega
        generalize xx0.heap.size = zp at *
        generalize xx0.alloc (.cells #[.slice a2 qs.length c2, .slice a4 ws.length c4] 29) = xx1 at *
        clear bq
        refine wpAnyH_ready (rs := [6]) (by kernel_rfl) (by simp) (AllReadyH.cons (by simp only [List.getElem?_toArray, List.getElem?_cons_succ, List.getElem?_cons_zero]; exact rfl) (fun K hK => ?_) AllReadyH.nil)
        go_simp
        have CP : ∀ i, i < 2 → xx1.cell? ⟨zp, i, none⟩ = some (.slice (if i = 0 then a2 else a4) (if i = 0 then qs.length else ws.length) (if i = 0 then c2 else c4)) := fun i hi => by
          match i, hi with
          | 0, _ => exact VP.c0
          | 1, _ => exact VP.c1
        have CS : ∀ i, i < 2 → SeesC xx1 (if i = 0 then a2 else a4) (if i = 0 then qs.length else ws.length) (if i = 0 then wrC qs vs0 else wrC ws us) := fun i hi => by
          match i, hi with
          | 0, _ => exact (HD.out.below B).que.seesC HM.out
          | 1, _ => exact QW.seesC SU.out
        have CN : ∀ i, i < 2 → (if i = 0 then qs.length else ws.length) ≤ 2000000 := fun i hi => by
          match i, hi with
          | 0, _ => show qs.length ≤ _; omega
          | 1, _ => show ws.length ≤ _; omega
        refine (concatW zp (fun i => if i = 0 then a2 else a4) (fun i => if i = 0 then c2 else c4) (fun i => if i = 0 then qs.length else ws.length) (fun i => if i = 0 then wrC qs vs0 else wrC ws us) _ CP CS CN).mono ?_
        rintro e xx2 ⟨v7, rfl, R7, hb⟩
        have R8 : xx2.ownsRow xx1.heap.size 55 2 v7 (qs.length + ws.length) (wrC qs vs0 ++ wrC ws us) := by simpa [upN, flX] using R7
        clear CP CS CN VP R7
        replace V1 := V1.below hb
        replace V4 := V4.below hb
        replace VD := VD.below hb
        replace VL := VL.below hb
        replace QW := QW.below hb
        replace B := B.trans (hb.mono B.size)
        obtain ⟨g7, c7, e7, _⟩ := quV_app (HD.out.below B).que QW hzs R8 wp1
        subst e7
        have own8 : ∀ k, (Value.slice (some ⟨g7, 0, none⟩) zs.length c7).ownBlock = some k → w.heap.size + 4 ≤ k := fun k hk => by have := (World.ownsRow.lt R8 k hk).1; omega
        replace N := And.intro V1 V4
        refine hK.out _ _ N (fun hHeld => ?_)
        clear hK K hHeld
        try simp only [Act.put, List.setIfInBounds_toArray, List.set_cons_zero, List.set_cons_succ]
        clear hb
        refine takeW (i := 7) (by simp only [List.getElem?_toArray, List.getElem?_cons_succ, List.getElem?_cons_zero]; exact rfl) (by kernel_rfl) (by kernel_rfl) (by kernel_rfl) (by exact fun _ _ _ h => h) (by rfl) (by intro wq hSw; go_simp <;> with_reducible rfl) (by assumption) ?_
        try simp only [Act.put, List.setIfInBounds_toArray, List.set_cons_zero, List.set_cons_succ]
        refine wpAnyH_ready (rs := [9]) (by kernel_rfl) (by simp) (AllReadyH.cons (by simp only [List.getElem?_toArray, List.getElem?_cons_succ, List.getElem?_cons_zero]; exact rfl) (fun K hK => ?_) AllReadyH.nil)
        obtain ⟨q0, q1, qf, _⟩ := id VD
        go_simp
        have gq : xx2.grownBy ((xx2.setCell ⟨w.heap.size + 2, 0, none⟩ (.slice (some ad) bs.length c)).setCell ⟨w.heap.size + 2, 1, none⟩ (.slice (some ⟨g7, 0, none⟩) zs.length c7)) (some (w.heap.size + 2)) := grownBy_setCell (p := ⟨w.heap.size + 2, 1, none⟩) (grownBy_setCell (p := ⟨w.heap.size + 2, 0, none⟩) (grownBy_refl _ _) rfl _) rfl _
        replace B := Box2.chain B VD (.slice (some ad) bs.length c) (.slice (some ⟨g7, 0, none⟩) zs.length c7)
        replace VD := VD.put (.slice (some ad) bs.length c) (.slice (some ⟨g7, 0, none⟩) zs.length c7)
        replace V1 := V1.grownO gq (by intro e; injection e with e; omega)
        replace V4 := V4.grownW gq (by intro e; injection e with e; omega)
        replace VL := VL.grownW gq (by intro e; injection e with e; omega)
        replace QW := QW.kept gq (fun k hk e => by have := (QW.lts.1 k hk).1; injection e with e; omega) (fun u hu k hk e => by have := (QW.lts.2 u hu k hk).1; injection e with e; omega)
        replace R8 := owns_keptQ R8 gq (fun k hk e => by have := own8 k hk; injection e with e; omega)
        replace N := And.intro V1 V4
        refine hK.out _ _ N (fun hHeld => ?_)
        clear hK K hHeld
        try simp only [Act.put, List.setIfInBounds_toArray, List.set_cons_zero, List.set_cons_succ]
        clear q0 q1 qf gq
        generalize (xx2.setCell ⟨w.heap.size + 2, 0, none⟩ (.slice (some ad) bs.length c)).setCell ⟨w.heap.size + 2, 1, none⟩ (.slice (some ⟨g7, 0, none⟩) zs.length c7) = xx3 at *
        refine wpAnyH_ready (rs := [10]) (by kernel_rfl) (by simp) (AllReadyH.cons (by simp only [List.getElem?_toArray, List.getElem?_cons_succ, List.getElem?_cons_zero]; exact rfl) (fun K hK => ?_) AllReadyH.nil)
        obtain ⟨q0, q1, q2, q3, qf, _⟩ := id VL
        go_simp
        have gq := grownBy_setCell (grownBy_setCell (grownBy_setCell (grownBy_setCell (grownBy_refl xx3 (some (w.heap.size + 3))) (p := ⟨w.heap.size + 3, 0, none⟩) rfl (.int .i64 F)) (p := ⟨w.heap.size + 3, 1, none⟩) rfl (.int .i64 L)) (p := ⟨w.heap.size + 3, 2, none⟩) rfl (.int .i64 (X + (ws.length : Int)))) (p := ⟨w.heap.size + 3, 3, none⟩) rfl (.int .i64 E)
        replace B := Box4.chain B VL (.int .i64 F) (.int .i64 L) (.int .i64 (X + (ws.length : Int))) (.int .i64 E)
        replace VL := VL.put (.int .i64 F) (.int .i64 L) (.int .i64 (X + (ws.length : Int))) (.int .i64 E)
        replace V1 := V1.grownO gq (by intro e; injection e with e; omega)
        replace V4 := V4.grownW gq (by intro e; injection e with e; omega)
        replace VD := VD.grownO gq (by intro e; injection e with e; omega)
        replace QW := QW.kept gq (fun k hk e => by have := (QW.lts.1 k hk).1; injection e with e; omega) (fun u hu k hk e => by have := (QW.lts.2 u hu k hk).1; injection e with e; omega)
        replace R8 := owns_keptQ R8 gq (fun k hk e => by have := own8 k hk; injection e with e; omega)
        replace N := And.intro V1 V4
        refine hK.out _ _ N (fun hHeld => ?_)
        clear hK K hHeld
        try simp only [Act.put, List.setIfInBounds_toArray, List.set_cons_zero, List.set_cons_succ]
        clear q0 q1 q2 q3 qf gq
        generalize ((((xx3.setCell ⟨w.heap.size + 3, 0, none⟩ (.int .i64 F)).setCell ⟨w.heap.size + 3, 1, none⟩ (.int .i64 L)).setCell ⟨w.heap.size + 3, 2, none⟩ (.int .i64 (X + (ws.length : Int)))).setCell ⟨w.heap.size + 3, 3, none⟩ (.int .i64 E)) = xx4 at *
        refine takeW (i := 11) (by simp only [List.getElem?_toArray, List.getElem?_cons_succ, List.getElem?_cons_zero]; exact rfl) (by kernel_rfl) (by kernel_rfl) (by kernel_rfl) (by exact fun _ _ _ h => h) (by rfl) (by intro wq hSw; go_simp <;> with_reducible rfl) (by assumption) ?_
        try simp only [Act.put, List.setIfInBounds_toArray, List.set_cons_zero, List.set_cons_succ]
        refine wpAnyH_done (by kernel_rfl) ?_ _
        clear N
        obtain ⟨g8, c8, e8, QV⟩ := quV_app (HD.out.below B).que QW hzs R8 wp1
        injection e8 with e8 _ e9
        injection e8 with e8
        injection e8 with e8
        subst e8 e9
        have r0 := VD.c0
        have r1 := VD.c1
        obtain ⟨s0, s1, s2, s3, _, _⟩ := id VL
        have QP : Hid (QuV xx4 (some ⟨g7, 0, none⟩) c7 zs) := QV
        have HZ : Hid (zs = qs ++ lgWs F X E rs (lgMany rs.length)) := by show _ = _; rw [← hzs.out, HWS.out, hm0.out]
        have HM2 : Hid ((ws.length : Int) = (lgMany rs.length : Int)) := by show _ = _; rw [wl.out, hm0.out]
        clear V4 V1 VL VD QW R8 QV
        go_wp2
        refine bodyPost_ret (v := .tuple #[.agg #[(.slice (some ad) bs.length c), .slice (some ⟨g7, 0, none⟩) zs.length c7], .agg #[.int .i64 F, .int .i64 L, .int .i64 (X + (ws.length : Int)), .int .i64 E], .bool true]) (by simp [results, Tryz.results23, go_sem, r0, r1, s0, s1, s2, s3]) rfl ⟨.inl ⟨g7, c7, zs, HZ.out, by rw [← HM2.out], LO.out, QP.out, OZ.out, UZ.out⟩, B⟩

set_option maxRecDepth 20000 in
set_option maxHeartbeats 8000000 in
theorem implLogAdd {lo : Nat} (b0 : Addr) (ad : Addr) (a2 : Option Addr) (c c2 : Nat) (vs0 : List Value) (bs : List Int) (qs : List Wr) (F L X E : Int) (b off c3 : Nat) (rs : List Int) (w : World) (h : DkR lo w (.slice (some ad) bs.length c) (.slice a2 qs.length c2) vs0 bs qs) (hv0 : SomeV vs0) (hr : SeesB w (some ⟨b, off, none⟩) c3 rs) (hl : rs.length ≤ 1048576) (h8 : ∀ x ∈ rs, 0 ≤ x ∧ x < 256) (hb0 : bs.length ≤ 1900000) (hs : uptoQ qs qs.length ≤ 1900000) (er : Er b0 w) :
    Calls Tryz.prog 9 #[.agg #[.slice (some ad) bs.length c, .slice a2 qs.length c2], .agg #[.int .i64 F, .int .i64 L, .int .i64 X, .int .i64 E], .slice (some ⟨b, off, none⟩) rs.length c3] w fun e w' => LaPost w.heap.size bs qs F L X E rs e w' ∧ Below w.heap.size w w' := by
  have hn : qs.length ≤ 1900000 := by have := uptoQ_mono qs (Nat.zero_le qs.length); simp only [uptoQ] at this; omega
  have HS : Hid (uptoQ qs qs.length ≤ 1900000) := hs
  have HM : Hid (SomeV vs0) := hv0
  have HD : Hid (DkR lo w (.slice (some ad) bs.length c) (.slice a2 qs.length c2) vs0 bs qs) := h
  have HP : Hid (SeesB w (some ⟨b, off, none⟩) c3 rs) := hr
  have H8 : Hid (∀ x ∈ rs, 0 ≤ x ∧ x < 256) := h8
  have HE : Hid (Er b0 w) := er
  have wp := er.pos
  obtain ⟨kk, hk⟩ : ∃ kk, Hid (bs.length / 64 = kk) := ⟨_, rfl⟩
  have V1 := Box2.new w (lo := w.heap.size) (Nat.le_refl _) (.slice (some ad) bs.length c) (.slice a2 qs.length c2) 31
  have B := below1 w (.cells #[.slice (some ad) bs.length c, .slice a2 qs.length c2] 31)
  generalize hWa : w.alloc (.cells #[.slice (some ad) bs.length c, .slice a2 qs.length c2] 31) = Wa at *
  have za : Wa.heap.size = w.heap.size + 1 := by rw [← hWa]; simp
  have V4 := Box4.new Wa (lo := w.heap.size) B.size (.int .i64 F) (.int .i64 L) (.int .i64 X) (.int .i64 E) 32
  have b2 := below1 Wa (.cells #[.int .i64 F, .int .i64 L, .int .i64 X, .int .i64 E] 32)
  replace V1 := V1.below b2
  replace B := B.trans (b2.mono B.size)
  rw [za] at V4
  generalize hWb : Wa.alloc (.cells #[.int .i64 F, .int .i64 L, .int .i64 X, .int .i64 E] 32) = Wb at *
  have zb : Wb.heap.size = w.heap.size + 2 := by rw [← hWb]; simp [za]
  have VD := Box2.new Wb (lo := w.heap.size) B.size (.slice none 0 0) (.slice none 0 0) 31
  have b3 := below1 Wb (.cells #[.slice none 0 0, .slice none 0 0] 31)
  replace V1 := V1.below b3
  replace V4 := V4.below b3
  replace B := B.trans (b3.mono B.size)
  rw [zb] at VD
  generalize hWc : Wb.alloc (.cells #[.slice none 0 0, .slice none 0 0] 31) = Wc at *
  have zc : Wc.heap.size = w.heap.size + 3 := by rw [← hWc]; simp [zb]
  have VL := Box4.new Wc (lo := w.heap.size) B.size (.int .i64 0) (.int .i64 0) (.int .i64 0) (.int .i64 0) 32
  have b4 := below1 Wc (.cells #[.int .i64 0, .int .i64 0, .int .i64 0, .int .i64 0] 32)
  replace V1 := V1.below b4
  replace V4 := V4.below b4
  replace VD := VD.below b4
  replace B := B.trans (b4.mono B.size)
  rw [zc] at VL
  have zd : (Wc.alloc (.cells #[.int .i64 0, .int .i64 0, .int .i64 0, .int .i64 0] 32)).heap.size = w.heap.size + 4 := by simp [zc]
  have CQ : Hid (∀ W, Below w.heap.size w W → Calls Tryz.prog 23 #[.agg #[.slice (some ad) bs.length c, .slice a2 qs.length c2], .agg #[.int .i64 F, .int .i64 L, .int .i64 X, .int .i64 E], .slice (some ⟨b, off, none⟩) rs.length c3] W fun e w' => QrPost ad c bs qs F L X E rs e w' ∧ Below W.heap.size W w') := fun W hb => implQueued b0 ad a2 c c2 vs0 bs qs F L X E b off c3 rs W (HD.out.below hb) hv0 (HP.out.below hb) hl h8 hb0 hs (HE.out.below hb wp)
  clear b2 b3 b4 hs hv0 h hr h8 er
  go_enter Tryz.func9, Tryz.ntmps9
  go_upto_region 1 with fail
  try rw [za]
  try rw [zb]
  try rw [zc]
  generalize Wc.alloc (.cells #[.int .i64 0, .int .i64 0, .int .i64 0, .int .i64 0] 32) = W0 at *
  clear hWa hWb hWc za zb zc
  obtain ⟨y0, y1, _, _⟩ := id V1
  obtain ⟨l0, l1, l2, l3, _, _⟩ := id V4
  have C := CQ.out W0 B
  clear CQ
  go_wp2_with fail
  refine C.mono ?_
  rintro e w1 ⟨QP, hb⟩
  replace V1 := V1.below hb
  replace V4 := V4.below hb
  replace VD := VD.below hb
  replace VL := VL.below hb
  replace B := B.trans (hb.mono B.size)
  have zz4 : w.heap.size + 4 ≤ w1.heap.size := by have := VL.lt; omega
  have zz1 : w.heap.size ≤ w1.heap.size := B.size
  clear hb C y0 y1 l0 l1 l2 l3
  rcases QP with ⟨g7, c7, zs, hz, rfl, lo', QV, OZ, UZ⟩ | ⟨rfl, no'⟩
  · have HZ : Hid (zs = qs ++ lgWs F X E rs (lgMany rs.length)) := hz
    have LO : Hid (LaFine bs qs F L X E ∧ LwOk F L X E rs.length) := lo'
    clear hz lo'
    have bq := below1 w1 (.cells #[(.slice (some ad) bs.length c), (.slice (some ⟨g7, 0, none⟩) zs.length c7)] 31)
    have VQ := Box2.new w1 (lo := w.heap.size) zz1 (.slice (some ad) bs.length c) (.slice (some ⟨g7, 0, none⟩) zs.length c7) 31
    have bm := below1 (w1.alloc (.cells #[(.slice (some ad) bs.length c), (.slice (some ⟨g7, 0, none⟩) zs.length c7)] 31)) (.cells #[(.int .i64 F), (.int .i64 L), (.int .i64 (X + (lgMany rs.length : Int))), (.int .i64 E)] 32)
    have VM := Box4.new (w1.alloc (.cells #[(.slice (some ad) bs.length c), (.slice (some ⟨g7, 0, none⟩) zs.length c7)] 31)) (lo := w.heap.size) (Nat.le_trans zz1 bq.size) (.int .i64 F) (.int .i64 L) (.int .i64 (X + (lgMany rs.length : Int))) (.int .i64 E) 32
    rw [World.size_alloc] at VM
    replace VQ := VQ.below bm
    have BF := bq.trans (bm.mono bq.size)
    clear bq bm
    go_upto_region 2 with fail
    generalize (w1.alloc (.cells #[(.slice (some ad) bs.length c), (.slice (some ⟨g7, 0, none⟩) zs.length c7)] 31)).alloc (.cells #[(.int .i64 F), (.int .i64 L), (.int .i64 (X + (lgMany rs.length : Int))), (.int .i64 E)] 32) = W9 at *
    replace V1 := V1.below BF
    replace V4 := V4.below BF
    replace VD := VD.below BF
    replace VL := VL.below BF
    replace B := B.trans (BF.mono B.size)
    replace QV := QV.below BF
    clear BF
    have nq : w1.heap.size ≠ w.heap.size + 2 := by omega
    generalize hqb : w1.heap.size = qb at *
    generalize hmb : qb + 1 = mb at *
    go_upto_region 4 with fail
    have bd := ((Below.refl W9.heap.size W9).drew : Below W9.heap.size W9 _)
    replace VQ := VQ.below bd
    replace VM := VM.below bd
    replace VD := VD.below bd
    replace VL := VL.below bd
    replace B := B.trans (bd.mono B.size)
    clear bd
    replace QV := QV.below (Below.refl _ _).drew
    have N : Box2 w.heap.size W9.drew qb (.slice (some ad) bs.length c) (.slice (some ⟨g7, 0, none⟩) zs.length c7) ∧ Box4 w.heap.size W9.drew mb (.int .i64 F) (.int .i64 L) (.int .i64 (X + (lgMany rs.length : Int))) (.int .i64 E) := And.intro VQ VM
    refine wp_region_held_drew (S := fun W => Box2 w.heap.size W qb (.slice (some ad) bs.length c) (.slice (some ⟨g7, 0, none⟩) zs.length c7) ∧ Box4 w.heap.size W mb (.int .i64 F) (.int .i64 L) (.int .i64 (X + (lgMany rs.length : Int))) (.int .i64 E)) (by kernel_rfl) N (fun hHeld => ?_)
    clear hHeld
    generalize W9.drew = xx0 at *
    have s0 : w.heap.size + 4 ≤ xx0.heap.size := by have := VL.lt; omega
    refine takeW (i := 0) (by simp only [List.getElem?_toArray, List.getElem?_cons_zero]; exact rfl) (by kernel_rfl) (by kernel_rfl) (by kernel_rfl) (by exact fun _ _ _ h => h) (by rfl) (by intro wq hSw; obtain ⟨⟨y0, y1, _, _⟩, ⟨l0, l1, l2, l3, _, _⟩⟩ := hSw; go_simp <;> with_reducible rfl) (by assumption) ?_
    try simp only [Act.put, List.setIfInBounds_toArray, List.set_cons_zero, List.set_cons_succ]
    refine takeW (i := 2) (by simp only [List.getElem?_toArray, List.getElem?_cons_succ, List.getElem?_cons_zero]; exact rfl) (by kernel_rfl) (by kernel_rfl) (by kernel_rfl) (by exact fun _ _ _ h => h) (by rfl) (by intro wq hSw; obtain ⟨⟨y0, y1, _, _⟩, ⟨l0, l1, l2, l3, _, _⟩⟩ := hSw; go_simp <;> with_reducible rfl) (by assumption) ?_
    try simp only [Act.put, List.setIfInBounds_toArray, List.set_cons_zero, List.set_cons_succ]
    refine wpAnyH_ready (rs := [1]) (by kernel_rfl) (by simp) (AllReadyH.cons (by simp only [List.getElem?_toArray, List.getElem?_cons_succ, List.getElem?_cons_zero]; exact rfl) (fun K hK => ?_) AllReadyH.nil)
    go_simp
    refine (implSyncX b0 ad (some ⟨g7, 0, none⟩) c c7 bs zs _ (HD.out.below B).row.seesB QV OZ (by omega) UZ (HE.out.below B wp)).mono ?_
    rintro e xx1 ⟨ad9, c9, b9, d9, vs9, bs9, qs9, rfl, SY, D9, SV9, hb⟩
    have HY : Hid (SyRes bs zs bs9 qs9) := SY
    replace D9 := D9.base (lo' := w.heap.size + 4) s0
    replace VQ := VQ.below hb
    replace VM := VM.below hb
    replace VD := VD.below hb
    replace VL := VL.below hb
    replace B := B.trans (hb.mono B.size)
    replace N := And.intro VQ VM
    refine hK.out _ _ N (fun hHeld => ?_)
    clear hK K hHeld
    try simp only [Act.put, List.setIfInBounds_toArray, List.set_cons_zero, List.set_cons_succ]
    clear hb SY QV
    refine wpAnyH_ready (rs := [3]) (by kernel_rfl) (by simp) (AllReadyH.cons (by simp only [List.getElem?_toArray, List.getElem?_cons_succ, List.getElem?_cons_zero]; exact rfl) (fun K hK => ?_) AllReadyH.nil)
    obtain ⟨q0, q1, qf, _⟩ := id VD
    go_simp
    have gq : xx1.grownBy ((xx1.setCell ⟨w.heap.size + 2, 0, none⟩ (.slice (some ad9) bs.length c9)).setCell ⟨w.heap.size + 2, 1, none⟩ (.slice b9 qs9.length d9)) (some (w.heap.size + 2)) := grownBy_setCell (p := ⟨w.heap.size + 2, 1, none⟩) (grownBy_setCell (p := ⟨w.heap.size + 2, 0, none⟩) (grownBy_refl _ _) rfl _) rfl _
    replace B := Box2.chain B VD (.slice (some ad9) bs.length c9) (.slice b9 qs9.length d9)
    replace VD := VD.put (.slice (some ad9) bs.length c9) (.slice b9 qs9.length d9)
    replace VQ := VQ.grownO gq (by intro e; injection e with e; omega)
    replace VM := VM.grownW gq (by intro e; injection e with e; omega)
    replace VL := VL.grownW gq (by intro e; injection e with e; omega)
    replace D9 := D9.kept gq (fun k hk e => by have := (D9.lts.1 k hk).1; injection e with e; omega) (fun k hk e => by have := (D9.lts.2.1 k hk).1; injection e with e; omega) (fun y hy k hk e => by have := (D9.lts.2.2 y hy k hk).1; injection e with e; omega)
    replace N := And.intro VQ VM
    refine hK.out _ _ N (fun hHeld => ?_)
    clear hK K hHeld
    try simp only [Act.put, List.setIfInBounds_toArray, List.set_cons_zero, List.set_cons_succ]
    clear q0 q1 qf gq
    generalize (xx1.setCell ⟨w.heap.size + 2, 0, none⟩ (.slice (some ad9) bs.length c9)).setCell ⟨w.heap.size + 2, 1, none⟩ (.slice b9 qs9.length d9) = xx2 at *
    refine wpAnyH_ready (rs := [4]) (by kernel_rfl) (by simp) (AllReadyH.cons (by simp only [List.getElem?_toArray, List.getElem?_cons_succ, List.getElem?_cons_zero]; exact rfl) (fun K hK => ?_) AllReadyH.nil)
    obtain ⟨q0, q1, q2, q3, qf, _⟩ := id VL
    go_simp
    have gq := grownBy_setCell (grownBy_setCell (grownBy_setCell (grownBy_setCell (grownBy_refl xx2 (some (w.heap.size + 3))) (p := ⟨w.heap.size + 3, 0, none⟩) rfl (.int .i64 F)) (p := ⟨w.heap.size + 3, 1, none⟩) rfl (.int .i64 L)) (p := ⟨w.heap.size + 3, 2, none⟩) rfl (.int .i64 (X + (lgMany rs.length : Int)))) (p := ⟨w.heap.size + 3, 3, none⟩) rfl (.int .i64 E)
    replace B := Box4.chain B VL (.int .i64 F) (.int .i64 L) (.int .i64 (X + (lgMany rs.length : Int))) (.int .i64 E)
    replace VL := VL.put (.int .i64 F) (.int .i64 L) (.int .i64 (X + (lgMany rs.length : Int))) (.int .i64 E)
    replace VQ := VQ.grownO gq (by intro e; injection e with e; omega)
    replace VM := VM.grownW gq (by intro e; injection e with e; omega)
    replace VD := VD.grownO gq (by intro e; injection e with e; omega)
    replace D9 := D9.kept gq (fun k hk e => by have := (D9.lts.1 k hk).1; injection e with e; omega) (fun k hk e => by have := (D9.lts.2.1 k hk).1; injection e with e; omega) (fun y hy k hk e => by have := (D9.lts.2.2 y hy k hk).1; injection e with e; omega)
    replace N := And.intro VQ VM
    refine hK.out _ _ N (fun hHeld => ?_)
    clear hK K hHeld
    try simp only [Act.put, List.setIfInBounds_toArray, List.set_cons_zero, List.set_cons_succ]
    clear q0 q1 q2 q3 qf gq
    generalize ((((xx2.setCell ⟨w.heap.size + 3, 0, none⟩ (.int .i64 F)).setCell ⟨w.heap.size + 3, 1, none⟩ (.int .i64 L)).setCell ⟨w.heap.size + 3, 2, none⟩ (.int .i64 (X + (lgMany rs.length : Int)))).setCell ⟨w.heap.size + 3, 3, none⟩ (.int .i64 E)) = xx3 at *
    refine takeW (i := 5) (by simp only [List.getElem?_toArray, List.getElem?_cons_succ, List.getElem?_cons_zero]; exact rfl) (by kernel_rfl) (by kernel_rfl) (by kernel_rfl) (by exact fun _ _ _ h => h) (by rfl) (by intro wq hSw; go_simp <;> with_reducible rfl) (by assumption) ?_
    try simp only [Act.put, List.setIfInBounds_toArray, List.set_cons_zero, List.set_cons_succ]
    refine wpAnyH_done (by kernel_rfl) ?_ _
    clear N
    have r0 := VD.c0
    have r1 := VD.c1
    obtain ⟨s0, s1, s2, s3, _, _⟩ := id VL
    have DS := D9.base (lo' := w.heap.size) (by omega)
    have YR : Hid (LaRes bs qs F L X E rs bs9 qs9 (X + (lgMany rs.length : Int)) true) := .inl ⟨LO.out, by rw [← HZ.out]; exact HY.out, rfl, rfl⟩
    clear VM VQ VL VD D9
    go_wp2
    exact bodyPost_ret (v := .tuple #[.agg #[(.slice (some ad9) bs.length c9), (.slice b9 qs9.length d9)], .agg #[.int .i64 F, .int .i64 L, .int .i64 (X + (lgMany rs.length : Int)), .int .i64 E], .bool true]) (by simp [results, Tryz.results9, go_sem, r0, r1, s0, s1, s2, s3]) rfl ⟨⟨_, _, _, _, vs9, bs9, qs9, _, true, rfl, YR.out, DS, SV9⟩, B⟩
  · have NO : Hid (LaRes bs qs F L X E rs bs qs X false) := .inr ⟨no', rfl, rfl, rfl, rfl⟩
    clear no'
    have bq := below1 w1 (.cells #[(.slice none 0 0), (.slice none 0 0)] 31)
    have VQ := Box2.new w1 (lo := w.heap.size) zz1 (.slice none 0 0) (.slice none 0 0) 31
    have bm := below1 (w1.alloc (.cells #[(.slice none 0 0), (.slice none 0 0)] 31)) (.cells #[(.int .i64 0), (.int .i64 0), (.int .i64 0), (.int .i64 0)] 32)
    have VM := Box4.new (w1.alloc (.cells #[(.slice none 0 0), (.slice none 0 0)] 31)) (lo := w.heap.size) (Nat.le_trans zz1 bq.size) (.int .i64 0) (.int .i64 0) (.int .i64 0) (.int .i64 0) 32
    rw [World.size_alloc] at VM
    replace VQ := VQ.below bm
    have BF := bq.trans (bm.mono bq.size)
    clear bq bm
    go_upto_region 2 with fail
    generalize (w1.alloc (.cells #[(.slice none 0 0), (.slice none 0 0)] 31)).alloc (.cells #[(.int .i64 0), (.int .i64 0), (.int .i64 0), (.int .i64 0)] 32) = W9 at *
    replace V1 := V1.below BF
    replace V4 := V4.below BF
    replace VD := VD.below BF
    replace VL := VL.below BF
    replace B := B.trans (BF.mono B.size)
    clear VQ VM BF
    go_upto_region 3 with fail
    have bd := ((Below.refl W9.heap.size W9).drew : Below W9.heap.size W9 _)
    replace V1 := V1.below bd
    replace V4 := V4.below bd
    replace VD := VD.below bd
    replace VL := VL.below bd
    replace B := B.trans (bd.mono B.size)
    clear bd
    have N : Box2 w.heap.size W9.drew w.heap.size (.slice (some ad) bs.length c) (.slice a2 qs.length c2) ∧ Box4 w.heap.size W9.drew (w.heap.size + 1) (.int .i64 F) (.int .i64 L) (.int .i64 X) (.int .i64 E) := And.intro V1 V4
    refine wp_region_held_drew (S := fun W => Box2 w.heap.size W w.heap.size (.slice (some ad) bs.length c) (.slice a2 qs.length c2) ∧ Box4 w.heap.size W (w.heap.size + 1) (.int .i64 F) (.int .i64 L) (.int .i64 X) (.int .i64 E)) (by kernel_rfl) N (fun hHeld => ?_)
    clear hHeld
    generalize W9.drew = xx0 at *
    have s0 : w.heap.size + 4 ≤ xx0.heap.size := by have := VL.lt; omega
    refine takeW (i := 0) (by simp only [List.getElem?_toArray, List.getElem?_cons_zero]; exact rfl) (by kernel_rfl) (by kernel_rfl) (by kernel_rfl) (by exact fun _ _ _ h => h) (by rfl) (by intro wq hSw; obtain ⟨⟨y0, y1, _, _⟩, ⟨l0, l1, l2, l3, _, _⟩⟩ := hSw; go_simp <;> with_reducible rfl) (by assumption) ?_
    try simp only [Act.put, List.setIfInBounds_toArray, List.set_cons_zero, List.set_cons_succ]
    refine takeW (i := 2) (by simp only [List.getElem?_toArray, List.getElem?_cons_succ, List.getElem?_cons_zero]; exact rfl) (by kernel_rfl) (by kernel_rfl) (by kernel_rfl) (by exact fun _ _ _ h => h) (by rfl) (by intro wq hSw; obtain ⟨⟨y0, y1, _, _⟩, ⟨l0, l1, l2, l3, _, _⟩⟩ := hSw; go_simp <;> with_reducible rfl) (by assumption) ?_
    try simp only [Act.put, List.setIfInBounds_toArray, List.set_cons_zero, List.set_cons_succ]
    refine wpAnyH_ready (rs := [1]) (by kernel_rfl) (by simp) (AllReadyH.cons (by simp only [List.getElem?_toArray, List.getElem?_cons_succ, List.getElem?_cons_zero]; exact rfl) (fun K hK => ?_) AllReadyH.nil)
    go_simp
    refine (dcopied_any ad a2 c c2 vs0 bs qs _ (HD.out.below B) HM.out (by omega) (by have := HS.out; omega)).mono ?_
    rintro e xx1 ⟨ad9, c9, b9, d9, vs9, rfl, D9, SV9, hb⟩
    replace D9 := D9.base (lo' := w.heap.size + 4) s0
    replace V1 := V1.below hb
    replace V4 := V4.below hb
    replace VD := VD.below hb
    replace VL := VL.below hb
    replace B := B.trans (hb.mono B.size)
    replace N := And.intro V1 V4
    refine hK.out _ _ N (fun hHeld => ?_)
    clear hK K hHeld
    try simp only [Act.put, List.setIfInBounds_toArray, List.set_cons_zero, List.set_cons_succ]
    clear hb
    refine wpAnyH_ready (rs := [3]) (by kernel_rfl) (by simp) (AllReadyH.cons (by simp only [List.getElem?_toArray, List.getElem?_cons_succ, List.getElem?_cons_zero]; exact rfl) (fun K hK => ?_) AllReadyH.nil)
    obtain ⟨q0, q1, qf, _⟩ := id VD
    go_simp
    have gq : xx1.grownBy ((xx1.setCell ⟨w.heap.size + 2, 0, none⟩ (.slice (some ad9) bs.length c9)).setCell ⟨w.heap.size + 2, 1, none⟩ (.slice b9 qs.length d9)) (some (w.heap.size + 2)) := grownBy_setCell (p := ⟨w.heap.size + 2, 1, none⟩) (grownBy_setCell (p := ⟨w.heap.size + 2, 0, none⟩) (grownBy_refl _ _) rfl _) rfl _
    replace B := Box2.chain B VD (.slice (some ad9) bs.length c9) (.slice b9 qs.length d9)
    replace VD := VD.put (.slice (some ad9) bs.length c9) (.slice b9 qs.length d9)
    replace V1 := V1.grownO gq (by intro e; injection e with e; omega)
    replace V4 := V4.grownW gq (by intro e; injection e with e; omega)
    replace VL := VL.grownW gq (by intro e; injection e with e; omega)
    replace D9 := D9.kept gq (fun k hk e => by have := (D9.lts.1 k hk).1; injection e with e; omega) (fun k hk e => by have := (D9.lts.2.1 k hk).1; injection e with e; omega) (fun y hy k hk e => by have := (D9.lts.2.2 y hy k hk).1; injection e with e; omega)
    replace N := And.intro V1 V4
    refine hK.out _ _ N (fun hHeld => ?_)
    clear hK K hHeld
    try simp only [Act.put, List.setIfInBounds_toArray, List.set_cons_zero, List.set_cons_succ]
    clear q0 q1 qf gq
    generalize (xx1.setCell ⟨w.heap.size + 2, 0, none⟩ (.slice (some ad9) bs.length c9)).setCell ⟨w.heap.size + 2, 1, none⟩ (.slice b9 qs.length d9) = xx2 at *
    refine wpAnyH_ready (rs := [4]) (by kernel_rfl) (by simp) (AllReadyH.cons (by simp only [List.getElem?_toArray, List.getElem?_cons_succ, List.getElem?_cons_zero]; exact rfl) (fun K hK => ?_) AllReadyH.nil)
    obtain ⟨q0, q1, q2, q3, qf, _⟩ := id VL
    go_simp
    have gq := grownBy_setCell (grownBy_setCell (grownBy_setCell (grownBy_setCell (grownBy_refl xx2 (some (w.heap.size + 3))) (p := ⟨w.heap.size + 3, 0, none⟩) rfl (.int .i64 F)) (p := ⟨w.heap.size + 3, 1, none⟩) rfl (.int .i64 L)) (p := ⟨w.heap.size + 3, 2, none⟩) rfl (.int .i64 X)) (p := ⟨w.heap.size + 3, 3, none⟩) rfl (.int .i64 E)
    replace B := Box4.chain B VL (.int .i64 F) (.int .i64 L) (.int .i64 X) (.int .i64 E)
    replace VL := VL.put (.int .i64 F) (.int .i64 L) (.int .i64 X) (.int .i64 E)
    replace V1 := V1.grownO gq (by intro e; injection e with e; omega)
    replace V4 := V4.grownW gq (by intro e; injection e with e; omega)
    replace VD := VD.grownO gq (by intro e; injection e with e; omega)
    replace D9 := D9.kept gq (fun k hk e => by have := (D9.lts.1 k hk).1; injection e with e; omega) (fun k hk e => by have := (D9.lts.2.1 k hk).1; injection e with e; omega) (fun y hy k hk e => by have := (D9.lts.2.2 y hy k hk).1; injection e with e; omega)
    replace N := And.intro V1 V4
    refine hK.out _ _ N (fun hHeld => ?_)
    clear hK K hHeld
    try simp only [Act.put, List.setIfInBounds_toArray, List.set_cons_zero, List.set_cons_succ]
    clear q0 q1 q2 q3 qf gq
    generalize ((((xx2.setCell ⟨w.heap.size + 3, 0, none⟩ (.int .i64 F)).setCell ⟨w.heap.size + 3, 1, none⟩ (.int .i64 L)).setCell ⟨w.heap.size + 3, 2, none⟩ (.int .i64 X)).setCell ⟨w.heap.size + 3, 3, none⟩ (.int .i64 E)) = xx3 at *
    refine takeW (i := 5) (by simp only [List.getElem?_toArray, List.getElem?_cons_succ, List.getElem?_cons_zero]; exact rfl) (by kernel_rfl) (by kernel_rfl) (by kernel_rfl) (by exact fun _ _ _ h => h) (by rfl) (by intro wq hSw; go_simp <;> with_reducible rfl) (by assumption) ?_
    try simp only [Act.put, List.setIfInBounds_toArray, List.set_cons_zero, List.set_cons_succ]
    refine wpAnyH_done (by kernel_rfl) ?_ _
    clear N
    have r0 := VD.c0
    have r1 := VD.c1
    obtain ⟨s0, s1, s2, s3, _, _⟩ := id VL
    have DS := D9.base (lo' := w.heap.size) (by omega)
    clear V4 V1 VL VD D9
    go_wp2
    exact bodyPost_ret (v := .tuple #[.agg #[(.slice (some ad9) bs.length c9), (.slice b9 qs.length d9)], .agg #[.int .i64 F, .int .i64 L, .int .i64 X, .int .i64 E], .bool false]) (by simp [results, Tryz.results9, go_sem, r0, r1, s0, s1, s2, s3]) rfl ⟨⟨_, _, _, _, vs9, bs, qs, X, false, rfl, NO.out, DS, SV9⟩, B⟩
end Go.Proofs.YtonbmeepfgejmaaGreatDoor
