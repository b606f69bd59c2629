/- A disk that is drawn. -/
import Derived.Test.YtfdfcgjdigpofaaDoorDrByt
import Derived.Test.YtfdfcgjdigpofaaDoorDkW
import Derived.Test.YtfdfcgjdigpofaaDoorDkK
import Derived.Test.YtfdfcgjdigpofaaDoorDrawR
namespace Go.Proofs.YtfdfcgjdigpofaaDoor
open Go.RowKit

/-- A disk that was drawn: its bytes lie somewhere; where it is good they are of the call's own. -/
structure DkD (lo : Nat) (w : World) (ab : Option Addr) (cb : Nat) (a2 : Option Addr) (c2 : Nat) (vs : List Value) (bs : List Int) (qs : List Wr) : Prop where
  sees : SeesB w ab cb bs
  que : QuR lo w (.slice a2 qs.length c2) vs qs
  smv : SomeV vs
  len : bs.length ≤ 384
  qlen : qs.length ≤ 6
  up : uptoQ qs qs.length ≤ 400
  good : DkOk bs qs → ∃ ad, ab = some ad ∧ DkR lo w (.slice ab bs.length cb) (.slice a2 qs.length c2) vs bs qs
  lob : ∀ b off, ab = some ⟨b, off, none⟩ → lo ≤ b
theorem DkR.drawn {lo : Nat} {w : World} {ad : Addr} {cb : Nat} {a2 : Option Addr} {c2 : Nat} {vs : List Value} {bs : List Int} {qs : List Wr} (h : DkR lo w (.slice (some ad) bs.length cb) (.slice a2 qs.length c2) vs bs qs) (hs : SomeV vs) (h1 : bs.length ≤ 384) (h2 : qs.length ≤ 6) (h3 : uptoQ qs qs.length ≤ 400) : DkD lo w (some ad) cb a2 c2 vs bs qs :=
  ⟨h.row.seesB, h.que, hs, h1, h2, h3, (fun _ => ⟨ad, rfl, h⟩), fun b off e => by injection e with e; subst e; exact (h.lts.1 b rfl).1⟩
/-- Nothing but new blocks and one old one was written. -/
theorem DkR.curs {lo p : Nat} {w w' : World} {bv qv : Value} {vs : List Value} {bs : List Int} {qs : List Wr} (h : DkR lo w bv qv vs bs qs) (g : w.grownBy w' (some p)) (hp : p < lo) : DkR lo w' bv qv vs bs qs :=
  h.kept g (fun k hk e => by have := (h.lts.1 k hk).1; injection e with e; omega) (fun k hk e => by have := (h.lts.2.1 k hk).1; injection e with e; omega) (fun u hu k hk e => by have := (h.lts.2.2 u hu k hk).1; injection e with e; omega)
theorem SeesB.kept {w w' : World} {a : Option Addr} {c q : Nat} {bs : List Int} (h : SeesB w a c bs) (g : w.grownBy w' (some q)) (ne : ∀ b off, a = some ⟨b, off, none⟩ → b ≠ q) : SeesB w' a c bs :=
  ⟨h.fits, h.max, fun hn => by
    obtain ⟨b, off, ha, hc⟩ := h.cells hn
    exact ⟨b, off, ha, fun i hi => cell_drawnD g (hc i hi) (ne b off ha)⟩⟩
theorem DkD.kept {lo q : Nat} {w w' : World} {ab : Option Addr} {cb : Nat} {a2 : Option Addr} {c2 : Nat} {vs : List Value} {bs : List Int} {qs : List Wr} (h : DkD lo w ab cb a2 c2 vs bs qs) (g : w.grownBy w' (some q)) (hq : q < lo) : DkD lo w' ab cb a2 c2 vs bs qs :=
  ⟨h.sees.kept g (fun b off e => by have := h.lob b off e; omega), h.que.kept g (fun k hk e => by have := (h.que.lts.1 k hk).1; injection e with e; omega) (fun u hu k hk e => by have := (h.que.lts.2 u hu k hk).1; injection e with e; omega), h.smv, h.len, h.qlen, h.up, (fun ok => by
    obtain ⟨ad, e, D⟩ := h.good ok
    exact ⟨ad, e, D.curs g hq⟩), h.lob⟩
theorem DkD.base {lo lo' : Nat} {w : World} {ab : Option Addr} {cb : Nat} {a2 : Option Addr} {c2 : Nat} {vs : List Value} {bs : List Int} {qs : List Wr} (h : DkD lo w ab cb a2 c2 vs bs qs) (hl : lo' ≤ lo) : DkD lo' w ab cb a2 c2 vs bs qs :=
  ⟨h.sees, h.que.base hl, h.smv, h.len, h.qlen, h.up, (fun ok => by
    obtain ⟨ad, e, D⟩ := h.good ok
    exact ⟨ad, e, D.base hl⟩), fun b off e => Nat.le_trans hl (h.lob b off e)⟩
theorem DkD.below {lo : Nat} {w w' : World} {ab : Option Addr} {cb : Nat} {a2 : Option Addr} {c2 : Nat} {vs : List Value} {bs : List Int} {qs : List Wr} (h : DkD lo w ab cb a2 c2 vs bs qs) (hb : Below w.heap.size w w') : DkD lo w' ab cb a2 c2 vs bs qs :=
  ⟨h.sees.below hb, h.que.below hb, h.smv, h.len, h.qlen, h.up, (fun ok => by
    obtain ⟨ad, e, D⟩ := h.good ok
    exact ⟨ad, e, D.below hb⟩), h.lob⟩
theorem grown_below {w w1 w2 : World} {p n : Nat} (g : w.grownBy w1 (some p)) (hb : Below n w1 w2) (hn : w.heap.size ≤ n) : w.grownBy w2 (some p) :=
  ⟨hb.os.trans g.os, hb.tape.trans g.tape, hb.output.trans g.output, Nat.le_trans g.size hb.size, fun i hi hr => (hb.block i (by omega)).trans (g.block i hi hr)⟩
theorem many_pos {L m : Nat} (h : L = m * 64) : L / 64 = m := by omega
theorem dkN_lenOf {m : Nat} (h1 : 1 ≤ m) (h2 : m ≤ 400) : (dkN (m : Int)).length = m * 64 := by rw [dkN_some ⟨by omega, by omega⟩]; simp

set_option maxRecDepth 20000 in
set_option maxHeartbeats 4000000 in
theorem l11Draw_any (p : Nat) (a : Option Addr) (n cap : Nat) (w : World) (h : Cur w p a n cap) :
    Calls Tryd.prog 13 #[.pointer (some ⟨p, 0, none⟩)] w fun e w' => ∃ ab cb a2 c2 vs bs qs, e = .returned (.agg #[.slice ab bs.length cb, .slice a2 qs.length c2]) ∧ DkD w.heap.size w' ab cb a2 c2 vs bs qs ∧ Cur w' p a n cap ∧ w.grownBy w' (some p) := by
  obtain ⟨iW, hiW, hW0, hW1, hW2⟩ := info_parts infoW
  have hpl := h.lt
  have HLO : Hid (∀ b off, a = some ⟨b, off, none⟩ → 0 < n → b < w.heap.size) := h.lows
  have V0 := Box2.new w (lo := w.heap.size) (Nat.le_refl _) (.slice none 0 0) (.slice none 0 0) 26
  have bn := below1 w (.cells #[.slice none 0 0, .slice none 0 0] 26)
  have C := h.below bn
  have G : w.grownBy (w.alloc (.cells #[.slice none 0 0, .slice none 0 0] 26)) (some p) := ⟨bn.os, bn.tape, bn.output, bn.size, fun i hi _ => bn.block i hi⟩
  have z1 : (w.alloc (.cells #[.slice none 0 0, .slice none 0 0] 26)).heap.size = w.heap.size + 1 := by simp
  clear h bn
  go_enter Tryd.func13, Tryd.ntmps13
  go_upto_region 1 with fail
  generalize w.alloc (.cells #[.slice none 0 0, .slice none 0 0] 26) = W0 at *
  go_wp2_with fail
  refine (l1Below_any p a n cap 6 _ C).mono ?_
  rintro e w1 ⟨x, rfl, x0, x1, C1, g1⟩
  have x2 := x1 (by omega)
  replace V0 := V0.grown g1 (by omega)
  replace G := grownBy_trans G g1
  have z2 : w.heap.size + 1 ≤ w1.heap.size := by rw [← z1]; exact g1.size
  clear C g1 x1 z1
  obtain ⟨m, hm⟩ : ∃ m : Nat, 1 + x = (m : Int) := ⟨(1 + x).toNat, by omega⟩
  have hm1 : 1 ≤ m ∧ m ≤ 6 := by omega
  obtain ⟨hm1, hm6⟩ := hm1
  have hwm : wrap64 (1 + x) = (m : Int) := by unfold wrap64; omega
  clear x0 x2
  go_wp2_with fail
  refine (specDiskNew (m : Int) _).mono ?_
  rintro e w2 ⟨a3, c3, rfl, D, hb⟩
  have DL : Hid ((dkN (m : Int)).length = m * 64) := dkN_lenOf hm1 (by omega)
  generalize dkN (m : Int) = bs0 at *
  obtain ⟨g3, rfl, _, _⟩ := D.row.at2 (j := 0) (by rw [DL.out]; omega)
  replace D := D.base z2
  have C2 := C1.below hb
  replace V0 := V0.below hb
  replace G := grown_below G hb (by omega)
  have z3 : w.heap.size + 1 ≤ w2.heap.size := Nat.le_trans z2 hb.size
  clear C1 hb hm hwm
  have V3 := Box2.new w2 (lo := w.heap.size) (by omega) (.slice (some ⟨g3, 0, none⟩) bs0.length c3) (.slice none 0 0) 26
  have bn := below1 w2 (.cells #[.slice (some ⟨g3, 0, none⟩) bs0.length c3, .slice none 0 0] 26)
  have N3 : Hid (∀ u ∈ ((Value.slice (some ⟨g3, 0, none⟩) bs0.length c3) :: (Value.slice none 0 0) :: []), u.ownBlock ≠ some w2.heap.size) := D.nots (.inl (Nat.le_refl _))
  replace D := D.below bn
  replace C2 := C2.below bn
  replace V0 := V0.below bn
  replace G := grown_below G bn (by omega)
  clear bn
  go_upto_region 2 with fail
  generalize hp3 : w2.heap.size = p3 at *
  generalize w2.alloc (.cells #[.slice (some ⟨g3, 0, none⟩) bs0.length c3, .slice none 0 0] 26) = W2 at *
  go_wp2_with fail
  refine (l1Below_any p a n cap 6 _ C2).mono ?_
  rintro e w4 ⟨y, rfl, y0, y1, C4, g4⟩
  have y2 := y1 (by omega)
  replace V0 := V0.grown g4 (by omega)
  replace V3 := V3.grown g4 (by omega)
  replace D := D.curs g4 (by omega)
  replace G := grownBy_trans G g4
  clear C2 g4 y1
  obtain ⟨j0, hj0⟩ : ∃ j : Nat, y = (j : Int) := ⟨y.toNat, by omega⟩
  subst hj0
  have j05 : j0 ≤ 5 := by omega
  clear y0 y2
  have HD0 : Hid (DkR (w.heap.size + 1) w4 (.slice (some ⟨g3, 0, none⟩) bs0.length c3) (.slice none ([] : List Wr).length 0) [] bs0 []) := D
  clear D
  go_wp2
  go_loopw [4] (fun s4 wr => ∃ (j : Nat) (ad : Addr) (c : Nat) (a2 : Option Addr) (c2 : Nat) (vs : List Value) (bs : List Int) (qs : List Wr), s4 = .int .i64 j ∧ j ≤ 5 ∧ Hid (bs.length = m * 64) ∧ Hid (qs.length + j ≤ 5) ∧ Hid (uptoQ qs qs.length ≤ 65 * qs.length) ∧ Hid (DkR (w.heap.size + 1) wr (.slice (some ad) bs.length c) (.slice a2 qs.length c2) vs bs qs) ∧ Hid (SomeV vs) ∧ Hid (∀ u ∈ ((Value.slice (some ad) bs.length c) :: (Value.slice a2 qs.length c2) :: vs), u.ownBlock ≠ some p3) ∧ Box2 w.heap.size wr p3 (.slice (some ad) bs.length c) (.slice a2 qs.length c2) ∧ Box2 w.heap.size wr w.heap.size (.slice none 0 0) (.slice none 0 0) ∧ Hid (Cur wr p a n cap) ∧ Hid (w.grownBy wr (some p))) (fun s4 _ => (intOf s4).toNat)
  case atStart => exact ⟨j0, _, c3, none, 0, [], bs0, [], rfl, j05, DL, (by show _ ≤ _; simp; exact j05), (by show _ ≤ _; simp [uptoQ]), HD0, (fun u hu => by cases hu), N3, V3, V0, C4, G⟩
  case round =>
    clear HD0 V3 V0 C4 G N3
    obtain ⟨j, ad, c, a2, c2, vs, bs, qs, rfl, hj, hbl, hql, hup, HD, HSV, HN, V3, V0, HC, HG⟩ := hrel
    rename World => wr
    have hbb : bs.length ≤ 384 := by have := hbl.out; omega
    by_cases hjp : 0 < j
    · go_upto_region 5 with fail
      have bd := ((Below.refl wr.heap.size wr).drew : Below wr.heap.size wr _)
      have D := HD.out.below bd
      have C := HC.out.below bd
      have G := grown_below HG.out bd (by have := HG.out.size; omega)
      replace V3 := V3.below bd
      replace V0 := V0.below bd
      clear bd HD HC HG
      refine wp_region_held_drew (S := fun _ => True) (by kernel_rfl) trivial (fun hHeld => ?_)
      clear hHeld
      revert D C G V3 V0
      generalize wr.drew = ww0
      intro D C G V3 V0
      refine takeW (i := 1) (by simp only [List.getElem?_toArray, List.getElem?_cons_succ, List.getElem?_cons_zero]; exact rfl) (by kernel_rfl) (by kernel_rfl) (by kernel_rfl) (by exact fun _ _ _ h => h) (by rfl) (by intro wq hSw; go_simp <;> with_reducible rfl) (by exact trivial) ?_
      try simp only [Act.put, List.setIfInBounds_toArray, List.set_cons_zero, List.set_cons_succ]
      refine takeW (i := 5) (by simp only [List.getElem?_toArray, List.getElem?_cons_succ, List.getElem?_cons_zero]; exact rfl) (by kernel_rfl) (by kernel_rfl) (by kernel_rfl) (by exact fun _ _ _ h => h) (by rfl) (by intro wq hSw; go_simp <;> with_reducible rfl) (by exact trivial) ?_
      try simp only [Act.put, List.setIfInBounds_toArray, List.set_cons_zero, List.set_cons_succ]
      refine wpAnyH_ready (rs := [0, 2]) (by kernel_rfl) (by simp) (AllReadyH.cons (by simp only [List.getElem?_toArray, List.getElem?_cons_zero]; exact rfl) (fun K hK => ?_) (AllReadyH.cons (by simp only [List.getElem?_toArray, List.getElem?_cons_succ, List.getElem?_cons_zero]; exact rfl) (fun K hK => ?_) AllReadyH.nil))
      · have y0 := V3.c0
        have y1 := V3.c1
        go_simp
        refine hK.out _ _ trivial (fun hHeld => ?_)
        clear hK K hHeld y0 y1
        try simp only [Act.put, List.setIfInBounds_toArray, List.set_cons_zero, List.set_cons_succ]
        refine wpAnyH_ready (rs := [2]) (by kernel_rfl) (by simp) (AllReadyH.cons (by simp only [List.getElem?_toArray, List.getElem?_cons_succ, List.getElem?_cons_zero]; exact rfl) (fun K hK => ?_) AllReadyH.nil)
        have y0 := V3.c0
        have y1 := V3.c1
        go_simp
        refine hK.out _ _ trivial (fun hHeld => ?_)
        clear hK K hHeld y0 y1
        try simp only [Act.put, List.setIfInBounds_toArray, List.set_cons_zero, List.set_cons_succ]
        refine wpAnyH_ready (rs := [3]) (by kernel_rfl) (by simp) (AllReadyH.cons (by simp only [List.getElem?_toArray, List.getElem?_cons_succ, List.getElem?_cons_zero]; exact rfl) (fun K hK => ?_) AllReadyH.nil)
        go_simp
        refine (l11Many_any (some ad) a2 c bs.length c2 qs.length m _ (many_pos hbl.out) (by omega)).mono ?_
        rintro e ww1 ⟨rfl, hb⟩
        replace V3 := V3.below hb
        replace V0 := V0.below hb
        replace D := D.below hb
        replace C := C.below hb
        replace G := grown_below G hb G.size
        refine hK.out _ _ trivial (fun hHeld => ?_)
        clear hK K hHeld hb
        try simp only [Act.put, List.setIfInBounds_toArray, List.set_cons_zero, List.set_cons_succ]
        refine wpAnyH_ready (rs := [4]) (by kernel_rfl) (by simp) (AllReadyH.cons (by simp only [List.getElem?_toArray, List.getElem?_cons_succ, List.getElem?_cons_zero]; exact rfl) (fun K hK => ?_) AllReadyH.nil)
        go_simp
        refine (l1Below_any p a n cap (m : Int) _ C).mono ?_
        rintro e ww2 ⟨x, rfl, x0, x1, C5, g5⟩
        have x2 := x1 (by omega)
        replace V3 := V3.grown g5 (by omega)
        replace V0 := V0.grown g5 (by omega)
        replace D := D.curs g5 (by omega)
        replace G := grownBy_trans G g5
        have C6 := C5
        refine hK.out _ _ trivial (fun hHeld => ?_)
        clear hK K hHeld C g5 x1 C5
        try simp only [Act.put, List.setIfInBounds_toArray, List.set_cons_zero, List.set_cons_succ]
        refine wpAnyH_ready (rs := [6]) (by kernel_rfl) (by simp) (AllReadyH.cons (by simp only [List.getElem?_toArray, List.getElem?_cons_succ, List.getElem?_cons_zero]; exact rfl) (fun K hK => ?_) AllReadyH.nil)
        go_simp
        refine (l1Bytes_any p a n cap 64 _ C6 (by omega)).mono ?_
        rintro e ww3 ⟨g8, c8, ds, rfl, hds, h8, R8, C8, g6⟩
        have g8l := (World.ownsRow.lt R8 g8 rfl).1
        replace V3 := V3.grown g6 (by omega)
        replace V0 := V0.grown g6 (by omega)
        replace D := D.curs g6 (by omega)
        replace G := grownBy_trans G g6
        refine hK.out _ _ trivial (fun hHeld => ?_)
        clear hK K hHeld C6 g6 h8
        try simp only [Act.put, List.setIfInBounds_toArray, List.set_cons_zero, List.set_cons_succ]
        refine wpAnyH_ready (rs := [7]) (by kernel_rfl) (by simp) (AllReadyH.cons (by simp only [List.getElem?_toArray, List.getElem?_cons_succ, List.getElem?_cons_zero]; exact rfl) (fun K hK => ?_) AllReadyH.nil)
        go_simp
        have R9 : RowB ww2.heap.size ww3 (.slice (some ⟨g8, 0, none⟩) ds.length c8) ds := by rw [hds]; exact R8
        have WS := specWriteSector ad a2 c c2 vs bs qs x ⟨g8, 0, none⟩ c8 ds ww3 D HSV.out R9 (by omega) (by have := hup.out; have := hql.out; omega) (by omega)
        rw [hds] at WS
        refine WS.mono ?_
        rintro e ww4 ⟨ad9, c9, b9, d9, vs9, qs9, r9, rfl, SR, D9, SV9, hb⟩
        have z9 : w.heap.size + 1 ≤ ww3.heap.size := by have := V3.lt; have := V3.lo; have := V0.lt; omega
        have p3l : p3 < ww3.heap.size := V3.lt
        have N9 : Hid (∀ u ∈ ((Value.slice (some ad9) bs.length c9) :: (Value.slice b9 qs9.length d9) :: vs9), u.ownBlock ≠ some p3) := D9.nots (.inr p3l)
        have QL : Hid (qs9.length + (j - 1) ≤ 5 ∧ uptoQ qs9 qs9.length ≤ 65 * qs9.length) := by
          show _ ∧ _
          have := hql.out
          have := hup.out
          rcases SR with ⟨o, q, _⟩ | ⟨_, q, _⟩
          · rw [q, uptoQ_snoc, o.2.2.2, List.length_append, List.length_singleton]; omega
          · rw [q]; omega
        replace D9 := D9.base z9
        replace V3 := V3.below hb
        replace V0 := V0.below hb
        have C9 := C8.below hb
        replace G := grown_below G hb G.size
        have HV9 : Hid (SomeV vs9) := SV9
        refine hK.out _ _ trivial (fun hHeld => ?_)
        clear hK K hHeld D WS R9 R8 C8 hb SR SV9 g8l
        try simp only [Act.put, List.setIfInBounds_toArray, List.set_cons_zero, List.set_cons_succ]
        refine takeW (i := 8) (by simp only [List.getElem?_toArray, List.getElem?_cons_succ, List.getElem?_cons_zero]; exact rfl) (by kernel_rfl) (by kernel_rfl) (by kernel_rfl) (by exact fun _ _ _ h => h) (by rfl) (by intro wq hSw; go_simp <;> with_reducible rfl) (by exact trivial) ?_
        try simp only [Act.put, List.setIfInBounds_toArray, List.set_cons_zero, List.set_cons_succ]
        refine takeW (i := 9) (by simp only [List.getElem?_toArray, List.getElem?_cons_succ, List.getElem?_cons_zero]; exact rfl) (by kernel_rfl) (by kernel_rfl) (by kernel_rfl) (by exact fun _ _ _ h => h) (by rfl) (by intro wq hSw; go_simp <;> with_reducible rfl) (by exact trivial) ?_
        try simp only [Act.put, List.setIfInBounds_toArray, List.set_cons_zero, List.set_cons_succ]
        refine takeW (i := 10) (by simp only [List.getElem?_toArray, List.getElem?_cons_succ, List.getElem?_cons_zero]; exact rfl) (by kernel_rfl) (by kernel_rfl) (by kernel_rfl) (by exact fun _ _ _ h => h) (by rfl) (by intro wq hSw; go_simp <;> with_reducible rfl) (by exact trivial) ?_
        try simp only [Act.put, List.setIfInBounds_toArray, List.set_cons_zero, List.set_cons_succ]
        refine wpAnyH_ready (rs := [11]) (by kernel_rfl) (by simp) (AllReadyH.cons (by simp only [List.getElem?_toArray, List.getElem?_cons_succ, List.getElem?_cons_zero]; exact rfl) (fun K hK => ?_) AllReadyH.nil)
        have y0 := V3.c0
        have y1 := V3.c1
        have yf := V3.fr
        go_simp
        have gq : ww4.grownBy ((ww4.setCell ⟨p3, 0, none⟩ (.slice (some ad9) bs.length c9)).setCell ⟨p3, 1, none⟩ (.slice b9 qs9.length d9)) (some p3) := grownBy_setCell (p := ⟨p3, 1, none⟩) (grownBy_setCell (p := ⟨p3, 0, none⟩) (grownBy_refl _ _) rfl _) rfl _
        have V3n := V3.put (.slice (some ad9) bs.length c9) (.slice b9 qs9.length d9)
        have V0n := V0.grown gq (by omega)
        have C10 := C9.keptR gq (fun e => by injection e with e; omega) (fun b off e hn e2 => by have := HLO.out b off e hn; injection e2 with e2; omega)
        have G10 := grown_low G gq (fun q e => by injection e with e; omega)
        have D10 := D9.kept gq (fun k hk e => N9.out _ (List.mem_cons_self ..) (hk.trans e.symm)) (fun k hk e => N9.out _ (List.mem_cons_of_mem _ (List.mem_cons_self ..)) (hk.trans e.symm)) (fun y hy k hk e => N9.out y (List.mem_cons_of_mem _ (List.mem_cons_of_mem _ hy)) (hk.trans e.symm))
        refine hK.out _ _ trivial (fun hHeld => ?_)
        clear hK K hHeld D9 V3 V0 C9 G gq y0 y1 yf
        try simp only [Act.put]
        refine wpAnyH_done (by kernel_rfl) ?_ _
        generalize (ww4.setCell ⟨p3, 0, none⟩ (.slice (some ad9) bs.length c9)).setCell ⟨p3, 1, none⟩ (.slice b9 qs9.length d9) = ww5 at *
        go_wp2_with fail
        refine (l1Once_any p a n cap 3 _ C10).mono ?_
        rintro e w8 ⟨o, rfl, C11, g11⟩
        replace V3n := V3n.grown g11 (by omega)
        replace V0n := V0n.grown g11 (by omega)
        replace D10 := D10.curs g11 (by omega)
        replace G10 := grownBy_trans G10 g11
        clear C10 g11
        cases o with
        | false =>
          have HD9 : Hid (DkR (w.heap.size + 1) w8 (.slice (some ad9) bs.length c9) (.slice b9 qs9.length d9) vs9 bs qs9) := D10
          have QL1 : Hid (qs9.length + (j - 1) ≤ 5) := QL.out.1
          have QL2 : Hid (uptoQ qs9 qs9.length ≤ 65 * qs9.length) := QL.out.2
          clear D10 QL
          go_wp2
          go_roundw
          case rel => exact ⟨j - 1, ad9, c9, b9, d9, vs9, bs, qs9, by go_num, by omega, hbl, QL1, QL2, HD9, HV9, N9, V3n, V0n, C11, G10⟩
          case measure => simp [intOf]; omega
        | true =>
          obtain ⟨y0, y1, yf, _⟩ := id V3n
          go_wp2_with fail
          refine (specSync ad9 b9 c9 d9 vs9 bs qs9 _ D10 HV9.out (by omega) (by have := QL.out; omega)).mono ?_
          rintro e w9 ⟨ad7, c7, b7, d7, vs7, bs7, qs7, rfl, SR, D7, SV7, hb⟩
          have LN := SR.len
          have z9 : w.heap.size + 1 ≤ w8.heap.size := by have := V3n.lt; have := V3n.lo; have := V0n.lt; omega
          have N7 : Hid (∀ u ∈ ((Value.slice (some ad7) bs.length c7) :: (Value.slice b7 qs7.length d7) :: vs7), u.ownBlock ≠ some p3) := D7.nots (.inr V3n.lt)
          have QL1 : Hid (qs7.length + (j - 1) ≤ 5) := by
            show _ ≤ _
            have := QL.out
            rcases SR with ⟨_, _, q⟩ | ⟨_, _, q⟩
            · rw [q]; simp; omega
            · rw [q]; omega
          have QL2 : Hid (uptoQ qs7 qs7.length ≤ 65 * qs7.length) := by
            show _ ≤ _
            have := QL.out
            rcases SR with ⟨_, _, q⟩ | ⟨_, _, q⟩
            · rw [q]; simp [uptoQ]
            · rw [q]; exact this.2
          have HV7 : Hid (SomeV vs7) := SV7
          have HBL : Hid (bs7.length = m * 64) := LN.trans hbl.out
          replace D7 := D7.base z9
          replace V3n := V3n.below hb
          replace V0n := V0n.below hb
          replace C11 := C11.below hb
          replace G10 := grown_below G10 hb G10.size
          clear hb SR SV7 D10 y0 y1 yf QL
          rw [← LN] at D7 N7 ⊢
          clear LN
          have gq : w9.grownBy ((w9.setCell ⟨p3, 0, none⟩ (.slice (some ad7) bs7.length c7)).setCell ⟨p3, 1, none⟩ (.slice b7 qs7.length d7)) (some p3) := grownBy_setCell (p := ⟨p3, 1, none⟩) (grownBy_setCell (p := ⟨p3, 0, none⟩) (grownBy_refl _ _) rfl _) rfl _
          have V3m := V3n.put (.slice (some ad7) bs7.length c7) (.slice b7 qs7.length d7)
          have V0m := V0n.grown gq (by omega)
          have C12 := C11.keptR gq (fun e => by injection e with e; omega) (fun b off e hn e2 => by have := HLO.out b off e hn; injection e2 with e2; omega)
          have G12 := grown_low G10 gq (fun q e => by injection e with e; omega)
          have HD12 : Hid (DkR (w.heap.size + 1) ((w9.setCell ⟨p3, 0, none⟩ (.slice (some ad7) bs7.length c7)).setCell ⟨p3, 1, none⟩ (.slice b7 qs7.length d7)) (.slice (some ad7) bs7.length c7) (.slice b7 qs7.length d7) vs7 bs7 qs7) := D7.kept gq (fun k hk e => N7.out _ (List.mem_cons_self ..) (hk.trans e.symm)) (fun k hk e => N7.out _ (List.mem_cons_of_mem _ (List.mem_cons_self ..)) (hk.trans e.symm)) (fun y hy k hk e => N7.out y (List.mem_cons_of_mem _ (List.mem_cons_of_mem _ hy)) (hk.trans e.symm))
          obtain ⟨y0, y1, yf, _⟩ := id V3n
          clear gq V3n V0n C11 G10 D7
          go_wp2
          go_roundw
          case rel => exact ⟨j - 1, ad7, c7, b7, d7, vs7, bs7, qs7, by go_num, by omega, HBL, QL1, QL2, HD12, HV7, N7, V3m, V0m, C12, G12⟩
          case measure => simp [intOf]; omega
      · have y0 := V3.c0
        have y1 := V3.c1
        go_simp
        refine hK.out _ _ trivial (fun hHeld => ?_)
        clear hK K hHeld y0 y1
        try simp only [Act.put, List.setIfInBounds_toArray, List.set_cons_zero, List.set_cons_succ]
        refine wpAnyH_ready (rs := [0, 3]) (by kernel_rfl) (by simp) (AllReadyH.cons (by simp only [List.getElem?_toArray, List.getElem?_cons_zero]; exact rfl) (fun K hK => ?_) (AllReadyH.cons (by simp only [List.getElem?_toArray, List.getElem?_cons_succ, List.getElem?_cons_zero]; exact rfl) (fun K hK => ?_) AllReadyH.nil))
        · have y0 := V3.c0
          have y1 := V3.c1
          go_simp
          refine hK.out _ _ trivial (fun hHeld => ?_)
          clear hK K hHeld y0 y1
          try simp only [Act.put, List.setIfInBounds_toArray, List.set_cons_zero, List.set_cons_succ]
          refine wpAnyH_ready (rs := [3]) (by kernel_rfl) (by simp) (AllReadyH.cons (by simp only [List.getElem?_toArray, List.getElem?_cons_succ, List.getElem?_cons_zero]; exact rfl) (fun K hK => ?_) AllReadyH.nil)
          go_simp
          refine (l11Many_any (some ad) a2 c bs.length c2 qs.length m _ (many_pos hbl.out) (by omega)).mono ?_
          rintro e ww1 ⟨rfl, hb⟩
          replace V3 := V3.below hb
          replace V0 := V0.below hb
          replace D := D.below hb
          replace C := C.below hb
          replace G := grown_below G hb G.size
          refine hK.out _ _ trivial (fun hHeld => ?_)
          clear hK K hHeld hb
          try simp only [Act.put, List.setIfInBounds_toArray, List.set_cons_zero, List.set_cons_succ]
          refine wpAnyH_ready (rs := [4]) (by kernel_rfl) (by simp) (AllReadyH.cons (by simp only [List.getElem?_toArray, List.getElem?_cons_succ, List.getElem?_cons_zero]; exact rfl) (fun K hK => ?_) AllReadyH.nil)
          go_simp
          refine (l1Below_any p a n cap (m : Int) _ C).mono ?_
          rintro e ww2 ⟨x, rfl, x0, x1, C5, g5⟩
          have x2 := x1 (by omega)
          replace V3 := V3.grown g5 (by omega)
          replace V0 := V0.grown g5 (by omega)
          replace D := D.curs g5 (by omega)
          replace G := grownBy_trans G g5
          have C6 := C5
          refine hK.out _ _ trivial (fun hHeld => ?_)
          clear hK K hHeld C g5 x1 C5
          try simp only [Act.put, List.setIfInBounds_toArray, List.set_cons_zero, List.set_cons_succ]
          refine wpAnyH_ready (rs := [6]) (by kernel_rfl) (by simp) (AllReadyH.cons (by simp only [List.getElem?_toArray, List.getElem?_cons_succ, List.getElem?_cons_zero]; exact rfl) (fun K hK => ?_) AllReadyH.nil)
          go_simp
          refine (l1Bytes_any p a n cap 64 _ C6 (by omega)).mono ?_
          rintro e ww3 ⟨g8, c8, ds, rfl, hds, h8, R8, C8, g6⟩
          have g8l := (World.ownsRow.lt R8 g8 rfl).1
          replace V3 := V3.grown g6 (by omega)
          replace V0 := V0.grown g6 (by omega)
          replace D := D.curs g6 (by omega)
          replace G := grownBy_trans G g6
          refine hK.out _ _ trivial (fun hHeld => ?_)
          clear hK K hHeld C6 g6 h8
          try simp only [Act.put, List.setIfInBounds_toArray, List.set_cons_zero, List.set_cons_succ]
          refine wpAnyH_ready (rs := [7]) (by kernel_rfl) (by simp) (AllReadyH.cons (by simp only [List.getElem?_toArray, List.getElem?_cons_succ, List.getElem?_cons_zero]; exact rfl) (fun K hK => ?_) AllReadyH.nil)
          go_simp
          have R9 : RowB ww2.heap.size ww3 (.slice (some ⟨g8, 0, none⟩) ds.length c8) ds := by rw [hds]; exact R8
          have WS := specWriteSector ad a2 c c2 vs bs qs x ⟨g8, 0, none⟩ c8 ds ww3 D HSV.out R9 (by omega) (by have := hup.out; have := hql.out; omega) (by omega)
          rw [hds] at WS
          refine WS.mono ?_
          rintro e ww4 ⟨ad9, c9, b9, d9, vs9, qs9, r9, rfl, SR, D9, SV9, hb⟩
          have z9 : w.heap.size + 1 ≤ ww3.heap.size := by have := V3.lt; have := V3.lo; have := V0.lt; omega
          have p3l : p3 < ww3.heap.size := V3.lt
          have N9 : Hid (∀ u ∈ ((Value.slice (some ad9) bs.length c9) :: (Value.slice b9 qs9.length d9) :: vs9), u.ownBlock ≠ some p3) := D9.nots (.inr p3l)
          have QL : Hid (qs9.length + (j - 1) ≤ 5 ∧ uptoQ qs9 qs9.length ≤ 65 * qs9.length) := by
            show _ ∧ _
            have := hql.out
            have := hup.out
            rcases SR with ⟨o, q, _⟩ | ⟨_, q, _⟩
            · rw [q, uptoQ_snoc, o.2.2.2, List.length_append, List.length_singleton]; omega
            · rw [q]; omega
          replace D9 := D9.base z9
          replace V3 := V3.below hb
          replace V0 := V0.below hb
          have C9 := C8.below hb
          replace G := grown_below G hb G.size
          have HV9 : Hid (SomeV vs9) := SV9
          refine hK.out _ _ trivial (fun hHeld => ?_)
          clear hK K hHeld D WS R9 R8 C8 hb SR SV9 g8l
          try simp only [Act.put, List.setIfInBounds_toArray, List.set_cons_zero, List.set_cons_succ]
          refine takeW (i := 8) (by simp only [List.getElem?_toArray, List.getElem?_cons_succ, List.getElem?_cons_zero]; exact rfl) (by kernel_rfl) (by kernel_rfl) (by kernel_rfl) (by exact fun _ _ _ h => h) (by rfl) (by intro wq hSw; go_simp <;> with_reducible rfl) (by exact trivial) ?_
          try simp only [Act.put, List.setIfInBounds_toArray, List.set_cons_zero, List.set_cons_succ]
          refine takeW (i := 9) (by simp only [List.getElem?_toArray, List.getElem?_cons_succ, List.getElem?_cons_zero]; exact rfl) (by kernel_rfl) (by kernel_rfl) (by kernel_rfl) (by exact fun _ _ _ h => h) (by rfl) (by intro wq hSw; go_simp <;> with_reducible rfl) (by exact trivial) ?_
          try simp only [Act.put, List.setIfInBounds_toArray, List.set_cons_zero, List.set_cons_succ]
          refine takeW (i := 10) (by simp only [List.getElem?_toArray, List.getElem?_cons_succ, List.getElem?_cons_zero]; exact rfl) (by kernel_rfl) (by kernel_rfl) (by kernel_rfl) (by exact fun _ _ _ h => h) (by rfl) (by intro wq hSw; go_simp <;> with_reducible rfl) (by exact trivial) ?_
          try simp only [Act.put, List.setIfInBounds_toArray, List.set_cons_zero, List.set_cons_succ]
          refine wpAnyH_ready (rs := [11]) (by kernel_rfl) (by simp) (AllReadyH.cons (by simp only [List.getElem?_toArray, List.getElem?_cons_succ, List.getElem?_cons_zero]; exact rfl) (fun K hK => ?_) AllReadyH.nil)
          have y0 := V3.c0
          have y1 := V3.c1
          have yf := V3.fr
          go_simp
          have gq : ww4.grownBy ((ww4.setCell ⟨p3, 0, none⟩ (.slice (some ad9) bs.length c9)).setCell ⟨p3, 1, none⟩ (.slice b9 qs9.length d9)) (some p3) := grownBy_setCell (p := ⟨p3, 1, none⟩) (grownBy_setCell (p := ⟨p3, 0, none⟩) (grownBy_refl _ _) rfl _) rfl _
          have V3n := V3.put (.slice (some ad9) bs.length c9) (.slice b9 qs9.length d9)
          have V0n := V0.grown gq (by omega)
          have C10 := C9.keptR gq (fun e => by injection e with e; omega) (fun b off e hn e2 => by have := HLO.out b off e hn; injection e2 with e2; omega)
          have G10 := grown_low G gq (fun q e => by injection e with e; omega)
          have D10 := D9.kept gq (fun k hk e => N9.out _ (List.mem_cons_self ..) (hk.trans e.symm)) (fun k hk e => N9.out _ (List.mem_cons_of_mem _ (List.mem_cons_self ..)) (hk.trans e.symm)) (fun y hy k hk e => N9.out y (List.mem_cons_of_mem _ (List.mem_cons_of_mem _ hy)) (hk.trans e.symm))
          refine hK.out _ _ trivial (fun hHeld => ?_)
          clear hK K hHeld D9 V3 V0 C9 G gq y0 y1 yf
          try simp only [Act.put]
          refine wpAnyH_done (by kernel_rfl) ?_ _
          generalize (ww4.setCell ⟨p3, 0, none⟩ (.slice (some ad9) bs.length c9)).setCell ⟨p3, 1, none⟩ (.slice b9 qs9.length d9) = ww5 at *
          go_wp2_with fail
          refine (l1Once_any p a n cap 3 _ C10).mono ?_
          rintro e w8 ⟨o, rfl, C11, g11⟩
          replace V3n := V3n.grown g11 (by omega)
          replace V0n := V0n.grown g11 (by omega)
          replace D10 := D10.curs g11 (by omega)
          replace G10 := grownBy_trans G10 g11
          clear C10 g11
          cases o with
          | false =>
            have HD9 : Hid (DkR (w.heap.size + 1) w8 (.slice (some ad9) bs.length c9) (.slice b9 qs9.length d9) vs9 bs qs9) := D10
            have QL1 : Hid (qs9.length + (j - 1) ≤ 5) := QL.out.1
            have QL2 : Hid (uptoQ qs9 qs9.length ≤ 65 * qs9.length) := QL.out.2
            clear D10 QL
            go_wp2
            go_roundw
            case rel => exact ⟨j - 1, ad9, c9, b9, d9, vs9, bs, qs9, by go_num, by omega, hbl, QL1, QL2, HD9, HV9, N9, V3n, V0n, C11, G10⟩
            case measure => simp [intOf]; omega
          | true =>
            obtain ⟨y0, y1, yf, _⟩ := id V3n
            go_wp2_with fail
            refine (specSync ad9 b9 c9 d9 vs9 bs qs9 _ D10 HV9.out (by omega) (by have := QL.out; omega)).mono ?_
            rintro e w9 ⟨ad7, c7, b7, d7, vs7, bs7, qs7, rfl, SR, D7, SV7, hb⟩
            have LN := SR.len
            have z9 : w.heap.size + 1 ≤ w8.heap.size := by have := V3n.lt; have := V3n.lo; have := V0n.lt; omega
            have N7 : Hid (∀ u ∈ ((Value.slice (some ad7) bs.length c7) :: (Value.slice b7 qs7.length d7) :: vs7), u.ownBlock ≠ some p3) := D7.nots (.inr V3n.lt)
            have QL1 : Hid (qs7.length + (j - 1) ≤ 5) := by
              show _ ≤ _
              have := QL.out
              rcases SR with ⟨_, _, q⟩ | ⟨_, _, q⟩
              · rw [q]; simp; omega
              · rw [q]; omega
            have QL2 : Hid (uptoQ qs7 qs7.length ≤ 65 * qs7.length) := by
              show _ ≤ _
              have := QL.out
              rcases SR with ⟨_, _, q⟩ | ⟨_, _, q⟩
              · rw [q]; simp [uptoQ]
              · rw [q]; exact this.2
            have HV7 : Hid (SomeV vs7) := SV7
            have HBL : Hid (bs7.length = m * 64) := LN.trans hbl.out
            replace D7 := D7.base z9
            replace V3n := V3n.below hb
            replace V0n := V0n.below hb
            replace C11 := C11.below hb
            replace G10 := grown_below G10 hb G10.size
            clear hb SR SV7 D10 y0 y1 yf QL
            rw [← LN] at D7 N7 ⊢
            clear LN
            have gq : w9.grownBy ((w9.setCell ⟨p3, 0, none⟩ (.slice (some ad7) bs7.length c7)).setCell ⟨p3, 1, none⟩ (.slice b7 qs7.length d7)) (some p3) := grownBy_setCell (p := ⟨p3, 1, none⟩) (grownBy_setCell (p := ⟨p3, 0, none⟩) (grownBy_refl _ _) rfl _) rfl _
            have V3m := V3n.put (.slice (some ad7) bs7.length c7) (.slice b7 qs7.length d7)
            have V0m := V0n.grown gq (by omega)
            have C12 := C11.keptR gq (fun e => by injection e with e; omega) (fun b off e hn e2 => by have := HLO.out b off e hn; injection e2 with e2; omega)
            have G12 := grown_low G10 gq (fun q e => by injection e with e; omega)
            have HD12 : Hid (DkR (w.heap.size + 1) ((w9.setCell ⟨p3, 0, none⟩ (.slice (some ad7) bs7.length c7)).setCell ⟨p3, 1, none⟩ (.slice b7 qs7.length d7)) (.slice (some ad7) bs7.length c7) (.slice b7 qs7.length d7) vs7 bs7 qs7) := D7.kept gq (fun k hk e => N7.out _ (List.mem_cons_self ..) (hk.trans e.symm)) (fun k hk e => N7.out _ (List.mem_cons_of_mem _ (List.mem_cons_self ..)) (hk.trans e.symm)) (fun y hy k hk e => N7.out y (List.mem_cons_of_mem _ (List.mem_cons_of_mem _ hy)) (hk.trans e.symm))
            obtain ⟨y0, y1, yf, _⟩ := id V3n
            clear gq V3n V0n C11 G10 D7
            go_wp2
            go_roundw
            case rel => exact ⟨j - 1, ad7, c7, b7, d7, vs7, bs7, qs7, by go_num, by omega, HBL, QL1, QL2, HD12, HV7, N7, V3m, V0m, C12, G12⟩
            case measure => simp [intOf]; omega
        · go_simp
          refine (l11Many_any (some ad) a2 c bs.length c2 qs.length m _ (many_pos hbl.out) (by omega)).mono ?_
          rintro e ww1 ⟨rfl, hb⟩
          replace V3 := V3.below hb
          replace V0 := V0.below hb
          replace D := D.below hb
          replace C := C.below hb
          replace G := grown_below G hb G.size
          refine hK.out _ _ trivial (fun hHeld => ?_)
          clear hK K hHeld hb
          try simp only [Act.put, List.setIfInBounds_toArray, List.set_cons_zero, List.set_cons_succ]
          refine wpAnyH_ready (rs := [0, 4]) (by kernel_rfl) (by simp) (AllReadyH.cons (by simp only [List.getElem?_toArray, List.getElem?_cons_zero]; exact rfl) (fun K hK => ?_) (AllReadyH.cons (by simp only [List.getElem?_toArray, List.getElem?_cons_succ, List.getElem?_cons_zero]; exact rfl) (fun K hK => ?_) AllReadyH.nil))
          · have y0 := V3.c0
            have y1 := V3.c1
            go_simp
            refine hK.out _ _ trivial (fun hHeld => ?_)
            clear hK K hHeld y0 y1
            try simp only [Act.put, List.setIfInBounds_toArray, List.set_cons_zero, List.set_cons_succ]
            refine wpAnyH_ready (rs := [4]) (by kernel_rfl) (by simp) (AllReadyH.cons (by simp only [List.getElem?_toArray, List.getElem?_cons_succ, List.getElem?_cons_zero]; exact rfl) (fun K hK => ?_) AllReadyH.nil)
            go_simp
            refine (l1Below_any p a n cap (m : Int) _ C).mono ?_
            rintro e ww2 ⟨x, rfl, x0, x1, C5, g5⟩
            have x2 := x1 (by omega)
            replace V3 := V3.grown g5 (by omega)
            replace V0 := V0.grown g5 (by omega)
            replace D := D.curs g5 (by omega)
            replace G := grownBy_trans G g5
            have C6 := C5
            refine hK.out _ _ trivial (fun hHeld => ?_)
            clear hK K hHeld C g5 x1 C5
            try simp only [Act.put, List.setIfInBounds_toArray, List.set_cons_zero, List.set_cons_succ]
            refine wpAnyH_ready (rs := [6]) (by kernel_rfl) (by simp) (AllReadyH.cons (by simp only [List.getElem?_toArray, List.getElem?_cons_succ, List.getElem?_cons_zero]; exact rfl) (fun K hK => ?_) AllReadyH.nil)
            go_simp
            refine (l1Bytes_any p a n cap 64 _ C6 (by omega)).mono ?_
            rintro e ww3 ⟨g8, c8, ds, rfl, hds, h8, R8, C8, g6⟩
            have g8l := (World.ownsRow.lt R8 g8 rfl).1
            replace V3 := V3.grown g6 (by omega)
            replace V0 := V0.grown g6 (by omega)
            replace D := D.curs g6 (by omega)
            replace G := grownBy_trans G g6
            refine hK.out _ _ trivial (fun hHeld => ?_)
            clear hK K hHeld C6 g6 h8
            try simp only [Act.put, List.setIfInBounds_toArray, List.set_cons_zero, List.set_cons_succ]
            refine wpAnyH_ready (rs := [7]) (by kernel_rfl) (by simp) (AllReadyH.cons (by simp only [List.getElem?_toArray, List.getElem?_cons_succ, List.getElem?_cons_zero]; exact rfl) (fun K hK => ?_) AllReadyH.nil)
            go_simp
            have R9 : RowB ww2.heap.size ww3 (.slice (some ⟨g8, 0, none⟩) ds.length c8) ds := by rw [hds]; exact R8
            have WS := specWriteSector ad a2 c c2 vs bs qs x ⟨g8, 0, none⟩ c8 ds ww3 D HSV.out R9 (by omega) (by have := hup.out; have := hql.out; omega) (by omega)
            rw [hds] at WS
            refine WS.mono ?_
            rintro e ww4 ⟨ad9, c9, b9, d9, vs9, qs9, r9, rfl, SR, D9, SV9, hb⟩
            have z9 : w.heap.size + 1 ≤ ww3.heap.size := by have := V3.lt; have := V3.lo; have := V0.lt; omega
            have p3l : p3 < ww3.heap.size := V3.lt
            have N9 : Hid (∀ u ∈ ((Value.slice (some ad9) bs.length c9) :: (Value.slice b9 qs9.length d9) :: vs9), u.ownBlock ≠ some p3) := D9.nots (.inr p3l)
            have QL : Hid (qs9.length + (j - 1) ≤ 5 ∧ uptoQ qs9 qs9.length ≤ 65 * qs9.length) := by
              show _ ∧ _
              have := hql.out
              have := hup.out
              rcases SR with ⟨o, q, _⟩ | ⟨_, q, _⟩
              · rw [q, uptoQ_snoc, o.2.2.2, List.length_append, List.length_singleton]; omega
              · rw [q]; omega
            replace D9 := D9.base z9
            replace V3 := V3.below hb
            replace V0 := V0.below hb
            have C9 := C8.below hb
            replace G := grown_below G hb G.size
            have HV9 : Hid (SomeV vs9) := SV9
            refine hK.out _ _ trivial (fun hHeld => ?_)
            clear hK K hHeld D WS R9 R8 C8 hb SR SV9 g8l
            try simp only [Act.put, List.setIfInBounds_toArray, List.set_cons_zero, List.set_cons_succ]
            refine takeW (i := 8) (by simp only [List.getElem?_toArray, List.getElem?_cons_succ, List.getElem?_cons_zero]; exact rfl) (by kernel_rfl) (by kernel_rfl) (by kernel_rfl) (by exact fun _ _ _ h => h) (by rfl) (by intro wq hSw; go_simp <;> with_reducible rfl) (by exact trivial) ?_
            try simp only [Act.put, List.setIfInBounds_toArray, List.set_cons_zero, List.set_cons_succ]
            refine takeW (i := 9) (by simp only [List.getElem?_toArray, List.getElem?_cons_succ, List.getElem?_cons_zero]; exact rfl) (by kernel_rfl) (by kernel_rfl) (by kernel_rfl) (by exact fun _ _ _ h => h) (by rfl) (by intro wq hSw; go_simp <;> with_reducible rfl) (by exact trivial) ?_
            try simp only [Act.put, List.setIfInBounds_toArray, List.set_cons_zero, List.set_cons_succ]
            refine takeW (i := 10) (by simp only [List.getElem?_toArray, List.getElem?_cons_succ, List.getElem?_cons_zero]; exact rfl) (by kernel_rfl) (by kernel_rfl) (by kernel_rfl) (by exact fun _ _ _ h => h) (by rfl) (by intro wq hSw; go_simp <;> with_reducible rfl) (by exact trivial) ?_
            try simp only [Act.put, List.setIfInBounds_toArray, List.set_cons_zero, List.set_cons_succ]
            refine wpAnyH_ready (rs := [11]) (by kernel_rfl) (by simp) (AllReadyH.cons (by simp only [List.getElem?_toArray, List.getElem?_cons_succ, List.getElem?_cons_zero]; exact rfl) (fun K hK => ?_) AllReadyH.nil)
            have y0 := V3.c0
            have y1 := V3.c1
            have yf := V3.fr
            go_simp
            have gq : ww4.grownBy ((ww4.setCell ⟨p3, 0, none⟩ (.slice (some ad9) bs.length c9)).setCell ⟨p3, 1, none⟩ (.slice b9 qs9.length d9)) (some p3) := grownBy_setCell (p := ⟨p3, 1, none⟩) (grownBy_setCell (p := ⟨p3, 0, none⟩) (grownBy_refl _ _) rfl _) rfl _
            have V3n := V3.put (.slice (some ad9) bs.length c9) (.slice b9 qs9.length d9)
            have V0n := V0.grown gq (by omega)
            have C10 := C9.keptR gq (fun e => by injection e with e; omega) (fun b off e hn e2 => by have := HLO.out b off e hn; injection e2 with e2; omega)
            have G10 := grown_low G gq (fun q e => by injection e with e; omega)
            have D10 := D9.kept gq (fun k hk e => N9.out _ (List.mem_cons_self ..) (hk.trans e.symm)) (fun k hk e => N9.out _ (List.mem_cons_of_mem _ (List.mem_cons_self ..)) (hk.trans e.symm)) (fun y hy k hk e => N9.out y (List.mem_cons_of_mem _ (List.mem_cons_of_mem _ hy)) (hk.trans e.symm))
            refine hK.out _ _ trivial (fun hHeld => ?_)
            clear hK K hHeld D9 V3 V0 C9 G gq y0 y1 yf
            try simp only [Act.put]
            refine wpAnyH_done (by kernel_rfl) ?_ _
            generalize (ww4.setCell ⟨p3, 0, none⟩ (.slice (some ad9) bs.length c9)).setCell ⟨p3, 1, none⟩ (.slice b9 qs9.length d9) = ww5 at *
            go_wp2_with fail
            refine (l1Once_any p a n cap 3 _ C10).mono ?_
            rintro e w8 ⟨o, rfl, C11, g11⟩
            replace V3n := V3n.grown g11 (by omega)
            replace V0n := V0n.grown g11 (by omega)
            replace D10 := D10.curs g11 (by omega)
            replace G10 := grownBy_trans G10 g11
            clear C10 g11
            cases o with
            | false =>
              have HD9 : Hid (DkR (w.heap.size + 1) w8 (.slice (some ad9) bs.length c9) (.slice b9 qs9.length d9) vs9 bs qs9) := D10
              have QL1 : Hid (qs9.length + (j - 1) ≤ 5) := QL.out.1
              have QL2 : Hid (uptoQ qs9 qs9.length ≤ 65 * qs9.length) := QL.out.2
              clear D10 QL
              go_wp2
              go_roundw
              case rel => exact ⟨j - 1, ad9, c9, b9, d9, vs9, bs, qs9, by go_num, by omega, hbl, QL1, QL2, HD9, HV9, N9, V3n, V0n, C11, G10⟩
              case measure => simp [intOf]; omega
            | true =>
              obtain ⟨y0, y1, yf, _⟩ := id V3n
              go_wp2_with fail
              refine (specSync ad9 b9 c9 d9 vs9 bs qs9 _ D10 HV9.out (by omega) (by have := QL.out; omega)).mono ?_
              rintro e w9 ⟨ad7, c7, b7, d7, vs7, bs7, qs7, rfl, SR, D7, SV7, hb⟩
              have LN := SR.len
              have z9 : w.heap.size + 1 ≤ w8.heap.size := by have := V3n.lt; have := V3n.lo; have := V0n.lt; omega
              have N7 : Hid (∀ u ∈ ((Value.slice (some ad7) bs.length c7) :: (Value.slice b7 qs7.length d7) :: vs7), u.ownBlock ≠ some p3) := D7.nots (.inr V3n.lt)
              have QL1 : Hid (qs7.length + (j - 1) ≤ 5) := by
                show _ ≤ _
                have := QL.out
                rcases SR with ⟨_, _, q⟩ | ⟨_, _, q⟩
                · rw [q]; simp; omega
                · rw [q]; omega
              have QL2 : Hid (uptoQ qs7 qs7.length ≤ 65 * qs7.length) := by
                show _ ≤ _
                have := QL.out
                rcases SR with ⟨_, _, q⟩ | ⟨_, _, q⟩
                · rw [q]; simp [uptoQ]
                · rw [q]; exact this.2
              have HV7 : Hid (SomeV vs7) := SV7
              have HBL : Hid (bs7.length = m * 64) := LN.trans hbl.out
              replace D7 := D7.base z9
              replace V3n := V3n.below hb
              replace V0n := V0n.below hb
              replace C11 := C11.below hb
              replace G10 := grown_below G10 hb G10.size
              clear hb SR SV7 D10 y0 y1 yf QL
              rw [← LN] at D7 N7 ⊢
              clear LN
              have gq : w9.grownBy ((w9.setCell ⟨p3, 0, none⟩ (.slice (some ad7) bs7.length c7)).setCell ⟨p3, 1, none⟩ (.slice b7 qs7.length d7)) (some p3) := grownBy_setCell (p := ⟨p3, 1, none⟩) (grownBy_setCell (p := ⟨p3, 0, none⟩) (grownBy_refl _ _) rfl _) rfl _
              have V3m := V3n.put (.slice (some ad7) bs7.length c7) (.slice b7 qs7.length d7)
              have V0m := V0n.grown gq (by omega)
              have C12 := C11.keptR gq (fun e => by injection e with e; omega) (fun b off e hn e2 => by have := HLO.out b off e hn; injection e2 with e2; omega)
              have G12 := grown_low G10 gq (fun q e => by injection e with e; omega)
              have HD12 : Hid (DkR (w.heap.size + 1) ((w9.setCell ⟨p3, 0, none⟩ (.slice (some ad7) bs7.length c7)).setCell ⟨p3, 1, none⟩ (.slice b7 qs7.length d7)) (.slice (some ad7) bs7.length c7) (.slice b7 qs7.length d7) vs7 bs7 qs7) := D7.kept gq (fun k hk e => N7.out _ (List.mem_cons_self ..) (hk.trans e.symm)) (fun k hk e => N7.out _ (List.mem_cons_of_mem _ (List.mem_cons_self ..)) (hk.trans e.symm)) (fun y hy k hk e => N7.out y (List.mem_cons_of_mem _ (List.mem_cons_of_mem _ hy)) (hk.trans e.symm))
              obtain ⟨y0, y1, yf, _⟩ := id V3n
              clear gq V3n V0n C11 G10 D7
              go_wp2
              go_roundw
              case rel => exact ⟨j - 1, ad7, c7, b7, d7, vs7, bs7, qs7, by go_num, by omega, HBL, QL1, QL2, HD12, HV7, N7, V3m, V0m, C12, G12⟩
              case measure => simp [intOf]; omega
          · go_simp
            refine (l1Below_any p a n cap (m : Int) _ C).mono ?_
            rintro e ww2 ⟨x, rfl, x0, x1, C5, g5⟩
            have x2 := x1 (by omega)
            replace V3 := V3.grown g5 (by omega)
            replace V0 := V0.grown g5 (by omega)
            replace D := D.curs g5 (by omega)
            replace G := grownBy_trans G g5
            have C6 := C5
            refine hK.out _ _ trivial (fun hHeld => ?_)
            clear hK K hHeld C g5 x1 C5
            try simp only [Act.put, List.setIfInBounds_toArray, List.set_cons_zero, List.set_cons_succ]
            refine wpAnyH_ready (rs := [0, 6]) (by kernel_rfl) (by simp) (AllReadyH.cons (by simp only [List.getElem?_toArray, List.getElem?_cons_zero]; exact rfl) (fun K hK => ?_) (AllReadyH.cons (by simp only [List.getElem?_toArray, List.getElem?_cons_succ, List.getElem?_cons_zero]; exact rfl) (fun K hK => ?_) AllReadyH.nil))
            · have y0 := V3.c0
              have y1 := V3.c1
              go_simp
              refine hK.out _ _ trivial (fun hHeld => ?_)
              clear hK K hHeld y0 y1
              try simp only [Act.put, List.setIfInBounds_toArray, List.set_cons_zero, List.set_cons_succ]
              refine wpAnyH_ready (rs := [6]) (by kernel_rfl) (by simp) (AllReadyH.cons (by simp only [List.getElem?_toArray, List.getElem?_cons_succ, List.getElem?_cons_zero]; exact rfl) (fun K hK => ?_) AllReadyH.nil)
              go_simp
              refine (l1Bytes_any p a n cap 64 _ C6 (by omega)).mono ?_
              rintro e ww3 ⟨g8, c8, ds, rfl, hds, h8, R8, C8, g6⟩
              have g8l := (World.ownsRow.lt R8 g8 rfl).1
              replace V3 := V3.grown g6 (by omega)
              replace V0 := V0.grown g6 (by omega)
              replace D := D.curs g6 (by omega)
              replace G := grownBy_trans G g6
              refine hK.out _ _ trivial (fun hHeld => ?_)
              clear hK K hHeld C6 g6 h8
              try simp only [Act.put, List.setIfInBounds_toArray, List.set_cons_zero, List.set_cons_succ]
              refine wpAnyH_ready (rs := [7]) (by kernel_rfl) (by simp) (AllReadyH.cons (by simp only [List.getElem?_toArray, List.getElem?_cons_succ, List.getElem?_cons_zero]; exact rfl) (fun K hK => ?_) AllReadyH.nil)
              go_simp
              have R9 : RowB ww2.heap.size ww3 (.slice (some ⟨g8, 0, none⟩) ds.length c8) ds := by rw [hds]; exact R8
              have WS := specWriteSector ad a2 c c2 vs bs qs x ⟨g8, 0, none⟩ c8 ds ww3 D HSV.out R9 (by omega) (by have := hup.out; have := hql.out; omega) (by omega)
              rw [hds] at WS
              refine WS.mono ?_
              rintro e ww4 ⟨ad9, c9, b9, d9, vs9, qs9, r9, rfl, SR, D9, SV9, hb⟩
              have z9 : w.heap.size + 1 ≤ ww3.heap.size := by have := V3.lt; have := V3.lo; have := V0.lt; omega
              have p3l : p3 < ww3.heap.size := V3.lt
              have N9 : Hid (∀ u ∈ ((Value.slice (some ad9) bs.length c9) :: (Value.slice b9 qs9.length d9) :: vs9), u.ownBlock ≠ some p3) := D9.nots (.inr p3l)
              have QL : Hid (qs9.length + (j - 1) ≤ 5 ∧ uptoQ qs9 qs9.length ≤ 65 * qs9.length) := by
                show _ ∧ _
                have := hql.out
                have := hup.out
                rcases SR with ⟨o, q, _⟩ | ⟨_, q, _⟩
                · rw [q, uptoQ_snoc, o.2.2.2, List.length_append, List.length_singleton]; omega
                · rw [q]; omega
              replace D9 := D9.base z9
              replace V3 := V3.below hb
              replace V0 := V0.below hb
              have C9 := C8.below hb
              replace G := grown_below G hb G.size
              have HV9 : Hid (SomeV vs9) := SV9
              refine hK.out _ _ trivial (fun hHeld => ?_)
              clear hK K hHeld D WS R9 R8 C8 hb SR SV9 g8l
              try simp only [Act.put, List.setIfInBounds_toArray, List.set_cons_zero, List.set_cons_succ]
              refine takeW (i := 8) (by simp only [List.getElem?_toArray, List.getElem?_cons_succ, List.getElem?_cons_zero]; exact rfl) (by kernel_rfl) (by kernel_rfl) (by kernel_rfl) (by exact fun _ _ _ h => h) (by rfl) (by intro wq hSw; go_simp <;> with_reducible rfl) (by exact trivial) ?_
              try simp only [Act.put, List.setIfInBounds_toArray, List.set_cons_zero, List.set_cons_succ]
              refine takeW (i := 9) (by simp only [List.getElem?_toArray, List.getElem?_cons_succ, List.getElem?_cons_zero]; exact rfl) (by kernel_rfl) (by kernel_rfl) (by kernel_rfl) (by exact fun _ _ _ h => h) (by rfl) (by intro wq hSw; go_simp <;> with_reducible rfl) (by exact trivial) ?_
              try simp only [Act.put, List.setIfInBounds_toArray, List.set_cons_zero, List.set_cons_succ]
              refine takeW (i := 10) (by simp only [List.getElem?_toArray, List.getElem?_cons_succ, List.getElem?_cons_zero]; exact rfl) (by kernel_rfl) (by kernel_rfl) (by kernel_rfl) (by exact fun _ _ _ h => h) (by rfl) (by intro wq hSw; go_simp <;> with_reducible rfl) (by exact trivial) ?_
              try simp only [Act.put, List.setIfInBounds_toArray, List.set_cons_zero, List.set_cons_succ]
              refine wpAnyH_ready (rs := [11]) (by kernel_rfl) (by simp) (AllReadyH.cons (by simp only [List.getElem?_toArray, List.getElem?_cons_succ, List.getElem?_cons_zero]; exact rfl) (fun K hK => ?_) AllReadyH.nil)
              have y0 := V3.c0
              have y1 := V3.c1
              have yf := V3.fr
              go_simp
              have gq : ww4.grownBy ((ww4.setCell ⟨p3, 0, none⟩ (.slice (some ad9) bs.length c9)).setCell ⟨p3, 1, none⟩ (.slice b9 qs9.length d9)) (some p3) := grownBy_setCell (p := ⟨p3, 1, none⟩) (grownBy_setCell (p := ⟨p3, 0, none⟩) (grownBy_refl _ _) rfl _) rfl _
              have V3n := V3.put (.slice (some ad9) bs.length c9) (.slice b9 qs9.length d9)
              have V0n := V0.grown gq (by omega)
              have C10 := C9.keptR gq (fun e => by injection e with e; omega) (fun b off e hn e2 => by have := HLO.out b off e hn; injection e2 with e2; omega)
              have G10 := grown_low G gq (fun q e => by injection e with e; omega)
              have D10 := D9.kept gq (fun k hk e => N9.out _ (List.mem_cons_self ..) (hk.trans e.symm)) (fun k hk e => N9.out _ (List.mem_cons_of_mem _ (List.mem_cons_self ..)) (hk.trans e.symm)) (fun y hy k hk e => N9.out y (List.mem_cons_of_mem _ (List.mem_cons_of_mem _ hy)) (hk.trans e.symm))
              refine hK.out _ _ trivial (fun hHeld => ?_)
              clear hK K hHeld D9 V3 V0 C9 G gq y0 y1 yf
              try simp only [Act.put]
              refine wpAnyH_done (by kernel_rfl) ?_ _
              generalize (ww4.setCell ⟨p3, 0, none⟩ (.slice (some ad9) bs.length c9)).setCell ⟨p3, 1, none⟩ (.slice b9 qs9.length d9) = ww5 at *
              go_wp2_with fail
              refine (l1Once_any p a n cap 3 _ C10).mono ?_
              rintro e w8 ⟨o, rfl, C11, g11⟩
              replace V3n := V3n.grown g11 (by omega)
              replace V0n := V0n.grown g11 (by omega)
              replace D10 := D10.curs g11 (by omega)
              replace G10 := grownBy_trans G10 g11
              clear C10 g11
              cases o with
              | false =>
                have HD9 : Hid (DkR (w.heap.size + 1) w8 (.slice (some ad9) bs.length c9) (.slice b9 qs9.length d9) vs9 bs qs9) := D10
                have QL1 : Hid (qs9.length + (j - 1) ≤ 5) := QL.out.1
                have QL2 : Hid (uptoQ qs9 qs9.length ≤ 65 * qs9.length) := QL.out.2
                clear D10 QL
                go_wp2
                go_roundw
                case rel => exact ⟨j - 1, ad9, c9, b9, d9, vs9, bs, qs9, by go_num, by omega, hbl, QL1, QL2, HD9, HV9, N9, V3n, V0n, C11, G10⟩
                case measure => simp [intOf]; omega
              | true =>
                obtain ⟨y0, y1, yf, _⟩ := id V3n
                go_wp2_with fail
                refine (specSync ad9 b9 c9 d9 vs9 bs qs9 _ D10 HV9.out (by omega) (by have := QL.out; omega)).mono ?_
                rintro e w9 ⟨ad7, c7, b7, d7, vs7, bs7, qs7, rfl, SR, D7, SV7, hb⟩
                have LN := SR.len
                have z9 : w.heap.size + 1 ≤ w8.heap.size := by have := V3n.lt; have := V3n.lo; have := V0n.lt; omega
                have N7 : Hid (∀ u ∈ ((Value.slice (some ad7) bs.length c7) :: (Value.slice b7 qs7.length d7) :: vs7), u.ownBlock ≠ some p3) := D7.nots (.inr V3n.lt)
                have QL1 : Hid (qs7.length + (j - 1) ≤ 5) := by
                  show _ ≤ _
                  have := QL.out
                  rcases SR with ⟨_, _, q⟩ | ⟨_, _, q⟩
                  · rw [q]; simp; omega
                  · rw [q]; omega
                have QL2 : Hid (uptoQ qs7 qs7.length ≤ 65 * qs7.length) := by
                  show _ ≤ _
                  have := QL.out
                  rcases SR with ⟨_, _, q⟩ | ⟨_, _, q⟩
                  · rw [q]; simp [uptoQ]
                  · rw [q]; exact this.2
                have HV7 : Hid (SomeV vs7) := SV7
                have HBL : Hid (bs7.length = m * 64) := LN.trans hbl.out
                replace D7 := D7.base z9
                replace V3n := V3n.below hb
                replace V0n := V0n.below hb
                replace C11 := C11.below hb
                replace G10 := grown_below G10 hb G10.size
                clear hb SR SV7 D10 y0 y1 yf QL
                rw [← LN] at D7 N7 ⊢
                clear LN
                have gq : w9.grownBy ((w9.setCell ⟨p3, 0, none⟩ (.slice (some ad7) bs7.length c7)).setCell ⟨p3, 1, none⟩ (.slice b7 qs7.length d7)) (some p3) := grownBy_setCell (p := ⟨p3, 1, none⟩) (grownBy_setCell (p := ⟨p3, 0, none⟩) (grownBy_refl _ _) rfl _) rfl _
                have V3m := V3n.put (.slice (some ad7) bs7.length c7) (.slice b7 qs7.length d7)
                have V0m := V0n.grown gq (by omega)
                have C12 := C11.keptR gq (fun e => by injection e with e; omega) (fun b off e hn e2 => by have := HLO.out b off e hn; injection e2 with e2; omega)
                have G12 := grown_low G10 gq (fun q e => by injection e with e; omega)
                have HD12 : Hid (DkR (w.heap.size + 1) ((w9.setCell ⟨p3, 0, none⟩ (.slice (some ad7) bs7.length c7)).setCell ⟨p3, 1, none⟩ (.slice b7 qs7.length d7)) (.slice (some ad7) bs7.length c7) (.slice b7 qs7.length d7) vs7 bs7 qs7) := D7.kept gq (fun k hk e => N7.out _ (List.mem_cons_self ..) (hk.trans e.symm)) (fun k hk e => N7.out _ (List.mem_cons_of_mem _ (List.mem_cons_self ..)) (hk.trans e.symm)) (fun y hy k hk e => N7.out y (List.mem_cons_of_mem _ (List.mem_cons_of_mem _ hy)) (hk.trans e.symm))
                obtain ⟨y0, y1, yf, _⟩ := id V3n
                clear gq V3n V0n C11 G10 D7
                go_wp2
                go_roundw
                case rel => exact ⟨j - 1, ad7, c7, b7, d7, vs7, bs7, qs7, by go_num, by omega, HBL, QL1, QL2, HD12, HV7, N7, V3m, V0m, C12, G12⟩
                case measure => simp [intOf]; omega
            · go_simp
              refine (l1Bytes_any p a n cap 64 _ C6 (by omega)).mono ?_
              rintro e ww3 ⟨g8, c8, ds, rfl, hds, h8, R8, C8, g6⟩
              have g8l := (World.ownsRow.lt R8 g8 rfl).1
              replace V3 := V3.grown g6 (by omega)
              replace V0 := V0.grown g6 (by omega)
              replace D := D.curs g6 (by omega)
              replace G := grownBy_trans G g6
              refine hK.out _ _ trivial (fun hHeld => ?_)
              clear hK K hHeld C6 g6 h8
              try simp only [Act.put, List.setIfInBounds_toArray, List.set_cons_zero, List.set_cons_succ]
              refine wpAnyH_ready (rs := [0]) (by kernel_rfl) (by simp) (AllReadyH.cons (by simp only [List.getElem?_toArray, List.getElem?_cons_zero]; exact rfl) (fun K hK => ?_) AllReadyH.nil)
              have y0 := V3.c0
              have y1 := V3.c1
              go_simp
              refine hK.out _ _ trivial (fun hHeld => ?_)
              clear hK K hHeld y0 y1
              try simp only [Act.put, List.setIfInBounds_toArray, List.set_cons_zero, List.set_cons_succ]
              refine wpAnyH_ready (rs := [7]) (by kernel_rfl) (by simp) (AllReadyH.cons (by simp only [List.getElem?_toArray, List.getElem?_cons_succ, List.getElem?_cons_zero]; exact rfl) (fun K hK => ?_) AllReadyH.nil)
              go_simp
              have R9 : RowB ww2.heap.size ww3 (.slice (some ⟨g8, 0, none⟩) ds.length c8) ds := by rw [hds]; exact R8
              have WS := specWriteSector ad a2 c c2 vs bs qs x ⟨g8, 0, none⟩ c8 ds ww3 D HSV.out R9 (by omega) (by have := hup.out; have := hql.out; omega) (by omega)
              rw [hds] at WS
              refine WS.mono ?_
              rintro e ww4 ⟨ad9, c9, b9, d9, vs9, qs9, r9, rfl, SR, D9, SV9, hb⟩
              have z9 : w.heap.size + 1 ≤ ww3.heap.size := by have := V3.lt; have := V3.lo; have := V0.lt; omega
              have p3l : p3 < ww3.heap.size := V3.lt
              have N9 : Hid (∀ u ∈ ((Value.slice (some ad9) bs.length c9) :: (Value.slice b9 qs9.length d9) :: vs9), u.ownBlock ≠ some p3) := D9.nots (.inr p3l)
              have QL : Hid (qs9.length + (j - 1) ≤ 5 ∧ uptoQ qs9 qs9.length ≤ 65 * qs9.length) := by
                show _ ∧ _
                have := hql.out
                have := hup.out
                rcases SR with ⟨o, q, _⟩ | ⟨_, q, _⟩
                · rw [q, uptoQ_snoc, o.2.2.2, List.length_append, List.length_singleton]; omega
                · rw [q]; omega
              replace D9 := D9.base z9
              replace V3 := V3.below hb
              replace V0 := V0.below hb
              have C9 := C8.below hb
              replace G := grown_below G hb G.size
              have HV9 : Hid (SomeV vs9) := SV9
              refine hK.out _ _ trivial (fun hHeld => ?_)
              clear hK K hHeld D WS R9 R8 C8 hb SR SV9 g8l
              try simp only [Act.put, List.setIfInBounds_toArray, List.set_cons_zero, List.set_cons_succ]
              refine takeW (i := 8) (by simp only [List.getElem?_toArray, List.getElem?_cons_succ, List.getElem?_cons_zero]; exact rfl) (by kernel_rfl) (by kernel_rfl) (by kernel_rfl) (by exact fun _ _ _ h => h) (by rfl) (by intro wq hSw; go_simp <;> with_reducible rfl) (by exact trivial) ?_
              try simp only [Act.put, List.setIfInBounds_toArray, List.set_cons_zero, List.set_cons_succ]
              refine takeW (i := 9) (by simp only [List.getElem?_toArray, List.getElem?_cons_succ, List.getElem?_cons_zero]; exact rfl) (by kernel_rfl) (by kernel_rfl) (by kernel_rfl) (by exact fun _ _ _ h => h) (by rfl) (by intro wq hSw; go_simp <;> with_reducible rfl) (by exact trivial) ?_
              try simp only [Act.put, List.setIfInBounds_toArray, List.set_cons_zero, List.set_cons_succ]
              refine takeW (i := 10) (by simp only [List.getElem?_toArray, List.getElem?_cons_succ, List.getElem?_cons_zero]; exact rfl) (by kernel_rfl) (by kernel_rfl) (by kernel_rfl) (by exact fun _ _ _ h => h) (by rfl) (by intro wq hSw; go_simp <;> with_reducible rfl) (by exact trivial) ?_
              try simp only [Act.put, List.setIfInBounds_toArray, List.set_cons_zero, List.set_cons_succ]
              refine wpAnyH_ready (rs := [11]) (by kernel_rfl) (by simp) (AllReadyH.cons (by simp only [List.getElem?_toArray, List.getElem?_cons_succ, List.getElem?_cons_zero]; exact rfl) (fun K hK => ?_) AllReadyH.nil)
              have y0 := V3.c0
              have y1 := V3.c1
              have yf := V3.fr
              go_simp
              have gq : ww4.grownBy ((ww4.setCell ⟨p3, 0, none⟩ (.slice (some ad9) bs.length c9)).setCell ⟨p3, 1, none⟩ (.slice b9 qs9.length d9)) (some p3) := grownBy_setCell (p := ⟨p3, 1, none⟩) (grownBy_setCell (p := ⟨p3, 0, none⟩) (grownBy_refl _ _) rfl _) rfl _
              have V3n := V3.put (.slice (some ad9) bs.length c9) (.slice b9 qs9.length d9)
              have V0n := V0.grown gq (by omega)
              have C10 := C9.keptR gq (fun e => by injection e with e; omega) (fun b off e hn e2 => by have := HLO.out b off e hn; injection e2 with e2; omega)
              have G10 := grown_low G gq (fun q e => by injection e with e; omega)
              have D10 := D9.kept gq (fun k hk e => N9.out _ (List.mem_cons_self ..) (hk.trans e.symm)) (fun k hk e => N9.out _ (List.mem_cons_of_mem _ (List.mem_cons_self ..)) (hk.trans e.symm)) (fun y hy k hk e => N9.out y (List.mem_cons_of_mem _ (List.mem_cons_of_mem _ hy)) (hk.trans e.symm))
              refine hK.out _ _ trivial (fun hHeld => ?_)
              clear hK K hHeld D9 V3 V0 C9 G gq y0 y1 yf
              try simp only [Act.put]
              refine wpAnyH_done (by kernel_rfl) ?_ _
              generalize (ww4.setCell ⟨p3, 0, none⟩ (.slice (some ad9) bs.length c9)).setCell ⟨p3, 1, none⟩ (.slice b9 qs9.length d9) = ww5 at *
              go_wp2_with fail
              refine (l1Once_any p a n cap 3 _ C10).mono ?_
              rintro e w8 ⟨o, rfl, C11, g11⟩
              replace V3n := V3n.grown g11 (by omega)
              replace V0n := V0n.grown g11 (by omega)
              replace D10 := D10.curs g11 (by omega)
              replace G10 := grownBy_trans G10 g11
              clear C10 g11
              cases o with
              | false =>
                have HD9 : Hid (DkR (w.heap.size + 1) w8 (.slice (some ad9) bs.length c9) (.slice b9 qs9.length d9) vs9 bs qs9) := D10
                have QL1 : Hid (qs9.length + (j - 1) ≤ 5) := QL.out.1
                have QL2 : Hid (uptoQ qs9 qs9.length ≤ 65 * qs9.length) := QL.out.2
                clear D10 QL
                go_wp2
                go_roundw
                case rel => exact ⟨j - 1, ad9, c9, b9, d9, vs9, bs, qs9, by go_num, by omega, hbl, QL1, QL2, HD9, HV9, N9, V3n, V0n, C11, G10⟩
                case measure => simp [intOf]; omega
              | true =>
                obtain ⟨y0, y1, yf, _⟩ := id V3n
                go_wp2_with fail
                refine (specSync ad9 b9 c9 d9 vs9 bs qs9 _ D10 HV9.out (by omega) (by have := QL.out; omega)).mono ?_
                rintro e w9 ⟨ad7, c7, b7, d7, vs7, bs7, qs7, rfl, SR, D7, SV7, hb⟩
                have LN := SR.len
                have z9 : w.heap.size + 1 ≤ w8.heap.size := by have := V3n.lt; have := V3n.lo; have := V0n.lt; omega
                have N7 : Hid (∀ u ∈ ((Value.slice (some ad7) bs.length c7) :: (Value.slice b7 qs7.length d7) :: vs7), u.ownBlock ≠ some p3) := D7.nots (.inr V3n.lt)
                have QL1 : Hid (qs7.length + (j - 1) ≤ 5) := by
                  show _ ≤ _
                  have := QL.out
                  rcases SR with ⟨_, _, q⟩ | ⟨_, _, q⟩
                  · rw [q]; simp; omega
                  · rw [q]; omega
                have QL2 : Hid (uptoQ qs7 qs7.length ≤ 65 * qs7.length) := by
                  show _ ≤ _
                  have := QL.out
                  rcases SR with ⟨_, _, q⟩ | ⟨_, _, q⟩
                  · rw [q]; simp [uptoQ]
                  · rw [q]; exact this.2
                have HV7 : Hid (SomeV vs7) := SV7
                have HBL : Hid (bs7.length = m * 64) := LN.trans hbl.out
                replace D7 := D7.base z9
                replace V3n := V3n.below hb
                replace V0n := V0n.below hb
                replace C11 := C11.below hb
                replace G10 := grown_below G10 hb G10.size
                clear hb SR SV7 D10 y0 y1 yf QL
                rw [← LN] at D7 N7 ⊢
                clear LN
                have gq : w9.grownBy ((w9.setCell ⟨p3, 0, none⟩ (.slice (some ad7) bs7.length c7)).setCell ⟨p3, 1, none⟩ (.slice b7 qs7.length d7)) (some p3) := grownBy_setCell (p := ⟨p3, 1, none⟩) (grownBy_setCell (p := ⟨p3, 0, none⟩) (grownBy_refl _ _) rfl _) rfl _
                have V3m := V3n.put (.slice (some ad7) bs7.length c7) (.slice b7 qs7.length d7)
                have V0m := V0n.grown gq (by omega)
                have C12 := C11.keptR gq (fun e => by injection e with e; omega) (fun b off e hn e2 => by have := HLO.out b off e hn; injection e2 with e2; omega)
                have G12 := grown_low G10 gq (fun q e => by injection e with e; omega)
                have HD12 : Hid (DkR (w.heap.size + 1) ((w9.setCell ⟨p3, 0, none⟩ (.slice (some ad7) bs7.length c7)).setCell ⟨p3, 1, none⟩ (.slice b7 qs7.length d7)) (.slice (some ad7) bs7.length c7) (.slice b7 qs7.length d7) vs7 bs7 qs7) := D7.kept gq (fun k hk e => N7.out _ (List.mem_cons_self ..) (hk.trans e.symm)) (fun k hk e => N7.out _ (List.mem_cons_of_mem _ (List.mem_cons_self ..)) (hk.trans e.symm)) (fun y hy k hk e => N7.out y (List.mem_cons_of_mem _ (List.mem_cons_of_mem _ hy)) (hk.trans e.symm))
                obtain ⟨y0, y1, yf, _⟩ := id V3n
                clear gq V3n V0n C11 G10 D7
                go_wp2
                go_roundw
                case rel => exact ⟨j - 1, ad7, c7, b7, d7, vs7, bs7, qs7, by go_num, by omega, HBL, QL1, QL2, HD12, HV7, N7, V3m, V0m, C12, G12⟩
                case measure => simp [intOf]; omega
    · obtain rfl : j = 0 := by omega
      go_wp2_with fail
      refine (l1Below_any p a n cap 20 _ HC.out).mono ?_
      rintro e w5 ⟨v, rfl, v0, v1, C5, g5⟩
      have D := HD.out.curs g5 (by omega)
      replace V3 := V3.grown g5 (by omega)
      replace V0 := V0.grown g5 (by omega)
      have G5 := grownBy_trans HG.out g5
      have QU : Hid (qs.length ≤ 5 ∧ uptoQ qs qs.length ≤ 325) := by show _ ∧ _; have := hql.out; have := hup.out; omega
      clear v1 g5 HD HC HG
      obtain ⟨g9, ead, _, _⟩ := D.row.at2 (j := 0) (by rw [hbl.out]; omega)
      injection ead with ead
      subst ead
      obtain ⟨cfx, cmx⟩ := D.row.caps
      unfold maxLen at cmx
      have g9l : w.heap.size + 1 ≤ g9 := (D.lts.1 g9 rfl).1
      have g9n : g9 ≠ p3 := fun e => HN.out _ (List.mem_cons_self ..) (by rw [← e]; rfl)
      by_cases e0 : v = 0
      · subst e0
        have hlt : (1 : Int) ≤ (bs.length : Int) := by have := hbl.out; omega
        have SN : SeesB w5 (some ⟨g9, 1, none⟩) (c - 1) (bs.drop 1) := by
          have S := D.row.seesB
          refine ⟨by simp; omega, by unfold maxLen; omega, fun hn => ⟨g9, 1, rfl, fun i hi => ?_⟩⟩
          obtain ⟨b, off, e, hc⟩ := S.cells (by intro e; rw [e] at hn; simp at hn)
          injection e with e
          injection e with e1 e2
          subst e1 e2
          rw [List.getElem?_drop, Nat.add_comm 1 i]
          have := hc (i + 1) (by simp at hi; omega)
          rw [Nat.zero_add] at this
          exact this
        have DD : DkD (w.heap.size + 1) w5 (some ⟨g9, 1, none⟩) (c - 1) a2 c2 vs (bs.drop 1) qs := ⟨SN, D.que, HSV.out, by simp; omega, by have := QU.out; omega, by have := QU.out; omega, (fun ok => absurd ok.1 (by simp; have := hbl.out; omega)), fun b off e => by injection e with e; injection e with e1 e2; omega⟩
        have DL1 : Hid ((bs.drop 1).length = bs.length - 1) := by show _ = _; simp
        have hcn : ¬ c = 1 := by have := hbl.out; omega
        have hl1 : 1 ≤ bs.length := by omega
        clear SN D
        have g6 : w5.grownBy (w5.setCell ⟨p3, 0, none⟩ (.slice (some ⟨g9, 1, none⟩) (bs.length - 1) (c - 1))) (some p3) := grownBy_setCell (p := ⟨p3, 0, none⟩) (grownBy_refl _ _) rfl _
        have V3b : Box2 w.heap.size (w5.setCell ⟨p3, 0, none⟩ (.slice (some ⟨g9, 1, none⟩) (bs.length - 1) (c - 1))) p3 (.slice (some ⟨g9, 1, none⟩) (bs.length - 1) (c - 1)) (.slice a2 qs.length c2) := ⟨cell_same V3.c0 _, (cell_other (.inr (by simp)) _).trans V3.c1, fun o => (World.frozen?_setCell ..).trans (V3.fr o), V3.lo⟩
        have V0b := V0.grown g6 (by omega)
        have C6 := C5.keptR g6 (fun e => by injection e with e; omega) (fun b off e hn e2 => by have := HLO.out b off e hn; injection e2 with e2; omega)
        have G6 := grown_low G5 g6 (fun q e => by injection e with e; omega)
        have DD6 : DkD (w.heap.size + 1) (w5.setCell ⟨p3, 0, none⟩ (.slice (some ⟨g9, 1, none⟩) (bs.length - 1) (c - 1))) (some ⟨g9, 1, none⟩) (c - 1) a2 c2 vs (bs.drop 1) qs := by
          have q3 : ∀ k, (Value.slice a2 qs.length c2).ownBlock = some k → some p3 ≠ some k := fun k hk e => HN.out _ (List.mem_cons_of_mem _ (List.mem_cons_self ..)) (by rw [hk, ← e])
          have q4 : ∀ u ∈ vs, ∀ k, u.ownBlock = some k → some p3 ≠ some k := fun u hu k hk e => HN.out u (List.mem_cons_of_mem _ (List.mem_cons_of_mem _ hu)) (by rw [hk, ← e])
          exact ⟨DD.sees.kept g6 (fun b off e => by injection e with e; injection e with e1 e2; omega), DD.que.kept g6 q3 q4, DD.smv, DD.len, DD.qlen, DD.up, (fun ok => absurd ok.1 (by simp; have := hbl.out; omega)), DD.lob⟩
        obtain ⟨y0, y1, yf, _⟩ := id V3
        go_upto_region 15 with fail
        clear y0 y1 yf V3 V0 C5 G5 DD g6
        generalize w5.setCell ⟨p3, 0, none⟩ (.slice (some ⟨g9, 1, none⟩) (bs.length - 1) (c - 1)) = W6 at *
        have gq : W6.grownBy ((W6.setCell ⟨w.heap.size, 0, none⟩ (.slice (some ⟨g9, 1, none⟩) (bs.length - 1) (c - 1))).setCell ⟨w.heap.size, 1, none⟩ (.slice a2 qs.length c2)) (some w.heap.size) := grownBy_setCell (p := ⟨w.heap.size, 1, none⟩) (grownBy_setCell (p := ⟨w.heap.size, 0, none⟩) (grownBy_refl _ _) rfl _) rfl _
        have DF := (DD6.kept gq (by omega)).base (lo' := w.heap.size) (by omega)
        have CF := C6.keptR gq (fun e => by injection e with e; omega) (fun b off e hn e2 => by have := HLO.out b off e hn; injection e2 with e2; omega)
        have GF := grown_low G6 gq (fun q e => by injection e with e; omega)
        have r0 := (V0b.put (.slice (some ⟨g9, 1, none⟩) (bs.length - 1) (c - 1)) (.slice a2 qs.length c2)).c0
        have r1 := (V0b.put (.slice (some ⟨g9, 1, none⟩) (bs.length - 1) (c - 1)) (.slice a2 qs.length c2)).c1
        obtain ⟨y0, y1, yf, _⟩ := id V3b
        obtain ⟨q0, q1, qf, _⟩ := id V0b
        clear gq V3b V0b C6 G6 DD6
        go_wp2
        exact bodyPost_ret (v := .agg #[(.slice (some ⟨g9, 1, none⟩) (bs.length - 1) (c - 1)), (.slice a2 qs.length c2)]) (by simp [results, Tryd.results13, go_sem, r0, r1]) rfl ⟨_, _, _, _, vs, bs.drop 1, qs, by rw [DL1.out], DF, CF, GF⟩
      · by_cases e1 : v = 1
        · subst e1
          go_upto_region 12 with fail
          have bd := ((Below.refl w5.heap.size w5).drew : Below w5.heap.size w5 _)
          replace D := D.below bd
          replace C5 := C5.below bd
          replace G5 := grown_below G5 bd G5.size
          replace V3 := V3.below bd
          replace V0 := V0.below bd
          have hvl : Hid (vs.length = qs.length) := D.que.len
          clear bd
          refine wp_region_held_drew (S := fun _ => True) (by kernel_rfl) trivial (fun hHeld => ?_)
          clear hHeld
          revert D V3 V0 C5 G5
          generalize w5.drew = ww0
          intro D C5 G5 V3 V0
          refine takeW (i := 0) (by simp only [List.getElem?_toArray, List.getElem?_cons_zero]; exact rfl) (by kernel_rfl) (by kernel_rfl) (by kernel_rfl) (by exact fun _ _ _ h => h) (by rfl) (by intro wq hSw; go_simp <;> with_reducible rfl) (by exact trivial) ?_
          try simp only [Act.put, List.setIfInBounds_toArray, List.set_cons_zero, List.set_cons_succ]
          refine takeW (i := 2) (by simp only [List.getElem?_toArray, List.getElem?_cons_succ, List.getElem?_cons_zero]; exact rfl) (by kernel_rfl) (by kernel_rfl) (by kernel_rfl) (by exact fun _ _ _ h => h) (by rfl) (by intro wq hSw; go_simp <;> with_reducible rfl) (by exact trivial) ?_
          try simp only [Act.put, List.setIfInBounds_toArray, List.set_cons_zero, List.set_cons_succ]
          refine takeW (i := 5) (by simp only [List.getElem?_toArray, List.getElem?_cons_succ, List.getElem?_cons_zero]; exact rfl) (by kernel_rfl) (by kernel_rfl) (by kernel_rfl) (by exact fun _ _ _ h => h) (by rfl) (by intro wq hSw; go_simp <;> with_reducible rfl) (by exact trivial) ?_
          try simp only [Act.put, List.setIfInBounds_toArray, List.set_cons_zero, List.set_cons_succ]
          refine takeW (i := 6) (by simp only [List.getElem?_toArray, List.getElem?_cons_succ, List.getElem?_cons_zero]; exact rfl) (by kernel_rfl) (by kernel_rfl) (by kernel_rfl) (by exact fun _ _ _ h => h) (by rfl) (by intro wq hSw; go_simp <;> with_reducible rfl) (by exact trivial) ?_
          try simp only [Act.put, List.setIfInBounds_toArray, List.set_cons_zero, List.set_cons_succ]
          refine wpAnyH_ready (rs := [1, 3, 7]) (by kernel_rfl) (by simp) (AllReadyH.cons (by simp only [List.getElem?_toArray, List.getElem?_cons_succ, List.getElem?_cons_zero]; exact rfl) (fun K hK => ?_) (AllReadyH.cons (by simp only [List.getElem?_toArray, List.getElem?_cons_succ, List.getElem?_cons_zero]; exact rfl) (fun K hK => ?_) (AllReadyH.cons (by simp only [List.getElem?_toArray, List.getElem?_cons_succ, List.getElem?_cons_zero]; exact rfl) (fun K hK => ?_) AllReadyH.nil)))
          focus
            have y1 := V3.c1
            go_simp
            refine hK.out _ _ trivial (fun hHeld => ?_)
            clear hK K hHeld y1
            try simp only [Act.put, List.setIfInBounds_toArray, List.set_cons_zero, List.set_cons_succ]
            refine wpAnyH_ready (rs := [3, 7]) (by kernel_rfl) (by simp) (AllReadyH.cons (by simp only [List.getElem?_toArray, List.getElem?_cons_succ, List.getElem?_cons_zero]; exact rfl) (fun K hK => ?_) (AllReadyH.cons (by simp only [List.getElem?_toArray, List.getElem?_cons_succ, List.getElem?_cons_zero]; exact rfl) (fun K hK => ?_) AllReadyH.nil))
            focus
              go_simp
              have bn := below1 ww0 (.cells #[.int .i64 (-1), .int .i64 0, .int .i64 9] 3)
              have I3 : ∀ j, j < 3 → ∃ z : Int, (ww0.alloc (.cells #[.int .i64 (-1), .int .i64 0, .int .i64 9] 3)).cell? ⟨ww0.heap.size, 0 + j, none⟩ = some (.int .i64 z) := fun j hj => by
                rcases (show j = 0 ∨ j = 1 ∨ j = 2 by omega) with rfl | rfl | rfl
                · exact ⟨_, cell_new _ _ _ 0 rfl⟩
                · exact ⟨_, cell_new _ _ _ 1 rfl⟩
                · exact ⟨_, cell_new _ _ _ 2 rfl⟩
              have z3p : w.heap.size + 1 ≤ ww0.heap.size := by have := V3.lt; have := V0.lt; omega
              replace V3 := V3.below bn
              replace V0 := V0.below bn
              replace D := D.below bn
              replace C5 := C5.below bn
              replace G5 := grown_below G5 bn G5.size
              refine hK.out _ _ trivial (fun hHeld => ?_)
              clear hK K hHeld bn
              try simp only [Act.put, List.setIfInBounds_toArray, List.set_cons_zero, List.set_cons_succ]
              generalize hz3 : ww0.heap.size = z3 at *
              generalize ww0.alloc (.cells #[.int .i64 (-1), .int .i64 0, .int .i64 9] 3) = ww1 at *
              refine wpAnyH_ready (rs := [4, 7]) (by kernel_rfl) (by simp) (AllReadyH.cons (by simp only [List.getElem?_toArray, List.getElem?_cons_succ, List.getElem?_cons_zero]; exact rfl) (fun K hK => ?_) (AllReadyH.cons (by simp only [List.getElem?_toArray, List.getElem?_cons_succ, List.getElem?_cons_zero]; exact rfl) (fun K hK => ?_) AllReadyH.nil))
              focus
                go_simp
                refine (l1Int_any p a n cap z3 0 3 3 _ C5 (by omega) (by omega) I3 (by omega)).mono ?_
                rintro e ww2 ⟨j4, hj4, x4, hc4, rfl, C7, g4⟩
                replace V3 := V3.grown g4 (by omega)
                replace V0 := V0.grown g4 (by omega)
                replace D := D.curs g4 (by omega)
                replace G5 := grownBy_trans G5 g4
                replace C5 := C7
                refine hK.out _ _ trivial (fun hHeld => ?_)
                clear hK K hHeld g4 I3 hc4 hj4 C7
                try simp only [Act.put, List.setIfInBounds_toArray, List.set_cons_zero, List.set_cons_succ]
                refine wpAnyH_ready (rs := [7]) (by kernel_rfl) (by simp) (AllReadyH.cons (by simp only [List.getElem?_toArray, List.getElem?_cons_succ, List.getElem?_cons_zero]; exact rfl) (fun K hK => ?_) AllReadyH.nil)
                go_simp
                have bn := below1 ww2 (.cells #[.int .i64 64, .int .i64 63] 3)
                have I7 : ∀ j (hj : j < [(64 : Int), 63].length), (ww2.alloc (.cells #[.int .i64 64, .int .i64 63] 3)).cell? ⟨ww2.heap.size, 0 + j, none⟩ = some (.int .i64 [(64 : Int), 63][j]) := fun j hj => by
                  have hj2 : j < 2 := hj
                  rcases (show j = 0 ∨ j = 1 by omega) with rfl | rfl
                  · exact cell_new _ _ _ 0 rfl
                  · exact cell_new _ _ _ 1 rfl
                have z7p : w.heap.size + 1 ≤ ww2.heap.size := by have := V3.lt; have := V0.lt; omega
                replace V3 := V3.below bn
                replace V0 := V0.below bn
                replace D := D.below bn
                replace C5 := C5.below bn
                replace G5 := grown_below G5 bn G5.size
                refine hK.out _ _ trivial (fun hHeld => ?_)
                clear hK K hHeld bn
                try simp only [Act.put, List.setIfInBounds_toArray, List.set_cons_zero, List.set_cons_succ]
                generalize hz7 : ww2.heap.size = z7 at *
                generalize ww2.alloc (.cells #[.int .i64 64, .int .i64 63] 3) = ww3 at *
                refine wpAnyH_ready (rs := [8]) (by kernel_rfl) (by simp) (AllReadyH.cons (by simp only [List.getElem?_toArray, List.getElem?_cons_succ, List.getElem?_cons_zero]; exact rfl) (fun K hK => ?_) AllReadyH.nil)
                go_simp
                refine (l1Int_list p a n cap [64, 63] z7 2 _ C5 (by decide) (by decide) I7 (by omega)).mono ?_
                rintro e ww4 ⟨x8, hx8, rfl, C7, g4⟩
                replace V3 := V3.grown g4 (by omega)
                replace V0 := V0.grown g4 (by omega)
                replace D := D.curs g4 (by omega)
                replace G5 := grownBy_trans G5 g4
                replace C5 := C7
                obtain ⟨k8, hk8, hk64⟩ : ∃ k : Nat, x8 = (k : Int) ∧ k ≤ 64 := by
                  simp at hx8
                  rcases hx8 with e | e
                  · exact ⟨64, e, by omega⟩
                  · exact ⟨63, e, by omega⟩
                subst hk8
                refine hK.out _ _ trivial (fun hHeld => ?_)
                clear hK K hHeld g4 I7 C7 hx8
                try simp only [Act.put, List.setIfInBounds_toArray, List.set_cons_zero, List.set_cons_succ]
                refine wpAnyH_ready (rs := [9]) (by kernel_rfl) (by simp) (AllReadyH.cons (by simp only [List.getElem?_toArray, List.getElem?_cons_succ, List.getElem?_cons_zero]; exact rfl) (fun K hK => ?_) AllReadyH.nil)
                go_simp
                refine (l1Bytes_any p a n cap k8 _ C5 (by omega)).mono ?_
                rintro e ww5 ⟨k2, c5, es, rfl, hes, h8e, R2, C7, g4⟩
                have kz2 := (World.ownsRow.lt R2 k2 rfl).1
                have nq : ∀ k, (Value.slice a2 qs.length c2).ownBlock = some k → k < ww4.heap.size := fun k hk => (D.lts.2.1 k hk).2
                have nr : ∀ x ∈ vs, ∀ k, x.ownBlock = some k → k < ww4.heap.size := fun x hx k hk => (D.lts.2.2 x hx k hk).2
                have na : ∀ k, (Value.slice (some ⟨g9, 0, none⟩) bs.length c).ownBlock = some k → k < ww4.heap.size := fun k hk => (D.lts.1 k hk).2
                have hpc : p3 < ww4.heap.size := V3.lt
                have hzc : w.heap.size + 1 ≤ ww4.heap.size := by have := V3.lt; have := V0.lt; omega
                have hz2 := g4.size
                replace V3 := V3.grown g4 (by omega)
                replace V0 := V0.grown g4 (by omega)
                replace D := D.curs g4 (by omega)
                replace G5 := grownBy_trans G5 g4
                replace C5 := C7
                have HES : Hid (es.length = k8) := hes
                replace R2 : RowB (w.heap.size + 1) ww5 (.slice (some ⟨k2, 0, none⟩) k8 c5) es := row_base R2 hzc
                refine hK.out _ _ trivial (fun hHeld => ?_)
                clear hK K hHeld g4 C7 h8e hes
                try simp only [Act.put, List.setIfInBounds_toArray, List.set_cons_zero, List.set_cons_succ]
                generalize hzc9 : ww4.heap.size = zc at *
                refine takeW (i := 10) (by simp only [List.getElem?_toArray, List.getElem?_cons_succ, List.getElem?_cons_zero]; exact rfl) (by kernel_rfl) (by kernel_rfl) (by kernel_rfl) (by exact fun _ _ _ h => h) (by rfl) (by intro wq hSw; go_simp <;> with_reducible rfl) (by exact trivial) ?_
                try simp only [Act.put, List.setIfInBounds_toArray, List.set_cons_zero, List.set_cons_succ]
                refine wpAnyH_ready (rs := [11]) (by kernel_rfl) (by simp) (AllReadyH.cons (by simp only [List.getElem?_toArray, List.getElem?_cons_succ, List.getElem?_cons_zero]; exact rfl) (fun K hK => ?_) AllReadyH.nil)
                go_simp
                have bn := below1 ww5 (.cells #[.int .i64 x4, (.slice (some ⟨k2, 0, none⟩) k8 c5)] 34)
                have NW := two_newW ww5 34 (.int .i64 x4) (.slice (some ⟨k2, 0, none⟩) k8 c5)
                have ulo : k2 < ww5.heap.size := (World.ownsRow.lt R2 k2 rfl).2
                have hz3' := bn.size
                replace V3 := V3.below bn
                replace V0 := V0.below bn
                replace D := D.below bn
                replace C5 := C5.below bn
                replace G5 := grown_below G5 bn G5.size
                replace R2 := R2.below bn
                refine hK.out _ _ trivial (fun hHeld => ?_)
                clear hK K hHeld bn
                try simp only [Act.put, List.setIfInBounds_toArray, List.set_cons_zero, List.set_cons_succ]
                generalize hzA : ww5.heap.size = zA at *
                generalize ww5.alloc (.cells #[.int .i64 x4, (.slice (some ⟨k2, 0, none⟩) k8 c5)] 34) = ww6 at *
              rotate_left 1
              focus
                go_simp
                have bn := below1 ww1 (.cells #[.int .i64 64, .int .i64 63] 3)
                have I7 : ∀ j (hj : j < [(64 : Int), 63].length), (ww1.alloc (.cells #[.int .i64 64, .int .i64 63] 3)).cell? ⟨ww1.heap.size, 0 + j, none⟩ = some (.int .i64 [(64 : Int), 63][j]) := fun j hj => by
                  have hj2 : j < 2 := hj
                  rcases (show j = 0 ∨ j = 1 by omega) with rfl | rfl
                  · exact cell_new _ _ _ 0 rfl
                  · exact cell_new _ _ _ 1 rfl
                have z7p : w.heap.size + 1 ≤ ww1.heap.size := by have := V3.lt; have := V0.lt; omega
                replace V3 := V3.below bn
                replace V0 := V0.below bn
                replace D := D.below bn
                replace C5 := C5.below bn
                replace G5 := grown_below G5 bn G5.size
                replace I3 := fun j hj => (I3 j hj).imp fun _ hz => bat bn hz
                refine hK.out _ _ trivial (fun hHeld => ?_)
                clear hK K hHeld bn
                try simp only [Act.put, List.setIfInBounds_toArray, List.set_cons_zero, List.set_cons_succ]
                generalize hz7 : ww1.heap.size = z7 at *
                generalize ww1.alloc (.cells #[.int .i64 64, .int .i64 63] 3) = ww2 at *
                refine wpAnyH_ready (rs := [4]) (by kernel_rfl) (by simp) (AllReadyH.cons (by simp only [List.getElem?_toArray, List.getElem?_cons_succ, List.getElem?_cons_zero]; exact rfl) (fun K hK => ?_) AllReadyH.nil)
                go_simp
                refine (l1Int_any p a n cap z3 0 3 3 _ C5 (by omega) (by omega) I3 (by omega)).mono ?_
                rintro e ww3 ⟨j4, hj4, x4, hc4, rfl, C7, g4⟩
                replace V3 := V3.grown g4 (by omega)
                replace V0 := V0.grown g4 (by omega)
                replace D := D.curs g4 (by omega)
                replace G5 := grownBy_trans G5 g4
                replace I7 := fun j hj => cell_drawnD g4 (I7 j hj) (by omega)
                replace C5 := C7
                refine hK.out _ _ trivial (fun hHeld => ?_)
                clear hK K hHeld g4 I3 hc4 hj4 C7
                try simp only [Act.put, List.setIfInBounds_toArray, List.set_cons_zero, List.set_cons_succ]
                refine wpAnyH_ready (rs := [8]) (by kernel_rfl) (by simp) (AllReadyH.cons (by simp only [List.getElem?_toArray, List.getElem?_cons_succ, List.getElem?_cons_zero]; exact rfl) (fun K hK => ?_) AllReadyH.nil)
                go_simp
                refine (l1Int_list p a n cap [64, 63] z7 2 _ C5 (by decide) (by decide) I7 (by omega)).mono ?_
                rintro e ww4 ⟨x8, hx8, rfl, C7, g4⟩
                replace V3 := V3.grown g4 (by omega)
                replace V0 := V0.grown g4 (by omega)
                replace D := D.curs g4 (by omega)
                replace G5 := grownBy_trans G5 g4
                replace C5 := C7
                obtain ⟨k8, hk8, hk64⟩ : ∃ k : Nat, x8 = (k : Int) ∧ k ≤ 64 := by
                  simp at hx8
                  rcases hx8 with e | e
                  · exact ⟨64, e, by omega⟩
                  · exact ⟨63, e, by omega⟩
                subst hk8
                refine hK.out _ _ trivial (fun hHeld => ?_)
                clear hK K hHeld g4 I7 C7 hx8
                try simp only [Act.put, List.setIfInBounds_toArray, List.set_cons_zero, List.set_cons_succ]
                refine wpAnyH_ready (rs := [9]) (by kernel_rfl) (by simp) (AllReadyH.cons (by simp only [List.getElem?_toArray, List.getElem?_cons_succ, List.getElem?_cons_zero]; exact rfl) (fun K hK => ?_) AllReadyH.nil)
                go_simp
                refine (l1Bytes_any p a n cap k8 _ C5 (by omega)).mono ?_
                rintro e ww5 ⟨k2, c5, es, rfl, hes, h8e, R2, C7, g4⟩
                have kz2 := (World.ownsRow.lt R2 k2 rfl).1
                have nq : ∀ k, (Value.slice a2 qs.length c2).ownBlock = some k → k < ww4.heap.size := fun k hk => (D.lts.2.1 k hk).2
                have nr : ∀ x ∈ vs, ∀ k, x.ownBlock = some k → k < ww4.heap.size := fun x hx k hk => (D.lts.2.2 x hx k hk).2
                have na : ∀ k, (Value.slice (some ⟨g9, 0, none⟩) bs.length c).ownBlock = some k → k < ww4.heap.size := fun k hk => (D.lts.1 k hk).2
                have hpc : p3 < ww4.heap.size := V3.lt
                have hzc : w.heap.size + 1 ≤ ww4.heap.size := by have := V3.lt; have := V0.lt; omega
                have hz2 := g4.size
                replace V3 := V3.grown g4 (by omega)
                replace V0 := V0.grown g4 (by omega)
                replace D := D.curs g4 (by omega)
                replace G5 := grownBy_trans G5 g4
                replace C5 := C7
                have HES : Hid (es.length = k8) := hes
                replace R2 : RowB (w.heap.size + 1) ww5 (.slice (some ⟨k2, 0, none⟩) k8 c5) es := row_base R2 hzc
                refine hK.out _ _ trivial (fun hHeld => ?_)
                clear hK K hHeld g4 C7 h8e hes
                try simp only [Act.put, List.setIfInBounds_toArray, List.set_cons_zero, List.set_cons_succ]
                generalize hzc9 : ww4.heap.size = zc at *
                refine takeW (i := 10) (by simp only [List.getElem?_toArray, List.getElem?_cons_succ, List.getElem?_cons_zero]; exact rfl) (by kernel_rfl) (by kernel_rfl) (by kernel_rfl) (by exact fun _ _ _ h => h) (by rfl) (by intro wq hSw; go_simp <;> with_reducible rfl) (by exact trivial) ?_
                try simp only [Act.put, List.setIfInBounds_toArray, List.set_cons_zero, List.set_cons_succ]
                refine wpAnyH_ready (rs := [11]) (by kernel_rfl) (by simp) (AllReadyH.cons (by simp only [List.getElem?_toArray, List.getElem?_cons_succ, List.getElem?_cons_zero]; exact rfl) (fun K hK => ?_) AllReadyH.nil)
                go_simp
                have bn := below1 ww5 (.cells #[.int .i64 x4, (.slice (some ⟨k2, 0, none⟩) k8 c5)] 34)
                have NW := two_newW ww5 34 (.int .i64 x4) (.slice (some ⟨k2, 0, none⟩) k8 c5)
                have ulo : k2 < ww5.heap.size := (World.ownsRow.lt R2 k2 rfl).2
                have hz3' := bn.size
                replace V3 := V3.below bn
                replace V0 := V0.below bn
                replace D := D.below bn
                replace C5 := C5.below bn
                replace G5 := grown_below G5 bn G5.size
                replace R2 := R2.below bn
                refine hK.out _ _ trivial (fun hHeld => ?_)
                clear hK K hHeld bn
                try simp only [Act.put, List.setIfInBounds_toArray, List.set_cons_zero, List.set_cons_succ]
                generalize hzA : ww5.heap.size = zA at *
                generalize ww5.alloc (.cells #[.int .i64 x4, (.slice (some ⟨k2, 0, none⟩) k8 c5)] 34) = ww6 at *
              rotate_left 1
            rotate_left 2
            focus
              go_simp
              have bn := below1 ww0 (.cells #[.int .i64 64, .int .i64 63] 3)
              have I7 : ∀ j (hj : j < [(64 : Int), 63].length), (ww0.alloc (.cells #[.int .i64 64, .int .i64 63] 3)).cell? ⟨ww0.heap.size, 0 + j, none⟩ = some (.int .i64 [(64 : Int), 63][j]) := fun j hj => by
                have hj2 : j < 2 := hj
                rcases (show j = 0 ∨ j = 1 by omega) with rfl | rfl
                · exact cell_new _ _ _ 0 rfl
                · exact cell_new _ _ _ 1 rfl
              have z7p : w.heap.size + 1 ≤ ww0.heap.size := by have := V3.lt; have := V0.lt; omega
              replace V3 := V3.below bn
              replace V0 := V0.below bn
              replace D := D.below bn
              replace C5 := C5.below bn
              replace G5 := grown_below G5 bn G5.size
              refine hK.out _ _ trivial (fun hHeld => ?_)
              clear hK K hHeld bn
              try simp only [Act.put, List.setIfInBounds_toArray, List.set_cons_zero, List.set_cons_succ]
              generalize hz7 : ww0.heap.size = z7 at *
              generalize ww0.alloc (.cells #[.int .i64 64, .int .i64 63] 3) = ww1 at *
              refine wpAnyH_ready (rs := [3]) (by kernel_rfl) (by simp) (AllReadyH.cons (by simp only [List.getElem?_toArray, List.getElem?_cons_succ, List.getElem?_cons_zero]; exact rfl) (fun K hK => ?_) AllReadyH.nil)
              go_simp
              have bn := below1 ww1 (.cells #[.int .i64 (-1), .int .i64 0, .int .i64 9] 3)
              have I3 : ∀ j, j < 3 → ∃ z : Int, (ww1.alloc (.cells #[.int .i64 (-1), .int .i64 0, .int .i64 9] 3)).cell? ⟨ww1.heap.size, 0 + j, none⟩ = some (.int .i64 z) := fun j hj => by
                rcases (show j = 0 ∨ j = 1 ∨ j = 2 by omega) with rfl | rfl | rfl
                · exact ⟨_, cell_new _ _ _ 0 rfl⟩
                · exact ⟨_, cell_new _ _ _ 1 rfl⟩
                · exact ⟨_, cell_new _ _ _ 2 rfl⟩
              have z3p : w.heap.size + 1 ≤ ww1.heap.size := by have := V3.lt; have := V0.lt; omega
              replace V3 := V3.below bn
              replace V0 := V0.below bn
              replace D := D.below bn
              replace C5 := C5.below bn
              replace G5 := grown_below G5 bn G5.size
              replace I7 := fun j hj => bat bn (I7 j hj)
              refine hK.out _ _ trivial (fun hHeld => ?_)
              clear hK K hHeld bn
              try simp only [Act.put, List.setIfInBounds_toArray, List.set_cons_zero, List.set_cons_succ]
              generalize hz3 : ww1.heap.size = z3 at *
              generalize ww1.alloc (.cells #[.int .i64 (-1), .int .i64 0, .int .i64 9] 3) = ww2 at *
              refine wpAnyH_ready (rs := [4]) (by kernel_rfl) (by simp) (AllReadyH.cons (by simp only [List.getElem?_toArray, List.getElem?_cons_succ, List.getElem?_cons_zero]; exact rfl) (fun K hK => ?_) AllReadyH.nil)
              go_simp
              refine (l1Int_any p a n cap z3 0 3 3 _ C5 (by omega) (by omega) I3 (by omega)).mono ?_
              rintro e ww3 ⟨j4, hj4, x4, hc4, rfl, C7, g4⟩
              replace V3 := V3.grown g4 (by omega)
              replace V0 := V0.grown g4 (by omega)
              replace D := D.curs g4 (by omega)
              replace G5 := grownBy_trans G5 g4
              replace I7 := fun j hj => cell_drawnD g4 (I7 j hj) (by omega)
              replace C5 := C7
              refine hK.out _ _ trivial (fun hHeld => ?_)
              clear hK K hHeld g4 I3 hc4 hj4 C7
              try simp only [Act.put, List.setIfInBounds_toArray, List.set_cons_zero, List.set_cons_succ]
              refine wpAnyH_ready (rs := [8]) (by kernel_rfl) (by simp) (AllReadyH.cons (by simp only [List.getElem?_toArray, List.getElem?_cons_succ, List.getElem?_cons_zero]; exact rfl) (fun K hK => ?_) AllReadyH.nil)
              go_simp
              refine (l1Int_list p a n cap [64, 63] z7 2 _ C5 (by decide) (by decide) I7 (by omega)).mono ?_
              rintro e ww4 ⟨x8, hx8, rfl, C7, g4⟩
              replace V3 := V3.grown g4 (by omega)
              replace V0 := V0.grown g4 (by omega)
              replace D := D.curs g4 (by omega)
              replace G5 := grownBy_trans G5 g4
              replace C5 := C7
              obtain ⟨k8, hk8, hk64⟩ : ∃ k : Nat, x8 = (k : Int) ∧ k ≤ 64 := by
                simp at hx8
                rcases hx8 with e | e
                · exact ⟨64, e, by omega⟩
                · exact ⟨63, e, by omega⟩
              subst hk8
              refine hK.out _ _ trivial (fun hHeld => ?_)
              clear hK K hHeld g4 I7 C7 hx8
              try simp only [Act.put, List.setIfInBounds_toArray, List.set_cons_zero, List.set_cons_succ]
              refine wpAnyH_ready (rs := [9]) (by kernel_rfl) (by simp) (AllReadyH.cons (by simp only [List.getElem?_toArray, List.getElem?_cons_succ, List.getElem?_cons_zero]; exact rfl) (fun K hK => ?_) AllReadyH.nil)
              go_simp
              refine (l1Bytes_any p a n cap k8 _ C5 (by omega)).mono ?_
              rintro e ww5 ⟨k2, c5, es, rfl, hes, h8e, R2, C7, g4⟩
              have kz2 := (World.ownsRow.lt R2 k2 rfl).1
              have nq : ∀ k, (Value.slice a2 qs.length c2).ownBlock = some k → k < ww4.heap.size := fun k hk => (D.lts.2.1 k hk).2
              have nr : ∀ x ∈ vs, ∀ k, x.ownBlock = some k → k < ww4.heap.size := fun x hx k hk => (D.lts.2.2 x hx k hk).2
              have na : ∀ k, (Value.slice (some ⟨g9, 0, none⟩) bs.length c).ownBlock = some k → k < ww4.heap.size := fun k hk => (D.lts.1 k hk).2
              have hpc : p3 < ww4.heap.size := V3.lt
              have hzc : w.heap.size + 1 ≤ ww4.heap.size := by have := V3.lt; have := V0.lt; omega
              have hz2 := g4.size
              replace V3 := V3.grown g4 (by omega)
              replace V0 := V0.grown g4 (by omega)
              replace D := D.curs g4 (by omega)
              replace G5 := grownBy_trans G5 g4
              replace C5 := C7
              have HES : Hid (es.length = k8) := hes
              replace R2 : RowB (w.heap.size + 1) ww5 (.slice (some ⟨k2, 0, none⟩) k8 c5) es := row_base R2 hzc
              refine hK.out _ _ trivial (fun hHeld => ?_)
              clear hK K hHeld g4 C7 h8e hes
              try simp only [Act.put, List.setIfInBounds_toArray, List.set_cons_zero, List.set_cons_succ]
              generalize hzc9 : ww4.heap.size = zc at *
              refine takeW (i := 10) (by simp only [List.getElem?_toArray, List.getElem?_cons_succ, List.getElem?_cons_zero]; exact rfl) (by kernel_rfl) (by kernel_rfl) (by kernel_rfl) (by exact fun _ _ _ h => h) (by rfl) (by intro wq hSw; go_simp <;> with_reducible rfl) (by exact trivial) ?_
              try simp only [Act.put, List.setIfInBounds_toArray, List.set_cons_zero, List.set_cons_succ]
              refine wpAnyH_ready (rs := [11]) (by kernel_rfl) (by simp) (AllReadyH.cons (by simp only [List.getElem?_toArray, List.getElem?_cons_succ, List.getElem?_cons_zero]; exact rfl) (fun K hK => ?_) AllReadyH.nil)
              go_simp
              have bn := below1 ww5 (.cells #[.int .i64 x4, (.slice (some ⟨k2, 0, none⟩) k8 c5)] 34)
              have NW := two_newW ww5 34 (.int .i64 x4) (.slice (some ⟨k2, 0, none⟩) k8 c5)
              have ulo : k2 < ww5.heap.size := (World.ownsRow.lt R2 k2 rfl).2
              have hz3' := bn.size
              replace V3 := V3.below bn
              replace V0 := V0.below bn
              replace D := D.below bn
              replace C5 := C5.below bn
              replace G5 := grown_below G5 bn G5.size
              replace R2 := R2.below bn
              refine hK.out _ _ trivial (fun hHeld => ?_)
              clear hK K hHeld bn
              try simp only [Act.put, List.setIfInBounds_toArray, List.set_cons_zero, List.set_cons_succ]
              generalize hzA : ww5.heap.size = zA at *
              generalize ww5.alloc (.cells #[.int .i64 x4, (.slice (some ⟨k2, 0, none⟩) k8 c5)] 34) = ww6 at *
            rotate_left 1
          rotate_left 3
          focus
            go_simp
            have bn := below1 ww0 (.cells #[.int .i64 (-1), .int .i64 0, .int .i64 9] 3)
            have I3 : ∀ j, j < 3 → ∃ z : Int, (ww0.alloc (.cells #[.int .i64 (-1), .int .i64 0, .int .i64 9] 3)).cell? ⟨ww0.heap.size, 0 + j, none⟩ = some (.int .i64 z) := fun j hj => by
              rcases (show j = 0 ∨ j = 1 ∨ j = 2 by omega) with rfl | rfl | rfl
              · exact ⟨_, cell_new _ _ _ 0 rfl⟩
              · exact ⟨_, cell_new _ _ _ 1 rfl⟩
              · exact ⟨_, cell_new _ _ _ 2 rfl⟩
            have z3p : w.heap.size + 1 ≤ ww0.heap.size := by have := V3.lt; have := V0.lt; omega
            replace V3 := V3.below bn
            replace V0 := V0.below bn
            replace D := D.below bn
            replace C5 := C5.below bn
            replace G5 := grown_below G5 bn G5.size
            refine hK.out _ _ trivial (fun hHeld => ?_)
            clear hK K hHeld bn
            try simp only [Act.put, List.setIfInBounds_toArray, List.set_cons_zero, List.set_cons_succ]
            generalize hz3 : ww0.heap.size = z3 at *
            generalize ww0.alloc (.cells #[.int .i64 (-1), .int .i64 0, .int .i64 9] 3) = ww1 at *
            refine wpAnyH_ready (rs := [1, 4, 7]) (by kernel_rfl) (by simp) (AllReadyH.cons (by simp only [List.getElem?_toArray, List.getElem?_cons_succ, List.getElem?_cons_zero]; exact rfl) (fun K hK => ?_) (AllReadyH.cons (by simp only [List.getElem?_toArray, List.getElem?_cons_succ, List.getElem?_cons_zero]; exact rfl) (fun K hK => ?_) (AllReadyH.cons (by simp only [List.getElem?_toArray, List.getElem?_cons_succ, List.getElem?_cons_zero]; exact rfl) (fun K hK => ?_) AllReadyH.nil)))
            focus
              have y1 := V3.c1
              go_simp
              refine hK.out _ _ trivial (fun hHeld => ?_)
              clear hK K hHeld y1
              try simp only [Act.put, List.setIfInBounds_toArray, List.set_cons_zero, List.set_cons_succ]
              refine wpAnyH_ready (rs := [4, 7]) (by kernel_rfl) (by simp) (AllReadyH.cons (by simp only [List.getElem?_toArray, List.getElem?_cons_succ, List.getElem?_cons_zero]; exact rfl) (fun K hK => ?_) (AllReadyH.cons (by simp only [List.getElem?_toArray, List.getElem?_cons_succ, List.getElem?_cons_zero]; exact rfl) (fun K hK => ?_) AllReadyH.nil))
              focus
                go_simp
                refine (l1Int_any p a n cap z3 0 3 3 _ C5 (by omega) (by omega) I3 (by omega)).mono ?_
                rintro e ww2 ⟨j4, hj4, x4, hc4, rfl, C7, g4⟩
                replace V3 := V3.grown g4 (by omega)
                replace V0 := V0.grown g4 (by omega)
                replace D := D.curs g4 (by omega)
                replace G5 := grownBy_trans G5 g4
                replace C5 := C7
                refine hK.out _ _ trivial (fun hHeld => ?_)
                clear hK K hHeld g4 I3 hc4 hj4 C7
                try simp only [Act.put, List.setIfInBounds_toArray, List.set_cons_zero, List.set_cons_succ]
                refine wpAnyH_ready (rs := [7]) (by kernel_rfl) (by simp) (AllReadyH.cons (by simp only [List.getElem?_toArray, List.getElem?_cons_succ, List.getElem?_cons_zero]; exact rfl) (fun K hK => ?_) AllReadyH.nil)
                go_simp
                have bn := below1 ww2 (.cells #[.int .i64 64, .int .i64 63] 3)
                have I7 : ∀ j (hj : j < [(64 : Int), 63].length), (ww2.alloc (.cells #[.int .i64 64, .int .i64 63] 3)).cell? ⟨ww2.heap.size, 0 + j, none⟩ = some (.int .i64 [(64 : Int), 63][j]) := fun j hj => by
                  have hj2 : j < 2 := hj
                  rcases (show j = 0 ∨ j = 1 by omega) with rfl | rfl
                  · exact cell_new _ _ _ 0 rfl
                  · exact cell_new _ _ _ 1 rfl
                have z7p : w.heap.size + 1 ≤ ww2.heap.size := by have := V3.lt; have := V0.lt; omega
                replace V3 := V3.below bn
                replace V0 := V0.below bn
                replace D := D.below bn
                replace C5 := C5.below bn
                replace G5 := grown_below G5 bn G5.size
                refine hK.out _ _ trivial (fun hHeld => ?_)
                clear hK K hHeld bn
                try simp only [Act.put, List.setIfInBounds_toArray, List.set_cons_zero, List.set_cons_succ]
                generalize hz7 : ww2.heap.size = z7 at *
                generalize ww2.alloc (.cells #[.int .i64 64, .int .i64 63] 3) = ww3 at *
                refine wpAnyH_ready (rs := [8]) (by kernel_rfl) (by simp) (AllReadyH.cons (by simp only [List.getElem?_toArray, List.getElem?_cons_succ, List.getElem?_cons_zero]; exact rfl) (fun K hK => ?_) AllReadyH.nil)
                go_simp
                refine (l1Int_list p a n cap [64, 63] z7 2 _ C5 (by decide) (by decide) I7 (by omega)).mono ?_
                rintro e ww4 ⟨x8, hx8, rfl, C7, g4⟩
                replace V3 := V3.grown g4 (by omega)
                replace V0 := V0.grown g4 (by omega)
                replace D := D.curs g4 (by omega)
                replace G5 := grownBy_trans G5 g4
                replace C5 := C7
                obtain ⟨k8, hk8, hk64⟩ : ∃ k : Nat, x8 = (k : Int) ∧ k ≤ 64 := by
                  simp at hx8
                  rcases hx8 with e | e
                  · exact ⟨64, e, by omega⟩
                  · exact ⟨63, e, by omega⟩
                subst hk8
                refine hK.out _ _ trivial (fun hHeld => ?_)
                clear hK K hHeld g4 I7 C7 hx8
                try simp only [Act.put, List.setIfInBounds_toArray, List.set_cons_zero, List.set_cons_succ]
                refine wpAnyH_ready (rs := [9]) (by kernel_rfl) (by simp) (AllReadyH.cons (by simp only [List.getElem?_toArray, List.getElem?_cons_succ, List.getElem?_cons_zero]; exact rfl) (fun K hK => ?_) AllReadyH.nil)
                go_simp
                refine (l1Bytes_any p a n cap k8 _ C5 (by omega)).mono ?_
                rintro e ww5 ⟨k2, c5, es, rfl, hes, h8e, R2, C7, g4⟩
                have kz2 := (World.ownsRow.lt R2 k2 rfl).1
                have nq : ∀ k, (Value.slice a2 qs.length c2).ownBlock = some k → k < ww4.heap.size := fun k hk => (D.lts.2.1 k hk).2
                have nr : ∀ x ∈ vs, ∀ k, x.ownBlock = some k → k < ww4.heap.size := fun x hx k hk => (D.lts.2.2 x hx k hk).2
                have na : ∀ k, (Value.slice (some ⟨g9, 0, none⟩) bs.length c).ownBlock = some k → k < ww4.heap.size := fun k hk => (D.lts.1 k hk).2
                have hpc : p3 < ww4.heap.size := V3.lt
                have hzc : w.heap.size + 1 ≤ ww4.heap.size := by have := V3.lt; have := V0.lt; omega
                have hz2 := g4.size
                replace V3 := V3.grown g4 (by omega)
                replace V0 := V0.grown g4 (by omega)
                replace D := D.curs g4 (by omega)
                replace G5 := grownBy_trans G5 g4
                replace C5 := C7
                have HES : Hid (es.length = k8) := hes
                replace R2 : RowB (w.heap.size + 1) ww5 (.slice (some ⟨k2, 0, none⟩) k8 c5) es := row_base R2 hzc
                refine hK.out _ _ trivial (fun hHeld => ?_)
                clear hK K hHeld g4 C7 h8e hes
                try simp only [Act.put, List.setIfInBounds_toArray, List.set_cons_zero, List.set_cons_succ]
                generalize hzc9 : ww4.heap.size = zc at *
                refine takeW (i := 10) (by simp only [List.getElem?_toArray, List.getElem?_cons_succ, List.getElem?_cons_zero]; exact rfl) (by kernel_rfl) (by kernel_rfl) (by kernel_rfl) (by exact fun _ _ _ h => h) (by rfl) (by intro wq hSw; go_simp <;> with_reducible rfl) (by exact trivial) ?_
                try simp only [Act.put, List.setIfInBounds_toArray, List.set_cons_zero, List.set_cons_succ]
                refine wpAnyH_ready (rs := [11]) (by kernel_rfl) (by simp) (AllReadyH.cons (by simp only [List.getElem?_toArray, List.getElem?_cons_succ, List.getElem?_cons_zero]; exact rfl) (fun K hK => ?_) AllReadyH.nil)
                go_simp
                have bn := below1 ww5 (.cells #[.int .i64 x4, (.slice (some ⟨k2, 0, none⟩) k8 c5)] 34)
                have NW := two_newW ww5 34 (.int .i64 x4) (.slice (some ⟨k2, 0, none⟩) k8 c5)
                have ulo : k2 < ww5.heap.size := (World.ownsRow.lt R2 k2 rfl).2
                have hz3' := bn.size
                replace V3 := V3.below bn
                replace V0 := V0.below bn
                replace D := D.below bn
                replace C5 := C5.below bn
                replace G5 := grown_below G5 bn G5.size
                replace R2 := R2.below bn
                refine hK.out _ _ trivial (fun hHeld => ?_)
                clear hK K hHeld bn
                try simp only [Act.put, List.setIfInBounds_toArray, List.set_cons_zero, List.set_cons_succ]
                generalize hzA : ww5.heap.size = zA at *
                generalize ww5.alloc (.cells #[.int .i64 x4, (.slice (some ⟨k2, 0, none⟩) k8 c5)] 34) = ww6 at *
              rotate_left 1
              focus
                go_simp
                have bn := below1 ww1 (.cells #[.int .i64 64, .int .i64 63] 3)
                have I7 : ∀ j (hj : j < [(64 : Int), 63].length), (ww1.alloc (.cells #[.int .i64 64, .int .i64 63] 3)).cell? ⟨ww1.heap.size, 0 + j, none⟩ = some (.int .i64 [(64 : Int), 63][j]) := fun j hj => by
                  have hj2 : j < 2 := hj
                  rcases (show j = 0 ∨ j = 1 by omega) with rfl | rfl
                  · exact cell_new _ _ _ 0 rfl
                  · exact cell_new _ _ _ 1 rfl
                have z7p : w.heap.size + 1 ≤ ww1.heap.size := by have := V3.lt; have := V0.lt; omega
                replace V3 := V3.below bn
                replace V0 := V0.below bn
                replace D := D.below bn
                replace C5 := C5.below bn
                replace G5 := grown_below G5 bn G5.size
                replace I3 := fun j hj => (I3 j hj).imp fun _ hz => bat bn hz
                refine hK.out _ _ trivial (fun hHeld => ?_)
                clear hK K hHeld bn
                try simp only [Act.put, List.setIfInBounds_toArray, List.set_cons_zero, List.set_cons_succ]
                generalize hz7 : ww1.heap.size = z7 at *
                generalize ww1.alloc (.cells #[.int .i64 64, .int .i64 63] 3) = ww2 at *
                refine wpAnyH_ready (rs := [4]) (by kernel_rfl) (by simp) (AllReadyH.cons (by simp only [List.getElem?_toArray, List.getElem?_cons_succ, List.getElem?_cons_zero]; exact rfl) (fun K hK => ?_) AllReadyH.nil)
                go_simp
                refine (l1Int_any p a n cap z3 0 3 3 _ C5 (by omega) (by omega) I3 (by omega)).mono ?_
                rintro e ww3 ⟨j4, hj4, x4, hc4, rfl, C7, g4⟩
                replace V3 := V3.grown g4 (by omega)
                replace V0 := V0.grown g4 (by omega)
                replace D := D.curs g4 (by omega)
                replace G5 := grownBy_trans G5 g4
                replace I7 := fun j hj => cell_drawnD g4 (I7 j hj) (by omega)
                replace C5 := C7
                refine hK.out _ _ trivial (fun hHeld => ?_)
                clear hK K hHeld g4 I3 hc4 hj4 C7
                try simp only [Act.put, List.setIfInBounds_toArray, List.set_cons_zero, List.set_cons_succ]
                refine wpAnyH_ready (rs := [8]) (by kernel_rfl) (by simp) (AllReadyH.cons (by simp only [List.getElem?_toArray, List.getElem?_cons_succ, List.getElem?_cons_zero]; exact rfl) (fun K hK => ?_) AllReadyH.nil)
                go_simp
                refine (l1Int_list p a n cap [64, 63] z7 2 _ C5 (by decide) (by decide) I7 (by omega)).mono ?_
                rintro e ww4 ⟨x8, hx8, rfl, C7, g4⟩
                replace V3 := V3.grown g4 (by omega)
                replace V0 := V0.grown g4 (by omega)
                replace D := D.curs g4 (by omega)
                replace G5 := grownBy_trans G5 g4
                replace C5 := C7
                obtain ⟨k8, hk8, hk64⟩ : ∃ k : Nat, x8 = (k : Int) ∧ k ≤ 64 := by
                  simp at hx8
                  rcases hx8 with e | e
                  · exact ⟨64, e, by omega⟩
                  · exact ⟨63, e, by omega⟩
                subst hk8
                refine hK.out _ _ trivial (fun hHeld => ?_)
                clear hK K hHeld g4 I7 C7 hx8
                try simp only [Act.put, List.setIfInBounds_toArray, List.set_cons_zero, List.set_cons_succ]
                refine wpAnyH_ready (rs := [9]) (by kernel_rfl) (by simp) (AllReadyH.cons (by simp only [List.getElem?_toArray, List.getElem?_cons_succ, List.getElem?_cons_zero]; exact rfl) (fun K hK => ?_) AllReadyH.nil)
                go_simp
                refine (l1Bytes_any p a n cap k8 _ C5 (by omega)).mono ?_
                rintro e ww5 ⟨k2, c5, es, rfl, hes, h8e, R2, C7, g4⟩
                have kz2 := (World.ownsRow.lt R2 k2 rfl).1
                have nq : ∀ k, (Value.slice a2 qs.length c2).ownBlock = some k → k < ww4.heap.size := fun k hk => (D.lts.2.1 k hk).2
                have nr : ∀ x ∈ vs, ∀ k, x.ownBlock = some k → k < ww4.heap.size := fun x hx k hk => (D.lts.2.2 x hx k hk).2
                have na : ∀ k, (Value.slice (some ⟨g9, 0, none⟩) bs.length c).ownBlock = some k → k < ww4.heap.size := fun k hk => (D.lts.1 k hk).2
                have hpc : p3 < ww4.heap.size := V3.lt
                have hzc : w.heap.size + 1 ≤ ww4.heap.size := by have := V3.lt; have := V0.lt; omega
                have hz2 := g4.size
                replace V3 := V3.grown g4 (by omega)
                replace V0 := V0.grown g4 (by omega)
                replace D := D.curs g4 (by omega)
                replace G5 := grownBy_trans G5 g4
                replace C5 := C7
                have HES : Hid (es.length = k8) := hes
                replace R2 : RowB (w.heap.size + 1) ww5 (.slice (some ⟨k2, 0, none⟩) k8 c5) es := row_base R2 hzc
                refine hK.out _ _ trivial (fun hHeld => ?_)
                clear hK K hHeld g4 C7 h8e hes
                try simp only [Act.put, List.setIfInBounds_toArray, List.set_cons_zero, List.set_cons_succ]
                generalize hzc9 : ww4.heap.size = zc at *
                refine takeW (i := 10) (by simp only [List.getElem?_toArray, List.getElem?_cons_succ, List.getElem?_cons_zero]; exact rfl) (by kernel_rfl) (by kernel_rfl) (by kernel_rfl) (by exact fun _ _ _ h => h) (by rfl) (by intro wq hSw; go_simp <;> with_reducible rfl) (by exact trivial) ?_
                try simp only [Act.put, List.setIfInBounds_toArray, List.set_cons_zero, List.set_cons_succ]
                refine wpAnyH_ready (rs := [11]) (by kernel_rfl) (by simp) (AllReadyH.cons (by simp only [List.getElem?_toArray, List.getElem?_cons_succ, List.getElem?_cons_zero]; exact rfl) (fun K hK => ?_) AllReadyH.nil)
                go_simp
                have bn := below1 ww5 (.cells #[.int .i64 x4, (.slice (some ⟨k2, 0, none⟩) k8 c5)] 34)
                have NW := two_newW ww5 34 (.int .i64 x4) (.slice (some ⟨k2, 0, none⟩) k8 c5)
                have ulo : k2 < ww5.heap.size := (World.ownsRow.lt R2 k2 rfl).2
                have hz3' := bn.size
                replace V3 := V3.below bn
                replace V0 := V0.below bn
                replace D := D.below bn
                replace C5 := C5.below bn
                replace G5 := grown_below G5 bn G5.size
                replace R2 := R2.below bn
                refine hK.out _ _ trivial (fun hHeld => ?_)
                clear hK K hHeld bn
                try simp only [Act.put, List.setIfInBounds_toArray, List.set_cons_zero, List.set_cons_succ]
                generalize hzA : ww5.heap.size = zA at *
                generalize ww5.alloc (.cells #[.int .i64 x4, (.slice (some ⟨k2, 0, none⟩) k8 c5)] 34) = ww6 at *
              rotate_left 1
            rotate_left 2
            focus
              go_simp
              refine (l1Int_any p a n cap z3 0 3 3 _ C5 (by omega) (by omega) I3 (by omega)).mono ?_
              rintro e ww2 ⟨j4, hj4, x4, hc4, rfl, C7, g4⟩
              replace V3 := V3.grown g4 (by omega)
              replace V0 := V0.grown g4 (by omega)
              replace D := D.curs g4 (by omega)
              replace G5 := grownBy_trans G5 g4
              replace C5 := C7
              refine hK.out _ _ trivial (fun hHeld => ?_)
              clear hK K hHeld g4 I3 hc4 hj4 C7
              try simp only [Act.put, List.setIfInBounds_toArray, List.set_cons_zero, List.set_cons_succ]
              refine wpAnyH_ready (rs := [1, 7]) (by kernel_rfl) (by simp) (AllReadyH.cons (by simp only [List.getElem?_toArray, List.getElem?_cons_succ, List.getElem?_cons_zero]; exact rfl) (fun K hK => ?_) (AllReadyH.cons (by simp only [List.getElem?_toArray, List.getElem?_cons_succ, List.getElem?_cons_zero]; exact rfl) (fun K hK => ?_) AllReadyH.nil))
              focus
                have y1 := V3.c1
                go_simp
                refine hK.out _ _ trivial (fun hHeld => ?_)
                clear hK K hHeld y1
                try simp only [Act.put, List.setIfInBounds_toArray, List.set_cons_zero, List.set_cons_succ]
                refine wpAnyH_ready (rs := [7]) (by kernel_rfl) (by simp) (AllReadyH.cons (by simp only [List.getElem?_toArray, List.getElem?_cons_succ, List.getElem?_cons_zero]; exact rfl) (fun K hK => ?_) AllReadyH.nil)
                go_simp
                have bn := below1 ww2 (.cells #[.int .i64 64, .int .i64 63] 3)
                have I7 : ∀ j (hj : j < [(64 : Int), 63].length), (ww2.alloc (.cells #[.int .i64 64, .int .i64 63] 3)).cell? ⟨ww2.heap.size, 0 + j, none⟩ = some (.int .i64 [(64 : Int), 63][j]) := fun j hj => by
                  have hj2 : j < 2 := hj
                  rcases (show j = 0 ∨ j = 1 by omega) with rfl | rfl
                  · exact cell_new _ _ _ 0 rfl
                  · exact cell_new _ _ _ 1 rfl
                have z7p : w.heap.size + 1 ≤ ww2.heap.size := by have := V3.lt; have := V0.lt; omega
                replace V3 := V3.below bn
                replace V0 := V0.below bn
                replace D := D.below bn
                replace C5 := C5.below bn
                replace G5 := grown_below G5 bn G5.size
                refine hK.out _ _ trivial (fun hHeld => ?_)
                clear hK K hHeld bn
                try simp only [Act.put, List.setIfInBounds_toArray, List.set_cons_zero, List.set_cons_succ]
                generalize hz7 : ww2.heap.size = z7 at *
                generalize ww2.alloc (.cells #[.int .i64 64, .int .i64 63] 3) = ww3 at *
                refine wpAnyH_ready (rs := [8]) (by kernel_rfl) (by simp) (AllReadyH.cons (by simp only [List.getElem?_toArray, List.getElem?_cons_succ, List.getElem?_cons_zero]; exact rfl) (fun K hK => ?_) AllReadyH.nil)
                go_simp
                refine (l1Int_list p a n cap [64, 63] z7 2 _ C5 (by decide) (by decide) I7 (by omega)).mono ?_
                rintro e ww4 ⟨x8, hx8, rfl, C7, g4⟩
                replace V3 := V3.grown g4 (by omega)
                replace V0 := V0.grown g4 (by omega)
                replace D := D.curs g4 (by omega)
                replace G5 := grownBy_trans G5 g4
                replace C5 := C7
                obtain ⟨k8, hk8, hk64⟩ : ∃ k : Nat, x8 = (k : Int) ∧ k ≤ 64 := by
                  simp at hx8
                  rcases hx8 with e | e
                  · exact ⟨64, e, by omega⟩
                  · exact ⟨63, e, by omega⟩
                subst hk8
                refine hK.out _ _ trivial (fun hHeld => ?_)
                clear hK K hHeld g4 I7 C7 hx8
                try simp only [Act.put, List.setIfInBounds_toArray, List.set_cons_zero, List.set_cons_succ]
                refine wpAnyH_ready (rs := [9]) (by kernel_rfl) (by simp) (AllReadyH.cons (by simp only [List.getElem?_toArray, List.getElem?_cons_succ, List.getElem?_cons_zero]; exact rfl) (fun K hK => ?_) AllReadyH.nil)
                go_simp
                refine (l1Bytes_any p a n cap k8 _ C5 (by omega)).mono ?_
                rintro e ww5 ⟨k2, c5, es, rfl, hes, h8e, R2, C7, g4⟩
                have kz2 := (World.ownsRow.lt R2 k2 rfl).1
                have nq : ∀ k, (Value.slice a2 qs.length c2).ownBlock = some k → k < ww4.heap.size := fun k hk => (D.lts.2.1 k hk).2
                have nr : ∀ x ∈ vs, ∀ k, x.ownBlock = some k → k < ww4.heap.size := fun x hx k hk => (D.lts.2.2 x hx k hk).2
                have na : ∀ k, (Value.slice (some ⟨g9, 0, none⟩) bs.length c).ownBlock = some k → k < ww4.heap.size := fun k hk => (D.lts.1 k hk).2
                have hpc : p3 < ww4.heap.size := V3.lt
                have hzc : w.heap.size + 1 ≤ ww4.heap.size := by have := V3.lt; have := V0.lt; omega
                have hz2 := g4.size
                replace V3 := V3.grown g4 (by omega)
                replace V0 := V0.grown g4 (by omega)
                replace D := D.curs g4 (by omega)
                replace G5 := grownBy_trans G5 g4
                replace C5 := C7
                have HES : Hid (es.length = k8) := hes
                replace R2 : RowB (w.heap.size + 1) ww5 (.slice (some ⟨k2, 0, none⟩) k8 c5) es := row_base R2 hzc
                refine hK.out _ _ trivial (fun hHeld => ?_)
                clear hK K hHeld g4 C7 h8e hes
                try simp only [Act.put, List.setIfInBounds_toArray, List.set_cons_zero, List.set_cons_succ]
                generalize hzc9 : ww4.heap.size = zc at *
                refine takeW (i := 10) (by simp only [List.getElem?_toArray, List.getElem?_cons_succ, List.getElem?_cons_zero]; exact rfl) (by kernel_rfl) (by kernel_rfl) (by kernel_rfl) (by exact fun _ _ _ h => h) (by rfl) (by intro wq hSw; go_simp <;> with_reducible rfl) (by exact trivial) ?_
                try simp only [Act.put, List.setIfInBounds_toArray, List.set_cons_zero, List.set_cons_succ]
                refine wpAnyH_ready (rs := [11]) (by kernel_rfl) (by simp) (AllReadyH.cons (by simp only [List.getElem?_toArray, List.getElem?_cons_succ, List.getElem?_cons_zero]; exact rfl) (fun K hK => ?_) AllReadyH.nil)
                go_simp
                have bn := below1 ww5 (.cells #[.int .i64 x4, (.slice (some ⟨k2, 0, none⟩) k8 c5)] 34)
                have NW := two_newW ww5 34 (.int .i64 x4) (.slice (some ⟨k2, 0, none⟩) k8 c5)
                have ulo : k2 < ww5.heap.size := (World.ownsRow.lt R2 k2 rfl).2
                have hz3' := bn.size
                replace V3 := V3.below bn
                replace V0 := V0.below bn
                replace D := D.below bn
                replace C5 := C5.below bn
                replace G5 := grown_below G5 bn G5.size
                replace R2 := R2.below bn
                refine hK.out _ _ trivial (fun hHeld => ?_)
                clear hK K hHeld bn
                try simp only [Act.put, List.setIfInBounds_toArray, List.set_cons_zero, List.set_cons_succ]
                generalize hzA : ww5.heap.size = zA at *
                generalize ww5.alloc (.cells #[.int .i64 x4, (.slice (some ⟨k2, 0, none⟩) k8 c5)] 34) = ww6 at *
              rotate_left 1
              focus
                go_simp
                have bn := below1 ww2 (.cells #[.int .i64 64, .int .i64 63] 3)
                have I7 : ∀ j (hj : j < [(64 : Int), 63].length), (ww2.alloc (.cells #[.int .i64 64, .int .i64 63] 3)).cell? ⟨ww2.heap.size, 0 + j, none⟩ = some (.int .i64 [(64 : Int), 63][j]) := fun j hj => by
                  have hj2 : j < 2 := hj
                  rcases (show j = 0 ∨ j = 1 by omega) with rfl | rfl
                  · exact cell_new _ _ _ 0 rfl
                  · exact cell_new _ _ _ 1 rfl
                have z7p : w.heap.size + 1 ≤ ww2.heap.size := by have := V3.lt; have := V0.lt; omega
                replace V3 := V3.below bn
                replace V0 := V0.below bn
                replace D := D.below bn
                replace C5 := C5.below bn
                replace G5 := grown_below G5 bn G5.size
                refine hK.out _ _ trivial (fun hHeld => ?_)
                clear hK K hHeld bn
                try simp only [Act.put, List.setIfInBounds_toArray, List.set_cons_zero, List.set_cons_succ]
                generalize hz7 : ww2.heap.size = z7 at *
                generalize ww2.alloc (.cells #[.int .i64 64, .int .i64 63] 3) = ww3 at *
                refine wpAnyH_ready (rs := [1, 8]) (by kernel_rfl) (by simp) (AllReadyH.cons (by simp only [List.getElem?_toArray, List.getElem?_cons_succ, List.getElem?_cons_zero]; exact rfl) (fun K hK => ?_) (AllReadyH.cons (by simp only [List.getElem?_toArray, List.getElem?_cons_succ, List.getElem?_cons_zero]; exact rfl) (fun K hK => ?_) AllReadyH.nil))
                focus
                  have y1 := V3.c1
                  go_simp
                  refine hK.out _ _ trivial (fun hHeld => ?_)
                  clear hK K hHeld y1
                  try simp only [Act.put, List.setIfInBounds_toArray, List.set_cons_zero, List.set_cons_succ]
                  refine wpAnyH_ready (rs := [8]) (by kernel_rfl) (by simp) (AllReadyH.cons (by simp only [List.getElem?_toArray, List.getElem?_cons_succ, List.getElem?_cons_zero]; exact rfl) (fun K hK => ?_) AllReadyH.nil)
                  go_simp
                  refine (l1Int_list p a n cap [64, 63] z7 2 _ C5 (by decide) (by decide) I7 (by omega)).mono ?_
                  rintro e ww4 ⟨x8, hx8, rfl, C7, g4⟩
                  replace V3 := V3.grown g4 (by omega)
                  replace V0 := V0.grown g4 (by omega)
                  replace D := D.curs g4 (by omega)
                  replace G5 := grownBy_trans G5 g4
                  replace C5 := C7
                  obtain ⟨k8, hk8, hk64⟩ : ∃ k : Nat, x8 = (k : Int) ∧ k ≤ 64 := by
                    simp at hx8
                    rcases hx8 with e | e
                    · exact ⟨64, e, by omega⟩
                    · exact ⟨63, e, by omega⟩
                  subst hk8
                  refine hK.out _ _ trivial (fun hHeld => ?_)
                  clear hK K hHeld g4 I7 C7 hx8
                  try simp only [Act.put, List.setIfInBounds_toArray, List.set_cons_zero, List.set_cons_succ]
                  refine wpAnyH_ready (rs := [9]) (by kernel_rfl) (by simp) (AllReadyH.cons (by simp only [List.getElem?_toArray, List.getElem?_cons_succ, List.getElem?_cons_zero]; exact rfl) (fun K hK => ?_) AllReadyH.nil)
                  go_simp
                  refine (l1Bytes_any p a n cap k8 _ C5 (by omega)).mono ?_
                  rintro e ww5 ⟨k2, c5, es, rfl, hes, h8e, R2, C7, g4⟩
                  have kz2 := (World.ownsRow.lt R2 k2 rfl).1
                  have nq : ∀ k, (Value.slice a2 qs.length c2).ownBlock = some k → k < ww4.heap.size := fun k hk => (D.lts.2.1 k hk).2
                  have nr : ∀ x ∈ vs, ∀ k, x.ownBlock = some k → k < ww4.heap.size := fun x hx k hk => (D.lts.2.2 x hx k hk).2
                  have na : ∀ k, (Value.slice (some ⟨g9, 0, none⟩) bs.length c).ownBlock = some k → k < ww4.heap.size := fun k hk => (D.lts.1 k hk).2
                  have hpc : p3 < ww4.heap.size := V3.lt
                  have hzc : w.heap.size + 1 ≤ ww4.heap.size := by have := V3.lt; have := V0.lt; omega
                  have hz2 := g4.size
                  replace V3 := V3.grown g4 (by omega)
                  replace V0 := V0.grown g4 (by omega)
                  replace D := D.curs g4 (by omega)
                  replace G5 := grownBy_trans G5 g4
                  replace C5 := C7
                  have HES : Hid (es.length = k8) := hes
                  replace R2 : RowB (w.heap.size + 1) ww5 (.slice (some ⟨k2, 0, none⟩) k8 c5) es := row_base R2 hzc
                  refine hK.out _ _ trivial (fun hHeld => ?_)
                  clear hK K hHeld g4 C7 h8e hes
                  try simp only [Act.put, List.setIfInBounds_toArray, List.set_cons_zero, List.set_cons_succ]
                  generalize hzc9 : ww4.heap.size = zc at *
                  refine takeW (i := 10) (by simp only [List.getElem?_toArray, List.getElem?_cons_succ, List.getElem?_cons_zero]; exact rfl) (by kernel_rfl) (by kernel_rfl) (by kernel_rfl) (by exact fun _ _ _ h => h) (by rfl) (by intro wq hSw; go_simp <;> with_reducible rfl) (by exact trivial) ?_
                  try simp only [Act.put, List.setIfInBounds_toArray, List.set_cons_zero, List.set_cons_succ]
                  refine wpAnyH_ready (rs := [11]) (by kernel_rfl) (by simp) (AllReadyH.cons (by simp only [List.getElem?_toArray, List.getElem?_cons_succ, List.getElem?_cons_zero]; exact rfl) (fun K hK => ?_) AllReadyH.nil)
                  go_simp
                  have bn := below1 ww5 (.cells #[.int .i64 x4, (.slice (some ⟨k2, 0, none⟩) k8 c5)] 34)
                  have NW := two_newW ww5 34 (.int .i64 x4) (.slice (some ⟨k2, 0, none⟩) k8 c5)
                  have ulo : k2 < ww5.heap.size := (World.ownsRow.lt R2 k2 rfl).2
                  have hz3' := bn.size
                  replace V3 := V3.below bn
                  replace V0 := V0.below bn
                  replace D := D.below bn
                  replace C5 := C5.below bn
                  replace G5 := grown_below G5 bn G5.size
                  replace R2 := R2.below bn
                  refine hK.out _ _ trivial (fun hHeld => ?_)
                  clear hK K hHeld bn
                  try simp only [Act.put, List.setIfInBounds_toArray, List.set_cons_zero, List.set_cons_succ]
                  generalize hzA : ww5.heap.size = zA at *
                  generalize ww5.alloc (.cells #[.int .i64 x4, (.slice (some ⟨k2, 0, none⟩) k8 c5)] 34) = ww6 at *
                rotate_left 1
                focus
                  go_simp
                  refine (l1Int_list p a n cap [64, 63] z7 2 _ C5 (by decide) (by decide) I7 (by omega)).mono ?_
                  rintro e ww4 ⟨x8, hx8, rfl, C7, g4⟩
                  replace V3 := V3.grown g4 (by omega)
                  replace V0 := V0.grown g4 (by omega)
                  replace D := D.curs g4 (by omega)
                  replace G5 := grownBy_trans G5 g4
                  replace C5 := C7
                  obtain ⟨k8, hk8, hk64⟩ : ∃ k : Nat, x8 = (k : Int) ∧ k ≤ 64 := by
                    simp at hx8
                    rcases hx8 with e | e
                    · exact ⟨64, e, by omega⟩
                    · exact ⟨63, e, by omega⟩
                  subst hk8
                  refine hK.out _ _ trivial (fun hHeld => ?_)
                  clear hK K hHeld g4 I7 C7 hx8
                  try simp only [Act.put, List.setIfInBounds_toArray, List.set_cons_zero, List.set_cons_succ]
                  refine wpAnyH_ready (rs := [1, 9]) (by kernel_rfl) (by simp) (AllReadyH.cons (by simp only [List.getElem?_toArray, List.getElem?_cons_succ, List.getElem?_cons_zero]; exact rfl) (fun K hK => ?_) (AllReadyH.cons (by simp only [List.getElem?_toArray, List.getElem?_cons_succ, List.getElem?_cons_zero]; exact rfl) (fun K hK => ?_) AllReadyH.nil))
                  focus
                    have y1 := V3.c1
                    go_simp
                    refine hK.out _ _ trivial (fun hHeld => ?_)
                    clear hK K hHeld y1
                    try simp only [Act.put, List.setIfInBounds_toArray, List.set_cons_zero, List.set_cons_succ]
                    refine wpAnyH_ready (rs := [9]) (by kernel_rfl) (by simp) (AllReadyH.cons (by simp only [List.getElem?_toArray, List.getElem?_cons_succ, List.getElem?_cons_zero]; exact rfl) (fun K hK => ?_) AllReadyH.nil)
                    go_simp
                    refine (l1Bytes_any p a n cap k8 _ C5 (by omega)).mono ?_
                    rintro e ww5 ⟨k2, c5, es, rfl, hes, h8e, R2, C7, g4⟩
                    have kz2 := (World.ownsRow.lt R2 k2 rfl).1
                    have nq : ∀ k, (Value.slice a2 qs.length c2).ownBlock = some k → k < ww4.heap.size := fun k hk => (D.lts.2.1 k hk).2
                    have nr : ∀ x ∈ vs, ∀ k, x.ownBlock = some k → k < ww4.heap.size := fun x hx k hk => (D.lts.2.2 x hx k hk).2
                    have na : ∀ k, (Value.slice (some ⟨g9, 0, none⟩) bs.length c).ownBlock = some k → k < ww4.heap.size := fun k hk => (D.lts.1 k hk).2
                    have hpc : p3 < ww4.heap.size := V3.lt
                    have hzc : w.heap.size + 1 ≤ ww4.heap.size := by have := V3.lt; have := V0.lt; omega
                    have hz2 := g4.size
                    replace V3 := V3.grown g4 (by omega)
                    replace V0 := V0.grown g4 (by omega)
                    replace D := D.curs g4 (by omega)
                    replace G5 := grownBy_trans G5 g4
                    replace C5 := C7
                    have HES : Hid (es.length = k8) := hes
                    replace R2 : RowB (w.heap.size + 1) ww5 (.slice (some ⟨k2, 0, none⟩) k8 c5) es := row_base R2 hzc
                    refine hK.out _ _ trivial (fun hHeld => ?_)
                    clear hK K hHeld g4 C7 h8e hes
                    try simp only [Act.put, List.setIfInBounds_toArray, List.set_cons_zero, List.set_cons_succ]
                    generalize hzc9 : ww4.heap.size = zc at *
                    refine takeW (i := 10) (by simp only [List.getElem?_toArray, List.getElem?_cons_succ, List.getElem?_cons_zero]; exact rfl) (by kernel_rfl) (by kernel_rfl) (by kernel_rfl) (by exact fun _ _ _ h => h) (by rfl) (by intro wq hSw; go_simp <;> with_reducible rfl) (by exact trivial) ?_
                    try simp only [Act.put, List.setIfInBounds_toArray, List.set_cons_zero, List.set_cons_succ]
                    refine wpAnyH_ready (rs := [11]) (by kernel_rfl) (by simp) (AllReadyH.cons (by simp only [List.getElem?_toArray, List.getElem?_cons_succ, List.getElem?_cons_zero]; exact rfl) (fun K hK => ?_) AllReadyH.nil)
                    go_simp
                    have bn := below1 ww5 (.cells #[.int .i64 x4, (.slice (some ⟨k2, 0, none⟩) k8 c5)] 34)
                    have NW := two_newW ww5 34 (.int .i64 x4) (.slice (some ⟨k2, 0, none⟩) k8 c5)
                    have ulo : k2 < ww5.heap.size := (World.ownsRow.lt R2 k2 rfl).2
                    have hz3' := bn.size
                    replace V3 := V3.below bn
                    replace V0 := V0.below bn
                    replace D := D.below bn
                    replace C5 := C5.below bn
                    replace G5 := grown_below G5 bn G5.size
                    replace R2 := R2.below bn
                    refine hK.out _ _ trivial (fun hHeld => ?_)
                    clear hK K hHeld bn
                    try simp only [Act.put, List.setIfInBounds_toArray, List.set_cons_zero, List.set_cons_succ]
                    generalize hzA : ww5.heap.size = zA at *
                    generalize ww5.alloc (.cells #[.int .i64 x4, (.slice (some ⟨k2, 0, none⟩) k8 c5)] 34) = ww6 at *
                  rotate_left 1
                  focus
                    go_simp
                    refine (l1Bytes_any p a n cap k8 _ C5 (by omega)).mono ?_
                    rintro e ww5 ⟨k2, c5, es, rfl, hes, h8e, R2, C7, g4⟩
                    have kz2 := (World.ownsRow.lt R2 k2 rfl).1
                    have nq : ∀ k, (Value.slice a2 qs.length c2).ownBlock = some k → k < ww4.heap.size := fun k hk => (D.lts.2.1 k hk).2
                    have nr : ∀ x ∈ vs, ∀ k, x.ownBlock = some k → k < ww4.heap.size := fun x hx k hk => (D.lts.2.2 x hx k hk).2
                    have na : ∀ k, (Value.slice (some ⟨g9, 0, none⟩) bs.length c).ownBlock = some k → k < ww4.heap.size := fun k hk => (D.lts.1 k hk).2
                    have hpc : p3 < ww4.heap.size := V3.lt
                    have hzc : w.heap.size + 1 ≤ ww4.heap.size := by have := V3.lt; have := V0.lt; omega
                    have hz2 := g4.size
                    replace V3 := V3.grown g4 (by omega)
                    replace V0 := V0.grown g4 (by omega)
                    replace D := D.curs g4 (by omega)
                    replace G5 := grownBy_trans G5 g4
                    replace C5 := C7
                    have HES : Hid (es.length = k8) := hes
                    replace R2 : RowB (w.heap.size + 1) ww5 (.slice (some ⟨k2, 0, none⟩) k8 c5) es := row_base R2 hzc
                    refine hK.out _ _ trivial (fun hHeld => ?_)
                    clear hK K hHeld g4 C7 h8e hes
                    try simp only [Act.put, List.setIfInBounds_toArray, List.set_cons_zero, List.set_cons_succ]
                    generalize hzc9 : ww4.heap.size = zc at *
                    refine takeW (i := 10) (by simp only [List.getElem?_toArray, List.getElem?_cons_succ, List.getElem?_cons_zero]; exact rfl) (by kernel_rfl) (by kernel_rfl) (by kernel_rfl) (by exact fun _ _ _ h => h) (by rfl) (by intro wq hSw; go_simp <;> with_reducible rfl) (by exact trivial) ?_
                    try simp only [Act.put, List.setIfInBounds_toArray, List.set_cons_zero, List.set_cons_succ]
                    refine wpAnyH_ready (rs := [1, 11]) (by kernel_rfl) (by simp) (AllReadyH.cons (by simp only [List.getElem?_toArray, List.getElem?_cons_succ, List.getElem?_cons_zero]; exact rfl) (fun K hK => ?_) (AllReadyH.cons (by simp only [List.getElem?_toArray, List.getElem?_cons_succ, List.getElem?_cons_zero]; exact rfl) (fun K hK => ?_) AllReadyH.nil))
                    focus
                      have y1 := V3.c1
                      go_simp
                      refine hK.out _ _ trivial (fun hHeld => ?_)
                      clear hK K hHeld y1
                      try simp only [Act.put, List.setIfInBounds_toArray, List.set_cons_zero, List.set_cons_succ]
                      refine wpAnyH_ready (rs := [11]) (by kernel_rfl) (by simp) (AllReadyH.cons (by simp only [List.getElem?_toArray, List.getElem?_cons_succ, List.getElem?_cons_zero]; exact rfl) (fun K hK => ?_) AllReadyH.nil)
                      go_simp
                      have bn := below1 ww5 (.cells #[.int .i64 x4, (.slice (some ⟨k2, 0, none⟩) k8 c5)] 34)
                      have NW := two_newW ww5 34 (.int .i64 x4) (.slice (some ⟨k2, 0, none⟩) k8 c5)
                      have ulo : k2 < ww5.heap.size := (World.ownsRow.lt R2 k2 rfl).2
                      have hz3' := bn.size
                      replace V3 := V3.below bn
                      replace V0 := V0.below bn
                      replace D := D.below bn
                      replace C5 := C5.below bn
                      replace G5 := grown_below G5 bn G5.size
                      replace R2 := R2.below bn
                      refine hK.out _ _ trivial (fun hHeld => ?_)
                      clear hK K hHeld bn
                      try simp only [Act.put, List.setIfInBounds_toArray, List.set_cons_zero, List.set_cons_succ]
                      generalize hzA : ww5.heap.size = zA at *
                      generalize ww5.alloc (.cells #[.int .i64 x4, (.slice (some ⟨k2, 0, none⟩) k8 c5)] 34) = ww6 at *
                    rotate_left 1
                    focus
                      go_simp
                      have bn := below1 ww5 (.cells #[.int .i64 x4, (.slice (some ⟨k2, 0, none⟩) k8 c5)] 34)
                      have NW := two_newW ww5 34 (.int .i64 x4) (.slice (some ⟨k2, 0, none⟩) k8 c5)
                      have ulo : k2 < ww5.heap.size := (World.ownsRow.lt R2 k2 rfl).2
                      have hz3' := bn.size
                      replace V3 := V3.below bn
                      replace V0 := V0.below bn
                      replace D := D.below bn
                      replace C5 := C5.below bn
                      replace G5 := grown_below G5 bn G5.size
                      replace R2 := R2.below bn
                      refine hK.out _ _ trivial (fun hHeld => ?_)
                      clear hK K hHeld bn
                      try simp only [Act.put, List.setIfInBounds_toArray, List.set_cons_zero, List.set_cons_succ]
                      generalize hzA : ww5.heap.size = zA at *
                      generalize ww5.alloc (.cells #[.int .i64 x4, (.slice (some ⟨k2, 0, none⟩) k8 c5)] 34) = ww6 at *
                      refine wpAnyH_ready (rs := [1]) (by kernel_rfl) (by simp) (AllReadyH.cons (by simp only [List.getElem?_toArray, List.getElem?_cons_succ, List.getElem?_cons_zero]; exact rfl) (fun K hK => ?_) AllReadyH.nil)
                      have y1 := V3.c1
                      go_simp
                      refine hK.out _ _ trivial (fun hHeld => ?_)
                      clear hK K hHeld y1
                      try simp only [Act.put, List.setIfInBounds_toArray, List.set_cons_zero, List.set_cons_succ]
                    rotate_left 1
                  rotate_left 2
                rotate_left 3
              rotate_left 4
            rotate_left 5
            focus
              go_simp
              have bn := below1 ww1 (.cells #[.int .i64 64, .int .i64 63] 3)
              have I7 : ∀ j (hj : j < [(64 : Int), 63].length), (ww1.alloc (.cells #[.int .i64 64, .int .i64 63] 3)).cell? ⟨ww1.heap.size, 0 + j, none⟩ = some (.int .i64 [(64 : Int), 63][j]) := fun j hj => by
                have hj2 : j < 2 := hj
                rcases (show j = 0 ∨ j = 1 by omega) with rfl | rfl
                · exact cell_new _ _ _ 0 rfl
                · exact cell_new _ _ _ 1 rfl
              have z7p : w.heap.size + 1 ≤ ww1.heap.size := by have := V3.lt; have := V0.lt; omega
              replace V3 := V3.below bn
              replace V0 := V0.below bn
              replace D := D.below bn
              replace C5 := C5.below bn
              replace G5 := grown_below G5 bn G5.size
              replace I3 := fun j hj => (I3 j hj).imp fun _ hz => bat bn hz
              refine hK.out _ _ trivial (fun hHeld => ?_)
              clear hK K hHeld bn
              try simp only [Act.put, List.setIfInBounds_toArray, List.set_cons_zero, List.set_cons_succ]
              generalize hz7 : ww1.heap.size = z7 at *
              generalize ww1.alloc (.cells #[.int .i64 64, .int .i64 63] 3) = ww2 at *
              refine wpAnyH_ready (rs := [1, 4]) (by kernel_rfl) (by simp) (AllReadyH.cons (by simp only [List.getElem?_toArray, List.getElem?_cons_succ, List.getElem?_cons_zero]; exact rfl) (fun K hK => ?_) (AllReadyH.cons (by simp only [List.getElem?_toArray, List.getElem?_cons_succ, List.getElem?_cons_zero]; exact rfl) (fun K hK => ?_) AllReadyH.nil))
              focus
                have y1 := V3.c1
                go_simp
                refine hK.out _ _ trivial (fun hHeld => ?_)
                clear hK K hHeld y1
                try simp only [Act.put, List.setIfInBounds_toArray, List.set_cons_zero, List.set_cons_succ]
                refine wpAnyH_ready (rs := [4]) (by kernel_rfl) (by simp) (AllReadyH.cons (by simp only [List.getElem?_toArray, List.getElem?_cons_succ, List.getElem?_cons_zero]; exact rfl) (fun K hK => ?_) AllReadyH.nil)
                go_simp
                refine (l1Int_any p a n cap z3 0 3 3 _ C5 (by omega) (by omega) I3 (by omega)).mono ?_
                rintro e ww3 ⟨j4, hj4, x4, hc4, rfl, C7, g4⟩
                replace V3 := V3.grown g4 (by omega)
                replace V0 := V0.grown g4 (by omega)
                replace D := D.curs g4 (by omega)
                replace G5 := grownBy_trans G5 g4
                replace I7 := fun j hj => cell_drawnD g4 (I7 j hj) (by omega)
                replace C5 := C7
                refine hK.out _ _ trivial (fun hHeld => ?_)
                clear hK K hHeld g4 I3 hc4 hj4 C7
                try simp only [Act.put, List.setIfInBounds_toArray, List.set_cons_zero, List.set_cons_succ]
                refine wpAnyH_ready (rs := [8]) (by kernel_rfl) (by simp) (AllReadyH.cons (by simp only [List.getElem?_toArray, List.getElem?_cons_succ, List.getElem?_cons_zero]; exact rfl) (fun K hK => ?_) AllReadyH.nil)
                go_simp
                refine (l1Int_list p a n cap [64, 63] z7 2 _ C5 (by decide) (by decide) I7 (by omega)).mono ?_
                rintro e ww4 ⟨x8, hx8, rfl, C7, g4⟩
                replace V3 := V3.grown g4 (by omega)
                replace V0 := V0.grown g4 (by omega)
                replace D := D.curs g4 (by omega)
                replace G5 := grownBy_trans G5 g4
                replace C5 := C7
                obtain ⟨k8, hk8, hk64⟩ : ∃ k : Nat, x8 = (k : Int) ∧ k ≤ 64 := by
                  simp at hx8
                  rcases hx8 with e | e
                  · exact ⟨64, e, by omega⟩
                  · exact ⟨63, e, by omega⟩
                subst hk8
                refine hK.out _ _ trivial (fun hHeld => ?_)
                clear hK K hHeld g4 I7 C7 hx8
                try simp only [Act.put, List.setIfInBounds_toArray, List.set_cons_zero, List.set_cons_succ]
                refine wpAnyH_ready (rs := [9]) (by kernel_rfl) (by simp) (AllReadyH.cons (by simp only [List.getElem?_toArray, List.getElem?_cons_succ, List.getElem?_cons_zero]; exact rfl) (fun K hK => ?_) AllReadyH.nil)
                go_simp
                refine (l1Bytes_any p a n cap k8 _ C5 (by omega)).mono ?_
                rintro e ww5 ⟨k2, c5, es, rfl, hes, h8e, R2, C7, g4⟩
                have kz2 := (World.ownsRow.lt R2 k2 rfl).1
                have nq : ∀ k, (Value.slice a2 qs.length c2).ownBlock = some k → k < ww4.heap.size := fun k hk => (D.lts.2.1 k hk).2
                have nr : ∀ x ∈ vs, ∀ k, x.ownBlock = some k → k < ww4.heap.size := fun x hx k hk => (D.lts.2.2 x hx k hk).2
                have na : ∀ k, (Value.slice (some ⟨g9, 0, none⟩) bs.length c).ownBlock = some k → k < ww4.heap.size := fun k hk => (D.lts.1 k hk).2
                have hpc : p3 < ww4.heap.size := V3.lt
                have hzc : w.heap.size + 1 ≤ ww4.heap.size := by have := V3.lt; have := V0.lt; omega
                have hz2 := g4.size
                replace V3 := V3.grown g4 (by omega)
                replace V0 := V0.grown g4 (by omega)
                replace D := D.curs g4 (by omega)
                replace G5 := grownBy_trans G5 g4
                replace C5 := C7
                have HES : Hid (es.length = k8) := hes
                replace R2 : RowB (w.heap.size + 1) ww5 (.slice (some ⟨k2, 0, none⟩) k8 c5) es := row_base R2 hzc
                refine hK.out _ _ trivial (fun hHeld => ?_)
                clear hK K hHeld g4 C7 h8e hes
                try simp only [Act.put, List.setIfInBounds_toArray, List.set_cons_zero, List.set_cons_succ]
                generalize hzc9 : ww4.heap.size = zc at *
                refine takeW (i := 10) (by simp only [List.getElem?_toArray, List.getElem?_cons_succ, List.getElem?_cons_zero]; exact rfl) (by kernel_rfl) (by kernel_rfl) (by kernel_rfl) (by exact fun _ _ _ h => h) (by rfl) (by intro wq hSw; go_simp <;> with_reducible rfl) (by exact trivial) ?_
                try simp only [Act.put, List.setIfInBounds_toArray, List.set_cons_zero, List.set_cons_succ]
                refine wpAnyH_ready (rs := [11]) (by kernel_rfl) (by simp) (AllReadyH.cons (by simp only [List.getElem?_toArray, List.getElem?_cons_succ, List.getElem?_cons_zero]; exact rfl) (fun K hK => ?_) AllReadyH.nil)
                go_simp
                have bn := below1 ww5 (.cells #[.int .i64 x4, (.slice (some ⟨k2, 0, none⟩) k8 c5)] 34)
                have NW := two_newW ww5 34 (.int .i64 x4) (.slice (some ⟨k2, 0, none⟩) k8 c5)
                have ulo : k2 < ww5.heap.size := (World.ownsRow.lt R2 k2 rfl).2
                have hz3' := bn.size
                replace V3 := V3.below bn
                replace V0 := V0.below bn
                replace D := D.below bn
                replace C5 := C5.below bn
                replace G5 := grown_below G5 bn G5.size
                replace R2 := R2.below bn
                refine hK.out _ _ trivial (fun hHeld => ?_)
                clear hK K hHeld bn
                try simp only [Act.put, List.setIfInBounds_toArray, List.set_cons_zero, List.set_cons_succ]
                generalize hzA : ww5.heap.size = zA at *
                generalize ww5.alloc (.cells #[.int .i64 x4, (.slice (some ⟨k2, 0, none⟩) k8 c5)] 34) = ww6 at *
              rotate_left 1
              focus
                go_simp
                refine (l1Int_any p a n cap z3 0 3 3 _ C5 (by omega) (by omega) I3 (by omega)).mono ?_
                rintro e ww3 ⟨j4, hj4, x4, hc4, rfl, C7, g4⟩
                replace V3 := V3.grown g4 (by omega)
                replace V0 := V0.grown g4 (by omega)
                replace D := D.curs g4 (by omega)
                replace G5 := grownBy_trans G5 g4
                replace I7 := fun j hj => cell_drawnD g4 (I7 j hj) (by omega)
                replace C5 := C7
                refine hK.out _ _ trivial (fun hHeld => ?_)
                clear hK K hHeld g4 I3 hc4 hj4 C7
                try simp only [Act.put, List.setIfInBounds_toArray, List.set_cons_zero, List.set_cons_succ]
                refine wpAnyH_ready (rs := [1, 8]) (by kernel_rfl) (by simp) (AllReadyH.cons (by simp only [List.getElem?_toArray, List.getElem?_cons_succ, List.getElem?_cons_zero]; exact rfl) (fun K hK => ?_) (AllReadyH.cons (by simp only [List.getElem?_toArray, List.getElem?_cons_succ, List.getElem?_cons_zero]; exact rfl) (fun K hK => ?_) AllReadyH.nil))
                focus
                  have y1 := V3.c1
                  go_simp
                  refine hK.out _ _ trivial (fun hHeld => ?_)
                  clear hK K hHeld y1
                  try simp only [Act.put, List.setIfInBounds_toArray, List.set_cons_zero, List.set_cons_succ]
                  refine wpAnyH_ready (rs := [8]) (by kernel_rfl) (by simp) (AllReadyH.cons (by simp only [List.getElem?_toArray, List.getElem?_cons_succ, List.getElem?_cons_zero]; exact rfl) (fun K hK => ?_) AllReadyH.nil)
                  go_simp
                  refine (l1Int_list p a n cap [64, 63] z7 2 _ C5 (by decide) (by decide) I7 (by omega)).mono ?_
                  rintro e ww4 ⟨x8, hx8, rfl, C7, g4⟩
                  replace V3 := V3.grown g4 (by omega)
                  replace V0 := V0.grown g4 (by omega)
                  replace D := D.curs g4 (by omega)
                  replace G5 := grownBy_trans G5 g4
                  replace C5 := C7
                  obtain ⟨k8, hk8, hk64⟩ : ∃ k : Nat, x8 = (k : Int) ∧ k ≤ 64 := by
                    simp at hx8
                    rcases hx8 with e | e
                    · exact ⟨64, e, by omega⟩
                    · exact ⟨63, e, by omega⟩
                  subst hk8
                  refine hK.out _ _ trivial (fun hHeld => ?_)
                  clear hK K hHeld g4 I7 C7 hx8
                  try simp only [Act.put, List.setIfInBounds_toArray, List.set_cons_zero, List.set_cons_succ]
                  refine wpAnyH_ready (rs := [9]) (by kernel_rfl) (by simp) (AllReadyH.cons (by simp only [List.getElem?_toArray, List.getElem?_cons_succ, List.getElem?_cons_zero]; exact rfl) (fun K hK => ?_) AllReadyH.nil)
                  go_simp
                  refine (l1Bytes_any p a n cap k8 _ C5 (by omega)).mono ?_
                  rintro e ww5 ⟨k2, c5, es, rfl, hes, h8e, R2, C7, g4⟩
                  have kz2 := (World.ownsRow.lt R2 k2 rfl).1
                  have nq : ∀ k, (Value.slice a2 qs.length c2).ownBlock = some k → k < ww4.heap.size := fun k hk => (D.lts.2.1 k hk).2
                  have nr : ∀ x ∈ vs, ∀ k, x.ownBlock = some k → k < ww4.heap.size := fun x hx k hk => (D.lts.2.2 x hx k hk).2
                  have na : ∀ k, (Value.slice (some ⟨g9, 0, none⟩) bs.length c).ownBlock = some k → k < ww4.heap.size := fun k hk => (D.lts.1 k hk).2
                  have hpc : p3 < ww4.heap.size := V3.lt
                  have hzc : w.heap.size + 1 ≤ ww4.heap.size := by have := V3.lt; have := V0.lt; omega
                  have hz2 := g4.size
                  replace V3 := V3.grown g4 (by omega)
                  replace V0 := V0.grown g4 (by omega)
                  replace D := D.curs g4 (by omega)
                  replace G5 := grownBy_trans G5 g4
                  replace C5 := C7
                  have HES : Hid (es.length = k8) := hes
                  replace R2 : RowB (w.heap.size + 1) ww5 (.slice (some ⟨k2, 0, none⟩) k8 c5) es := row_base R2 hzc
                  refine hK.out _ _ trivial (fun hHeld => ?_)
                  clear hK K hHeld g4 C7 h8e hes
                  try simp only [Act.put, List.setIfInBounds_toArray, List.set_cons_zero, List.set_cons_succ]
                  generalize hzc9 : ww4.heap.size = zc at *
                  refine takeW (i := 10) (by simp only [List.getElem?_toArray, List.getElem?_cons_succ, List.getElem?_cons_zero]; exact rfl) (by kernel_rfl) (by kernel_rfl) (by kernel_rfl) (by exact fun _ _ _ h => h) (by rfl) (by intro wq hSw; go_simp <;> with_reducible rfl) (by exact trivial) ?_
                  try simp only [Act.put, List.setIfInBounds_toArray, List.set_cons_zero, List.set_cons_succ]
                  refine wpAnyH_ready (rs := [11]) (by kernel_rfl) (by simp) (AllReadyH.cons (by simp only [List.getElem?_toArray, List.getElem?_cons_succ, List.getElem?_cons_zero]; exact rfl) (fun K hK => ?_) AllReadyH.nil)
                  go_simp
                  have bn := below1 ww5 (.cells #[.int .i64 x4, (.slice (some ⟨k2, 0, none⟩) k8 c5)] 34)
                  have NW := two_newW ww5 34 (.int .i64 x4) (.slice (some ⟨k2, 0, none⟩) k8 c5)
                  have ulo : k2 < ww5.heap.size := (World.ownsRow.lt R2 k2 rfl).2
                  have hz3' := bn.size
                  replace V3 := V3.below bn
                  replace V0 := V0.below bn
                  replace D := D.below bn
                  replace C5 := C5.below bn
                  replace G5 := grown_below G5 bn G5.size
                  replace R2 := R2.below bn
                  refine hK.out _ _ trivial (fun hHeld => ?_)
                  clear hK K hHeld bn
                  try simp only [Act.put, List.setIfInBounds_toArray, List.set_cons_zero, List.set_cons_succ]
                  generalize hzA : ww5.heap.size = zA at *
                  generalize ww5.alloc (.cells #[.int .i64 x4, (.slice (some ⟨k2, 0, none⟩) k8 c5)] 34) = ww6 at *
                rotate_left 1
                focus
                  go_simp
                  refine (l1Int_list p a n cap [64, 63] z7 2 _ C5 (by decide) (by decide) I7 (by omega)).mono ?_
                  rintro e ww4 ⟨x8, hx8, rfl, C7, g4⟩
                  replace V3 := V3.grown g4 (by omega)
                  replace V0 := V0.grown g4 (by omega)
                  replace D := D.curs g4 (by omega)
                  replace G5 := grownBy_trans G5 g4
                  replace C5 := C7
                  obtain ⟨k8, hk8, hk64⟩ : ∃ k : Nat, x8 = (k : Int) ∧ k ≤ 64 := by
                    simp at hx8
                    rcases hx8 with e | e
                    · exact ⟨64, e, by omega⟩
                    · exact ⟨63, e, by omega⟩
                  subst hk8
                  refine hK.out _ _ trivial (fun hHeld => ?_)
                  clear hK K hHeld g4 I7 C7 hx8
                  try simp only [Act.put, List.setIfInBounds_toArray, List.set_cons_zero, List.set_cons_succ]
                  refine wpAnyH_ready (rs := [1, 9]) (by kernel_rfl) (by simp) (AllReadyH.cons (by simp only [List.getElem?_toArray, List.getElem?_cons_succ, List.getElem?_cons_zero]; exact rfl) (fun K hK => ?_) (AllReadyH.cons (by simp only [List.getElem?_toArray, List.getElem?_cons_succ, List.getElem?_cons_zero]; exact rfl) (fun K hK => ?_) AllReadyH.nil))
                  focus
                    have y1 := V3.c1
                    go_simp
                    refine hK.out _ _ trivial (fun hHeld => ?_)
                    clear hK K hHeld y1
                    try simp only [Act.put, List.setIfInBounds_toArray, List.set_cons_zero, List.set_cons_succ]
                    refine wpAnyH_ready (rs := [9]) (by kernel_rfl) (by simp) (AllReadyH.cons (by simp only [List.getElem?_toArray, List.getElem?_cons_succ, List.getElem?_cons_zero]; exact rfl) (fun K hK => ?_) AllReadyH.nil)
                    go_simp
                    refine (l1Bytes_any p a n cap k8 _ C5 (by omega)).mono ?_
                    rintro e ww5 ⟨k2, c5, es, rfl, hes, h8e, R2, C7, g4⟩
                    have kz2 := (World.ownsRow.lt R2 k2 rfl).1
                    have nq : ∀ k, (Value.slice a2 qs.length c2).ownBlock = some k → k < ww4.heap.size := fun k hk => (D.lts.2.1 k hk).2
                    have nr : ∀ x ∈ vs, ∀ k, x.ownBlock = some k → k < ww4.heap.size := fun x hx k hk => (D.lts.2.2 x hx k hk).2
                    have na : ∀ k, (Value.slice (some ⟨g9, 0, none⟩) bs.length c).ownBlock = some k → k < ww4.heap.size := fun k hk => (D.lts.1 k hk).2
                    have hpc : p3 < ww4.heap.size := V3.lt
                    have hzc : w.heap.size + 1 ≤ ww4.heap.size := by have := V3.lt; have := V0.lt; omega
                    have hz2 := g4.size
                    replace V3 := V3.grown g4 (by omega)
                    replace V0 := V0.grown g4 (by omega)
                    replace D := D.curs g4 (by omega)
                    replace G5 := grownBy_trans G5 g4
                    replace C5 := C7
                    have HES : Hid (es.length = k8) := hes
                    replace R2 : RowB (w.heap.size + 1) ww5 (.slice (some ⟨k2, 0, none⟩) k8 c5) es := row_base R2 hzc
                    refine hK.out _ _ trivial (fun hHeld => ?_)
                    clear hK K hHeld g4 C7 h8e hes
                    try simp only [Act.put, List.setIfInBounds_toArray, List.set_cons_zero, List.set_cons_succ]
                    generalize hzc9 : ww4.heap.size = zc at *
                    refine takeW (i := 10) (by simp only [List.getElem?_toArray, List.getElem?_cons_succ, List.getElem?_cons_zero]; exact rfl) (by kernel_rfl) (by kernel_rfl) (by kernel_rfl) (by exact fun _ _ _ h => h) (by rfl) (by intro wq hSw; go_simp <;> with_reducible rfl) (by exact trivial) ?_
                    try simp only [Act.put, List.setIfInBounds_toArray, List.set_cons_zero, List.set_cons_succ]
                    refine wpAnyH_ready (rs := [11]) (by kernel_rfl) (by simp) (AllReadyH.cons (by simp only [List.getElem?_toArray, List.getElem?_cons_succ, List.getElem?_cons_zero]; exact rfl) (fun K hK => ?_) AllReadyH.nil)
                    go_simp
                    have bn := below1 ww5 (.cells #[.int .i64 x4, (.slice (some ⟨k2, 0, none⟩) k8 c5)] 34)
                    have NW := two_newW ww5 34 (.int .i64 x4) (.slice (some ⟨k2, 0, none⟩) k8 c5)
                    have ulo : k2 < ww5.heap.size := (World.ownsRow.lt R2 k2 rfl).2
                    have hz3' := bn.size
                    replace V3 := V3.below bn
                    replace V0 := V0.below bn
                    replace D := D.below bn
                    replace C5 := C5.below bn
                    replace G5 := grown_below G5 bn G5.size
                    replace R2 := R2.below bn
                    refine hK.out _ _ trivial (fun hHeld => ?_)
                    clear hK K hHeld bn
                    try simp only [Act.put, List.setIfInBounds_toArray, List.set_cons_zero, List.set_cons_succ]
                    generalize hzA : ww5.heap.size = zA at *
                    generalize ww5.alloc (.cells #[.int .i64 x4, (.slice (some ⟨k2, 0, none⟩) k8 c5)] 34) = ww6 at *
                  rotate_left 1
                  focus
                    go_simp
                    refine (l1Bytes_any p a n cap k8 _ C5 (by omega)).mono ?_
                    rintro e ww5 ⟨k2, c5, es, rfl, hes, h8e, R2, C7, g4⟩
                    have kz2 := (World.ownsRow.lt R2 k2 rfl).1
                    have nq : ∀ k, (Value.slice a2 qs.length c2).ownBlock = some k → k < ww4.heap.size := fun k hk => (D.lts.2.1 k hk).2
                    have nr : ∀ x ∈ vs, ∀ k, x.ownBlock = some k → k < ww4.heap.size := fun x hx k hk => (D.lts.2.2 x hx k hk).2
                    have na : ∀ k, (Value.slice (some ⟨g9, 0, none⟩) bs.length c).ownBlock = some k → k < ww4.heap.size := fun k hk => (D.lts.1 k hk).2
                    have hpc : p3 < ww4.heap.size := V3.lt
                    have hzc : w.heap.size + 1 ≤ ww4.heap.size := by have := V3.lt; have := V0.lt; omega
                    have hz2 := g4.size
                    replace V3 := V3.grown g4 (by omega)
                    replace V0 := V0.grown g4 (by omega)
                    replace D := D.curs g4 (by omega)
                    replace G5 := grownBy_trans G5 g4
                    replace C5 := C7
                    have HES : Hid (es.length = k8) := hes
                    replace R2 : RowB (w.heap.size + 1) ww5 (.slice (some ⟨k2, 0, none⟩) k8 c5) es := row_base R2 hzc
                    refine hK.out _ _ trivial (fun hHeld => ?_)
                    clear hK K hHeld g4 C7 h8e hes
                    try simp only [Act.put, List.setIfInBounds_toArray, List.set_cons_zero, List.set_cons_succ]
                    generalize hzc9 : ww4.heap.size = zc at *
                    refine takeW (i := 10) (by simp only [List.getElem?_toArray, List.getElem?_cons_succ, List.getElem?_cons_zero]; exact rfl) (by kernel_rfl) (by kernel_rfl) (by kernel_rfl) (by exact fun _ _ _ h => h) (by rfl) (by intro wq hSw; go_simp <;> with_reducible rfl) (by exact trivial) ?_
                    try simp only [Act.put, List.setIfInBounds_toArray, List.set_cons_zero, List.set_cons_succ]
                    refine wpAnyH_ready (rs := [1, 11]) (by kernel_rfl) (by simp) (AllReadyH.cons (by simp only [List.getElem?_toArray, List.getElem?_cons_succ, List.getElem?_cons_zero]; exact rfl) (fun K hK => ?_) (AllReadyH.cons (by simp only [List.getElem?_toArray, List.getElem?_cons_succ, List.getElem?_cons_zero]; exact rfl) (fun K hK => ?_) AllReadyH.nil))
                    focus
                      have y1 := V3.c1
                      go_simp
                      refine hK.out _ _ trivial (fun hHeld => ?_)
                      clear hK K hHeld y1
                      try simp only [Act.put, List.setIfInBounds_toArray, List.set_cons_zero, List.set_cons_succ]
                      refine wpAnyH_ready (rs := [11]) (by kernel_rfl) (by simp) (AllReadyH.cons (by simp only [List.getElem?_toArray, List.getElem?_cons_succ, List.getElem?_cons_zero]; exact rfl) (fun K hK => ?_) AllReadyH.nil)
                      go_simp
                      have bn := below1 ww5 (.cells #[.int .i64 x4, (.slice (some ⟨k2, 0, none⟩) k8 c5)] 34)
                      have NW := two_newW ww5 34 (.int .i64 x4) (.slice (some ⟨k2, 0, none⟩) k8 c5)
                      have ulo : k2 < ww5.heap.size := (World.ownsRow.lt R2 k2 rfl).2
                      have hz3' := bn.size
                      replace V3 := V3.below bn
                      replace V0 := V0.below bn
                      replace D := D.below bn
                      replace C5 := C5.below bn
                      replace G5 := grown_below G5 bn G5.size
                      replace R2 := R2.below bn
                      refine hK.out _ _ trivial (fun hHeld => ?_)
                      clear hK K hHeld bn
                      try simp only [Act.put, List.setIfInBounds_toArray, List.set_cons_zero, List.set_cons_succ]
                      generalize hzA : ww5.heap.size = zA at *
                      generalize ww5.alloc (.cells #[.int .i64 x4, (.slice (some ⟨k2, 0, none⟩) k8 c5)] 34) = ww6 at *
                    rotate_left 1
                    focus
                      go_simp
                      have bn := below1 ww5 (.cells #[.int .i64 x4, (.slice (some ⟨k2, 0, none⟩) k8 c5)] 34)
                      have NW := two_newW ww5 34 (.int .i64 x4) (.slice (some ⟨k2, 0, none⟩) k8 c5)
                      have ulo : k2 < ww5.heap.size := (World.ownsRow.lt R2 k2 rfl).2
                      have hz3' := bn.size
                      replace V3 := V3.below bn
                      replace V0 := V0.below bn
                      replace D := D.below bn
                      replace C5 := C5.below bn
                      replace G5 := grown_below G5 bn G5.size
                      replace R2 := R2.below bn
                      refine hK.out _ _ trivial (fun hHeld => ?_)
                      clear hK K hHeld bn
                      try simp only [Act.put, List.setIfInBounds_toArray, List.set_cons_zero, List.set_cons_succ]
                      generalize hzA : ww5.heap.size = zA at *
                      generalize ww5.alloc (.cells #[.int .i64 x4, (.slice (some ⟨k2, 0, none⟩) k8 c5)] 34) = ww6 at *
                      refine wpAnyH_ready (rs := [1]) (by kernel_rfl) (by simp) (AllReadyH.cons (by simp only [List.getElem?_toArray, List.getElem?_cons_succ, List.getElem?_cons_zero]; exact rfl) (fun K hK => ?_) AllReadyH.nil)
                      have y1 := V3.c1
                      go_simp
                      refine hK.out _ _ trivial (fun hHeld => ?_)
                      clear hK K hHeld y1
                      try simp only [Act.put, List.setIfInBounds_toArray, List.set_cons_zero, List.set_cons_succ]
                    rotate_left 1
                  rotate_left 2
                rotate_left 3
              rotate_left 4
            rotate_left 5
          rotate_left 12
          focus
            go_simp
            have bn := below1 ww0 (.cells #[.int .i64 64, .int .i64 63] 3)
            have I7 : ∀ j (hj : j < [(64 : Int), 63].length), (ww0.alloc (.cells #[.int .i64 64, .int .i64 63] 3)).cell? ⟨ww0.heap.size, 0 + j, none⟩ = some (.int .i64 [(64 : Int), 63][j]) := fun j hj => by
              have hj2 : j < 2 := hj
              rcases (show j = 0 ∨ j = 1 by omega) with rfl | rfl
              · exact cell_new _ _ _ 0 rfl
              · exact cell_new _ _ _ 1 rfl
            have z7p : w.heap.size + 1 ≤ ww0.heap.size := by have := V3.lt; have := V0.lt; omega
            replace V3 := V3.below bn
            replace V0 := V0.below bn
            replace D := D.below bn
            replace C5 := C5.below bn
            replace G5 := grown_below G5 bn G5.size
            refine hK.out _ _ trivial (fun hHeld => ?_)
            clear hK K hHeld bn
            try simp only [Act.put, List.setIfInBounds_toArray, List.set_cons_zero, List.set_cons_succ]
            generalize hz7 : ww0.heap.size = z7 at *
            generalize ww0.alloc (.cells #[.int .i64 64, .int .i64 63] 3) = ww1 at *
            refine wpAnyH_ready (rs := [1, 3]) (by kernel_rfl) (by simp) (AllReadyH.cons (by simp only [List.getElem?_toArray, List.getElem?_cons_succ, List.getElem?_cons_zero]; exact rfl) (fun K hK => ?_) (AllReadyH.cons (by simp only [List.getElem?_toArray, List.getElem?_cons_succ, List.getElem?_cons_zero]; exact rfl) (fun K hK => ?_) AllReadyH.nil))
            focus
              have y1 := V3.c1
              go_simp
              refine hK.out _ _ trivial (fun hHeld => ?_)
              clear hK K hHeld y1
              try simp only [Act.put, List.setIfInBounds_toArray, List.set_cons_zero, List.set_cons_succ]
              refine wpAnyH_ready (rs := [3]) (by kernel_rfl) (by simp) (AllReadyH.cons (by simp only [List.getElem?_toArray, List.getElem?_cons_succ, List.getElem?_cons_zero]; exact rfl) (fun K hK => ?_) AllReadyH.nil)
              go_simp
              have bn := below1 ww1 (.cells #[.int .i64 (-1), .int .i64 0, .int .i64 9] 3)
              have I3 : ∀ j, j < 3 → ∃ z : Int, (ww1.alloc (.cells #[.int .i64 (-1), .int .i64 0, .int .i64 9] 3)).cell? ⟨ww1.heap.size, 0 + j, none⟩ = some (.int .i64 z) := fun j hj => by
                rcases (show j = 0 ∨ j = 1 ∨ j = 2 by omega) with rfl | rfl | rfl
                · exact ⟨_, cell_new _ _ _ 0 rfl⟩
                · exact ⟨_, cell_new _ _ _ 1 rfl⟩
                · exact ⟨_, cell_new _ _ _ 2 rfl⟩
              have z3p : w.heap.size + 1 ≤ ww1.heap.size := by have := V3.lt; have := V0.lt; omega
              replace V3 := V3.below bn
              replace V0 := V0.below bn
              replace D := D.below bn
              replace C5 := C5.below bn
              replace G5 := grown_below G5 bn G5.size
              replace I7 := fun j hj => bat bn (I7 j hj)
              refine hK.out _ _ trivial (fun hHeld => ?_)
              clear hK K hHeld bn
              try simp only [Act.put, List.setIfInBounds_toArray, List.set_cons_zero, List.set_cons_succ]
              generalize hz3 : ww1.heap.size = z3 at *
              generalize ww1.alloc (.cells #[.int .i64 (-1), .int .i64 0, .int .i64 9] 3) = ww2 at *
              refine wpAnyH_ready (rs := [4]) (by kernel_rfl) (by simp) (AllReadyH.cons (by simp only [List.getElem?_toArray, List.getElem?_cons_succ, List.getElem?_cons_zero]; exact rfl) (fun K hK => ?_) AllReadyH.nil)
              go_simp
              refine (l1Int_any p a n cap z3 0 3 3 _ C5 (by omega) (by omega) I3 (by omega)).mono ?_
              rintro e ww3 ⟨j4, hj4, x4, hc4, rfl, C7, g4⟩
              replace V3 := V3.grown g4 (by omega)
              replace V0 := V0.grown g4 (by omega)
              replace D := D.curs g4 (by omega)
              replace G5 := grownBy_trans G5 g4
              replace I7 := fun j hj => cell_drawnD g4 (I7 j hj) (by omega)
              replace C5 := C7
              refine hK.out _ _ trivial (fun hHeld => ?_)
              clear hK K hHeld g4 I3 hc4 hj4 C7
              try simp only [Act.put, List.setIfInBounds_toArray, List.set_cons_zero, List.set_cons_succ]
              refine wpAnyH_ready (rs := [8]) (by kernel_rfl) (by simp) (AllReadyH.cons (by simp only [List.getElem?_toArray, List.getElem?_cons_succ, List.getElem?_cons_zero]; exact rfl) (fun K hK => ?_) AllReadyH.nil)
              go_simp
              refine (l1Int_list p a n cap [64, 63] z7 2 _ C5 (by decide) (by decide) I7 (by omega)).mono ?_
              rintro e ww4 ⟨x8, hx8, rfl, C7, g4⟩
              replace V3 := V3.grown g4 (by omega)
              replace V0 := V0.grown g4 (by omega)
              replace D := D.curs g4 (by omega)
              replace G5 := grownBy_trans G5 g4
              replace C5 := C7
              obtain ⟨k8, hk8, hk64⟩ : ∃ k : Nat, x8 = (k : Int) ∧ k ≤ 64 := by
                simp at hx8
                rcases hx8 with e | e
                · exact ⟨64, e, by omega⟩
                · exact ⟨63, e, by omega⟩
              subst hk8
              refine hK.out _ _ trivial (fun hHeld => ?_)
              clear hK K hHeld g4 I7 C7 hx8
              try simp only [Act.put, List.setIfInBounds_toArray, List.set_cons_zero, List.set_cons_succ]
              refine wpAnyH_ready (rs := [9]) (by kernel_rfl) (by simp) (AllReadyH.cons (by simp only [List.getElem?_toArray, List.getElem?_cons_succ, List.getElem?_cons_zero]; exact rfl) (fun K hK => ?_) AllReadyH.nil)
              go_simp
              refine (l1Bytes_any p a n cap k8 _ C5 (by omega)).mono ?_
              rintro e ww5 ⟨k2, c5, es, rfl, hes, h8e, R2, C7, g4⟩
              have kz2 := (World.ownsRow.lt R2 k2 rfl).1
              have nq : ∀ k, (Value.slice a2 qs.length c2).ownBlock = some k → k < ww4.heap.size := fun k hk => (D.lts.2.1 k hk).2
              have nr : ∀ x ∈ vs, ∀ k, x.ownBlock = some k → k < ww4.heap.size := fun x hx k hk => (D.lts.2.2 x hx k hk).2
              have na : ∀ k, (Value.slice (some ⟨g9, 0, none⟩) bs.length c).ownBlock = some k → k < ww4.heap.size := fun k hk => (D.lts.1 k hk).2
              have hpc : p3 < ww4.heap.size := V3.lt
              have hzc : w.heap.size + 1 ≤ ww4.heap.size := by have := V3.lt; have := V0.lt; omega
              have hz2 := g4.size
              replace V3 := V3.grown g4 (by omega)
              replace V0 := V0.grown g4 (by omega)
              replace D := D.curs g4 (by omega)
              replace G5 := grownBy_trans G5 g4
              replace C5 := C7
              have HES : Hid (es.length = k8) := hes
              replace R2 : RowB (w.heap.size + 1) ww5 (.slice (some ⟨k2, 0, none⟩) k8 c5) es := row_base R2 hzc
              refine hK.out _ _ trivial (fun hHeld => ?_)
              clear hK K hHeld g4 C7 h8e hes
              try simp only [Act.put, List.setIfInBounds_toArray, List.set_cons_zero, List.set_cons_succ]
              generalize hzc9 : ww4.heap.size = zc at *
              refine takeW (i := 10) (by simp only [List.getElem?_toArray, List.getElem?_cons_succ, List.getElem?_cons_zero]; exact rfl) (by kernel_rfl) (by kernel_rfl) (by kernel_rfl) (by exact fun _ _ _ h => h) (by rfl) (by intro wq hSw; go_simp <;> with_reducible rfl) (by exact trivial) ?_
              try simp only [Act.put, List.setIfInBounds_toArray, List.set_cons_zero, List.set_cons_succ]
              refine wpAnyH_ready (rs := [11]) (by kernel_rfl) (by simp) (AllReadyH.cons (by simp only [List.getElem?_toArray, List.getElem?_cons_succ, List.getElem?_cons_zero]; exact rfl) (fun K hK => ?_) AllReadyH.nil)
              go_simp
              have bn := below1 ww5 (.cells #[.int .i64 x4, (.slice (some ⟨k2, 0, none⟩) k8 c5)] 34)
              have NW := two_newW ww5 34 (.int .i64 x4) (.slice (some ⟨k2, 0, none⟩) k8 c5)
              have ulo : k2 < ww5.heap.size := (World.ownsRow.lt R2 k2 rfl).2
              have hz3' := bn.size
              replace V3 := V3.below bn
              replace V0 := V0.below bn
              replace D := D.below bn
              replace C5 := C5.below bn
              replace G5 := grown_below G5 bn G5.size
              replace R2 := R2.below bn
              refine hK.out _ _ trivial (fun hHeld => ?_)
              clear hK K hHeld bn
              try simp only [Act.put, List.setIfInBounds_toArray, List.set_cons_zero, List.set_cons_succ]
              generalize hzA : ww5.heap.size = zA at *
              generalize ww5.alloc (.cells #[.int .i64 x4, (.slice (some ⟨k2, 0, none⟩) k8 c5)] 34) = ww6 at *
            rotate_left 1
            focus
              go_simp
              have bn := below1 ww1 (.cells #[.int .i64 (-1), .int .i64 0, .int .i64 9] 3)
              have I3 : ∀ j, j < 3 → ∃ z : Int, (ww1.alloc (.cells #[.int .i64 (-1), .int .i64 0, .int .i64 9] 3)).cell? ⟨ww1.heap.size, 0 + j, none⟩ = some (.int .i64 z) := fun j hj => by
                rcases (show j = 0 ∨ j = 1 ∨ j = 2 by omega) with rfl | rfl | rfl
                · exact ⟨_, cell_new _ _ _ 0 rfl⟩
                · exact ⟨_, cell_new _ _ _ 1 rfl⟩
                · exact ⟨_, cell_new _ _ _ 2 rfl⟩
              have z3p : w.heap.size + 1 ≤ ww1.heap.size := by have := V3.lt; have := V0.lt; omega
              replace V3 := V3.below bn
              replace V0 := V0.below bn
              replace D := D.below bn
              replace C5 := C5.below bn
              replace G5 := grown_below G5 bn G5.size
              replace I7 := fun j hj => bat bn (I7 j hj)
              refine hK.out _ _ trivial (fun hHeld => ?_)
              clear hK K hHeld bn
              try simp only [Act.put, List.setIfInBounds_toArray, List.set_cons_zero, List.set_cons_succ]
              generalize hz3 : ww1.heap.size = z3 at *
              generalize ww1.alloc (.cells #[.int .i64 (-1), .int .i64 0, .int .i64 9] 3) = ww2 at *
              refine wpAnyH_ready (rs := [1, 4]) (by kernel_rfl) (by simp) (AllReadyH.cons (by simp only [List.getElem?_toArray, List.getElem?_cons_succ, List.getElem?_cons_zero]; exact rfl) (fun K hK => ?_) (AllReadyH.cons (by simp only [List.getElem?_toArray, List.getElem?_cons_succ, List.getElem?_cons_zero]; exact rfl) (fun K hK => ?_) AllReadyH.nil))
              focus
                have y1 := V3.c1
                go_simp
                refine hK.out _ _ trivial (fun hHeld => ?_)
                clear hK K hHeld y1
                try simp only [Act.put, List.setIfInBounds_toArray, List.set_cons_zero, List.set_cons_succ]
                refine wpAnyH_ready (rs := [4]) (by kernel_rfl) (by simp) (AllReadyH.cons (by simp only [List.getElem?_toArray, List.getElem?_cons_succ, List.getElem?_cons_zero]; exact rfl) (fun K hK => ?_) AllReadyH.nil)
                go_simp
                refine (l1Int_any p a n cap z3 0 3 3 _ C5 (by omega) (by omega) I3 (by omega)).mono ?_
                rintro e ww3 ⟨j4, hj4, x4, hc4, rfl, C7, g4⟩
                replace V3 := V3.grown g4 (by omega)
                replace V0 := V0.grown g4 (by omega)
                replace D := D.curs g4 (by omega)
                replace G5 := grownBy_trans G5 g4
                replace I7 := fun j hj => cell_drawnD g4 (I7 j hj) (by omega)
                replace C5 := C7
                refine hK.out _ _ trivial (fun hHeld => ?_)
                clear hK K hHeld g4 I3 hc4 hj4 C7
                try simp only [Act.put, List.setIfInBounds_toArray, List.set_cons_zero, List.set_cons_succ]
                refine wpAnyH_ready (rs := [8]) (by kernel_rfl) (by simp) (AllReadyH.cons (by simp only [List.getElem?_toArray, List.getElem?_cons_succ, List.getElem?_cons_zero]; exact rfl) (fun K hK => ?_) AllReadyH.nil)
                go_simp
                refine (l1Int_list p a n cap [64, 63] z7 2 _ C5 (by decide) (by decide) I7 (by omega)).mono ?_
                rintro e ww4 ⟨x8, hx8, rfl, C7, g4⟩
                replace V3 := V3.grown g4 (by omega)
                replace V0 := V0.grown g4 (by omega)
                replace D := D.curs g4 (by omega)
                replace G5 := grownBy_trans G5 g4
                replace C5 := C7
                obtain ⟨k8, hk8, hk64⟩ : ∃ k : Nat, x8 = (k : Int) ∧ k ≤ 64 := by
                  simp at hx8
                  rcases hx8 with e | e
                  · exact ⟨64, e, by omega⟩
                  · exact ⟨63, e, by omega⟩
                subst hk8
                refine hK.out _ _ trivial (fun hHeld => ?_)
                clear hK K hHeld g4 I7 C7 hx8
                try simp only [Act.put, List.setIfInBounds_toArray, List.set_cons_zero, List.set_cons_succ]
                refine wpAnyH_ready (rs := [9]) (by kernel_rfl) (by simp) (AllReadyH.cons (by simp only [List.getElem?_toArray, List.getElem?_cons_succ, List.getElem?_cons_zero]; exact rfl) (fun K hK => ?_) AllReadyH.nil)
                go_simp
                refine (l1Bytes_any p a n cap k8 _ C5 (by omega)).mono ?_
                rintro e ww5 ⟨k2, c5, es, rfl, hes, h8e, R2, C7, g4⟩
                have kz2 := (World.ownsRow.lt R2 k2 rfl).1
                have nq : ∀ k, (Value.slice a2 qs.length c2).ownBlock = some k → k < ww4.heap.size := fun k hk => (D.lts.2.1 k hk).2
                have nr : ∀ x ∈ vs, ∀ k, x.ownBlock = some k → k < ww4.heap.size := fun x hx k hk => (D.lts.2.2 x hx k hk).2
                have na : ∀ k, (Value.slice (some ⟨g9, 0, none⟩) bs.length c).ownBlock = some k → k < ww4.heap.size := fun k hk => (D.lts.1 k hk).2
                have hpc : p3 < ww4.heap.size := V3.lt
                have hzc : w.heap.size + 1 ≤ ww4.heap.size := by have := V3.lt; have := V0.lt; omega
                have hz2 := g4.size
                replace V3 := V3.grown g4 (by omega)
                replace V0 := V0.grown g4 (by omega)
                replace D := D.curs g4 (by omega)
                replace G5 := grownBy_trans G5 g4
                replace C5 := C7
                have HES : Hid (es.length = k8) := hes
                replace R2 : RowB (w.heap.size + 1) ww5 (.slice (some ⟨k2, 0, none⟩) k8 c5) es := row_base R2 hzc
                refine hK.out _ _ trivial (fun hHeld => ?_)
                clear hK K hHeld g4 C7 h8e hes
                try simp only [Act.put, List.setIfInBounds_toArray, List.set_cons_zero, List.set_cons_succ]
                generalize hzc9 : ww4.heap.size = zc at *
                refine takeW (i := 10) (by simp only [List.getElem?_toArray, List.getElem?_cons_succ, List.getElem?_cons_zero]; exact rfl) (by kernel_rfl) (by kernel_rfl) (by kernel_rfl) (by exact fun _ _ _ h => h) (by rfl) (by intro wq hSw; go_simp <;> with_reducible rfl) (by exact trivial) ?_
                try simp only [Act.put, List.setIfInBounds_toArray, List.set_cons_zero, List.set_cons_succ]
                refine wpAnyH_ready (rs := [11]) (by kernel_rfl) (by simp) (AllReadyH.cons (by simp only [List.getElem?_toArray, List.getElem?_cons_succ, List.getElem?_cons_zero]; exact rfl) (fun K hK => ?_) AllReadyH.nil)
                go_simp
                have bn := below1 ww5 (.cells #[.int .i64 x4, (.slice (some ⟨k2, 0, none⟩) k8 c5)] 34)
                have NW := two_newW ww5 34 (.int .i64 x4) (.slice (some ⟨k2, 0, none⟩) k8 c5)
                have ulo : k2 < ww5.heap.size := (World.ownsRow.lt R2 k2 rfl).2
                have hz3' := bn.size
                replace V3 := V3.below bn
                replace V0 := V0.below bn
                replace D := D.below bn
                replace C5 := C5.below bn
                replace G5 := grown_below G5 bn G5.size
                replace R2 := R2.below bn
                refine hK.out _ _ trivial (fun hHeld => ?_)
                clear hK K hHeld bn
                try simp only [Act.put, List.setIfInBounds_toArray, List.set_cons_zero, List.set_cons_succ]
                generalize hzA : ww5.heap.size = zA at *
                generalize ww5.alloc (.cells #[.int .i64 x4, (.slice (some ⟨k2, 0, none⟩) k8 c5)] 34) = ww6 at *
              rotate_left 1
              focus
                go_simp
                refine (l1Int_any p a n cap z3 0 3 3 _ C5 (by omega) (by omega) I3 (by omega)).mono ?_
                rintro e ww3 ⟨j4, hj4, x4, hc4, rfl, C7, g4⟩
                replace V3 := V3.grown g4 (by omega)
                replace V0 := V0.grown g4 (by omega)
                replace D := D.curs g4 (by omega)
                replace G5 := grownBy_trans G5 g4
                replace I7 := fun j hj => cell_drawnD g4 (I7 j hj) (by omega)
                replace C5 := C7
                refine hK.out _ _ trivial (fun hHeld => ?_)
                clear hK K hHeld g4 I3 hc4 hj4 C7
                try simp only [Act.put, List.setIfInBounds_toArray, List.set_cons_zero, List.set_cons_succ]
                refine wpAnyH_ready (rs := [1, 8]) (by kernel_rfl) (by simp) (AllReadyH.cons (by simp only [List.getElem?_toArray, List.getElem?_cons_succ, List.getElem?_cons_zero]; exact rfl) (fun K hK => ?_) (AllReadyH.cons (by simp only [List.getElem?_toArray, List.getElem?_cons_succ, List.getElem?_cons_zero]; exact rfl) (fun K hK => ?_) AllReadyH.nil))
                focus
                  have y1 := V3.c1
                  go_simp
                  refine hK.out _ _ trivial (fun hHeld => ?_)
                  clear hK K hHeld y1
                  try simp only [Act.put, List.setIfInBounds_toArray, List.set_cons_zero, List.set_cons_succ]
                  refine wpAnyH_ready (rs := [8]) (by kernel_rfl) (by simp) (AllReadyH.cons (by simp only [List.getElem?_toArray, List.getElem?_cons_succ, List.getElem?_cons_zero]; exact rfl) (fun K hK => ?_) AllReadyH.nil)
                  go_simp
                  refine (l1Int_list p a n cap [64, 63] z7 2 _ C5 (by decide) (by decide) I7 (by omega)).mono ?_
                  rintro e ww4 ⟨x8, hx8, rfl, C7, g4⟩
                  replace V3 := V3.grown g4 (by omega)
                  replace V0 := V0.grown g4 (by omega)
                  replace D := D.curs g4 (by omega)
                  replace G5 := grownBy_trans G5 g4
                  replace C5 := C7
                  obtain ⟨k8, hk8, hk64⟩ : ∃ k : Nat, x8 = (k : Int) ∧ k ≤ 64 := by
                    simp at hx8
                    rcases hx8 with e | e
                    · exact ⟨64, e, by omega⟩
                    · exact ⟨63, e, by omega⟩
                  subst hk8
                  refine hK.out _ _ trivial (fun hHeld => ?_)
                  clear hK K hHeld g4 I7 C7 hx8
                  try simp only [Act.put, List.setIfInBounds_toArray, List.set_cons_zero, List.set_cons_succ]
                  refine wpAnyH_ready (rs := [9]) (by kernel_rfl) (by simp) (AllReadyH.cons (by simp only [List.getElem?_toArray, List.getElem?_cons_succ, List.getElem?_cons_zero]; exact rfl) (fun K hK => ?_) AllReadyH.nil)
                  go_simp
                  refine (l1Bytes_any p a n cap k8 _ C5 (by omega)).mono ?_
                  rintro e ww5 ⟨k2, c5, es, rfl, hes, h8e, R2, C7, g4⟩
                  have kz2 := (World.ownsRow.lt R2 k2 rfl).1
                  have nq : ∀ k, (Value.slice a2 qs.length c2).ownBlock = some k → k < ww4.heap.size := fun k hk => (D.lts.2.1 k hk).2
                  have nr : ∀ x ∈ vs, ∀ k, x.ownBlock = some k → k < ww4.heap.size := fun x hx k hk => (D.lts.2.2 x hx k hk).2
                  have na : ∀ k, (Value.slice (some ⟨g9, 0, none⟩) bs.length c).ownBlock = some k → k < ww4.heap.size := fun k hk => (D.lts.1 k hk).2
                  have hpc : p3 < ww4.heap.size := V3.lt
                  have hzc : w.heap.size + 1 ≤ ww4.heap.size := by have := V3.lt; have := V0.lt; omega
                  have hz2 := g4.size
                  replace V3 := V3.grown g4 (by omega)
                  replace V0 := V0.grown g4 (by omega)
                  replace D := D.curs g4 (by omega)
                  replace G5 := grownBy_trans G5 g4
                  replace C5 := C7
                  have HES : Hid (es.length = k8) := hes
                  replace R2 : RowB (w.heap.size + 1) ww5 (.slice (some ⟨k2, 0, none⟩) k8 c5) es := row_base R2 hzc
                  refine hK.out _ _ trivial (fun hHeld => ?_)
                  clear hK K hHeld g4 C7 h8e hes
                  try simp only [Act.put, List.setIfInBounds_toArray, List.set_cons_zero, List.set_cons_succ]
                  generalize hzc9 : ww4.heap.size = zc at *
                  refine takeW (i := 10) (by simp only [List.getElem?_toArray, List.getElem?_cons_succ, List.getElem?_cons_zero]; exact rfl) (by kernel_rfl) (by kernel_rfl) (by kernel_rfl) (by exact fun _ _ _ h => h) (by rfl) (by intro wq hSw; go_simp <;> with_reducible rfl) (by exact trivial) ?_
                  try simp only [Act.put, List.setIfInBounds_toArray, List.set_cons_zero, List.set_cons_succ]
                  refine wpAnyH_ready (rs := [11]) (by kernel_rfl) (by simp) (AllReadyH.cons (by simp only [List.getElem?_toArray, List.getElem?_cons_succ, List.getElem?_cons_zero]; exact rfl) (fun K hK => ?_) AllReadyH.nil)
                  go_simp
                  have bn := below1 ww5 (.cells #[.int .i64 x4, (.slice (some ⟨k2, 0, none⟩) k8 c5)] 34)
                  have NW := two_newW ww5 34 (.int .i64 x4) (.slice (some ⟨k2, 0, none⟩) k8 c5)
                  have ulo : k2 < ww5.heap.size := (World.ownsRow.lt R2 k2 rfl).2
                  have hz3' := bn.size
                  replace V3 := V3.below bn
                  replace V0 := V0.below bn
                  replace D := D.below bn
                  replace C5 := C5.below bn
                  replace G5 := grown_below G5 bn G5.size
                  replace R2 := R2.below bn
                  refine hK.out _ _ trivial (fun hHeld => ?_)
                  clear hK K hHeld bn
                  try simp only [Act.put, List.setIfInBounds_toArray, List.set_cons_zero, List.set_cons_succ]
                  generalize hzA : ww5.heap.size = zA at *
                  generalize ww5.alloc (.cells #[.int .i64 x4, (.slice (some ⟨k2, 0, none⟩) k8 c5)] 34) = ww6 at *
                rotate_left 1
                focus
                  go_simp
                  refine (l1Int_list p a n cap [64, 63] z7 2 _ C5 (by decide) (by decide) I7 (by omega)).mono ?_
                  rintro e ww4 ⟨x8, hx8, rfl, C7, g4⟩
                  replace V3 := V3.grown g4 (by omega)
                  replace V0 := V0.grown g4 (by omega)
                  replace D := D.curs g4 (by omega)
                  replace G5 := grownBy_trans G5 g4
                  replace C5 := C7
                  obtain ⟨k8, hk8, hk64⟩ : ∃ k : Nat, x8 = (k : Int) ∧ k ≤ 64 := by
                    simp at hx8
                    rcases hx8 with e | e
                    · exact ⟨64, e, by omega⟩
                    · exact ⟨63, e, by omega⟩
                  subst hk8
                  refine hK.out _ _ trivial (fun hHeld => ?_)
                  clear hK K hHeld g4 I7 C7 hx8
                  try simp only [Act.put, List.setIfInBounds_toArray, List.set_cons_zero, List.set_cons_succ]
                  refine wpAnyH_ready (rs := [1, 9]) (by kernel_rfl) (by simp) (AllReadyH.cons (by simp only [List.getElem?_toArray, List.getElem?_cons_succ, List.getElem?_cons_zero]; exact rfl) (fun K hK => ?_) (AllReadyH.cons (by simp only [List.getElem?_toArray, List.getElem?_cons_succ, List.getElem?_cons_zero]; exact rfl) (fun K hK => ?_) AllReadyH.nil))
                  focus
                    have y1 := V3.c1
                    go_simp
                    refine hK.out _ _ trivial (fun hHeld => ?_)
                    clear hK K hHeld y1
                    try simp only [Act.put, List.setIfInBounds_toArray, List.set_cons_zero, List.set_cons_succ]
                    refine wpAnyH_ready (rs := [9]) (by kernel_rfl) (by simp) (AllReadyH.cons (by simp only [List.getElem?_toArray, List.getElem?_cons_succ, List.getElem?_cons_zero]; exact rfl) (fun K hK => ?_) AllReadyH.nil)
                    go_simp
                    refine (l1Bytes_any p a n cap k8 _ C5 (by omega)).mono ?_
                    rintro e ww5 ⟨k2, c5, es, rfl, hes, h8e, R2, C7, g4⟩
                    have kz2 := (World.ownsRow.lt R2 k2 rfl).1
                    have nq : ∀ k, (Value.slice a2 qs.length c2).ownBlock = some k → k < ww4.heap.size := fun k hk => (D.lts.2.1 k hk).2
                    have nr : ∀ x ∈ vs, ∀ k, x.ownBlock = some k → k < ww4.heap.size := fun x hx k hk => (D.lts.2.2 x hx k hk).2
                    have na : ∀ k, (Value.slice (some ⟨g9, 0, none⟩) bs.length c).ownBlock = some k → k < ww4.heap.size := fun k hk => (D.lts.1 k hk).2
                    have hpc : p3 < ww4.heap.size := V3.lt
                    have hzc : w.heap.size + 1 ≤ ww4.heap.size := by have := V3.lt; have := V0.lt; omega
                    have hz2 := g4.size
                    replace V3 := V3.grown g4 (by omega)
                    replace V0 := V0.grown g4 (by omega)
                    replace D := D.curs g4 (by omega)
                    replace G5 := grownBy_trans G5 g4
                    replace C5 := C7
                    have HES : Hid (es.length = k8) := hes
                    replace R2 : RowB (w.heap.size + 1) ww5 (.slice (some ⟨k2, 0, none⟩) k8 c5) es := row_base R2 hzc
                    refine hK.out _ _ trivial (fun hHeld => ?_)
                    clear hK K hHeld g4 C7 h8e hes
                    try simp only [Act.put, List.setIfInBounds_toArray, List.set_cons_zero, List.set_cons_succ]
                    generalize hzc9 : ww4.heap.size = zc at *
                    refine takeW (i := 10) (by simp only [List.getElem?_toArray, List.getElem?_cons_succ, List.getElem?_cons_zero]; exact rfl) (by kernel_rfl) (by kernel_rfl) (by kernel_rfl) (by exact fun _ _ _ h => h) (by rfl) (by intro wq hSw; go_simp <;> with_reducible rfl) (by exact trivial) ?_
                    try simp only [Act.put, List.setIfInBounds_toArray, List.set_cons_zero, List.set_cons_succ]
                    refine wpAnyH_ready (rs := [11]) (by kernel_rfl) (by simp) (AllReadyH.cons (by simp only [List.getElem?_toArray, List.getElem?_cons_succ, List.getElem?_cons_zero]; exact rfl) (fun K hK => ?_) AllReadyH.nil)
                    go_simp
                    have bn := below1 ww5 (.cells #[.int .i64 x4, (.slice (some ⟨k2, 0, none⟩) k8 c5)] 34)
                    have NW := two_newW ww5 34 (.int .i64 x4) (.slice (some ⟨k2, 0, none⟩) k8 c5)
                    have ulo : k2 < ww5.heap.size := (World.ownsRow.lt R2 k2 rfl).2
                    have hz3' := bn.size
                    replace V3 := V3.below bn
                    replace V0 := V0.below bn
                    replace D := D.below bn
                    replace C5 := C5.below bn
                    replace G5 := grown_below G5 bn G5.size
                    replace R2 := R2.below bn
                    refine hK.out _ _ trivial (fun hHeld => ?_)
                    clear hK K hHeld bn
                    try simp only [Act.put, List.setIfInBounds_toArray, List.set_cons_zero, List.set_cons_succ]
                    generalize hzA : ww5.heap.size = zA at *
                    generalize ww5.alloc (.cells #[.int .i64 x4, (.slice (some ⟨k2, 0, none⟩) k8 c5)] 34) = ww6 at *
                  rotate_left 1
                  focus
                    go_simp
                    refine (l1Bytes_any p a n cap k8 _ C5 (by omega)).mono ?_
                    rintro e ww5 ⟨k2, c5, es, rfl, hes, h8e, R2, C7, g4⟩
                    have kz2 := (World.ownsRow.lt R2 k2 rfl).1
                    have nq : ∀ k, (Value.slice a2 qs.length c2).ownBlock = some k → k < ww4.heap.size := fun k hk => (D.lts.2.1 k hk).2
                    have nr : ∀ x ∈ vs, ∀ k, x.ownBlock = some k → k < ww4.heap.size := fun x hx k hk => (D.lts.2.2 x hx k hk).2
                    have na : ∀ k, (Value.slice (some ⟨g9, 0, none⟩) bs.length c).ownBlock = some k → k < ww4.heap.size := fun k hk => (D.lts.1 k hk).2
                    have hpc : p3 < ww4.heap.size := V3.lt
                    have hzc : w.heap.size + 1 ≤ ww4.heap.size := by have := V3.lt; have := V0.lt; omega
                    have hz2 := g4.size
                    replace V3 := V3.grown g4 (by omega)
                    replace V0 := V0.grown g4 (by omega)
                    replace D := D.curs g4 (by omega)
                    replace G5 := grownBy_trans G5 g4
                    replace C5 := C7
                    have HES : Hid (es.length = k8) := hes
                    replace R2 : RowB (w.heap.size + 1) ww5 (.slice (some ⟨k2, 0, none⟩) k8 c5) es := row_base R2 hzc
                    refine hK.out _ _ trivial (fun hHeld => ?_)
                    clear hK K hHeld g4 C7 h8e hes
                    try simp only [Act.put, List.setIfInBounds_toArray, List.set_cons_zero, List.set_cons_succ]
                    generalize hzc9 : ww4.heap.size = zc at *
                    refine takeW (i := 10) (by simp only [List.getElem?_toArray, List.getElem?_cons_succ, List.getElem?_cons_zero]; exact rfl) (by kernel_rfl) (by kernel_rfl) (by kernel_rfl) (by exact fun _ _ _ h => h) (by rfl) (by intro wq hSw; go_simp <;> with_reducible rfl) (by exact trivial) ?_
                    try simp only [Act.put, List.setIfInBounds_toArray, List.set_cons_zero, List.set_cons_succ]
                    refine wpAnyH_ready (rs := [1, 11]) (by kernel_rfl) (by simp) (AllReadyH.cons (by simp only [List.getElem?_toArray, List.getElem?_cons_succ, List.getElem?_cons_zero]; exact rfl) (fun K hK => ?_) (AllReadyH.cons (by simp only [List.getElem?_toArray, List.getElem?_cons_succ, List.getElem?_cons_zero]; exact rfl) (fun K hK => ?_) AllReadyH.nil))
                    focus
                      have y1 := V3.c1
                      go_simp
                      refine hK.out _ _ trivial (fun hHeld => ?_)
                      clear hK K hHeld y1
                      try simp only [Act.put, List.setIfInBounds_toArray, List.set_cons_zero, List.set_cons_succ]
                      refine wpAnyH_ready (rs := [11]) (by kernel_rfl) (by simp) (AllReadyH.cons (by simp only [List.getElem?_toArray, List.getElem?_cons_succ, List.getElem?_cons_zero]; exact rfl) (fun K hK => ?_) AllReadyH.nil)
                      go_simp
                      have bn := below1 ww5 (.cells #[.int .i64 x4, (.slice (some ⟨k2, 0, none⟩) k8 c5)] 34)
                      have NW := two_newW ww5 34 (.int .i64 x4) (.slice (some ⟨k2, 0, none⟩) k8 c5)
                      have ulo : k2 < ww5.heap.size := (World.ownsRow.lt R2 k2 rfl).2
                      have hz3' := bn.size
                      replace V3 := V3.below bn
                      replace V0 := V0.below bn
                      replace D := D.below bn
                      replace C5 := C5.below bn
                      replace G5 := grown_below G5 bn G5.size
                      replace R2 := R2.below bn
                      refine hK.out _ _ trivial (fun hHeld => ?_)
                      clear hK K hHeld bn
                      try simp only [Act.put, List.setIfInBounds_toArray, List.set_cons_zero, List.set_cons_succ]
                      generalize hzA : ww5.heap.size = zA at *
                      generalize ww5.alloc (.cells #[.int .i64 x4, (.slice (some ⟨k2, 0, none⟩) k8 c5)] 34) = ww6 at *
                    rotate_left 1
                    focus
                      go_simp
                      have bn := below1 ww5 (.cells #[.int .i64 x4, (.slice (some ⟨k2, 0, none⟩) k8 c5)] 34)
                      have NW := two_newW ww5 34 (.int .i64 x4) (.slice (some ⟨k2, 0, none⟩) k8 c5)
                      have ulo : k2 < ww5.heap.size := (World.ownsRow.lt R2 k2 rfl).2
                      have hz3' := bn.size
                      replace V3 := V3.below bn
                      replace V0 := V0.below bn
                      replace D := D.below bn
                      replace C5 := C5.below bn
                      replace G5 := grown_below G5 bn G5.size
                      replace R2 := R2.below bn
                      refine hK.out _ _ trivial (fun hHeld => ?_)
                      clear hK K hHeld bn
                      try simp only [Act.put, List.setIfInBounds_toArray, List.set_cons_zero, List.set_cons_succ]
                      generalize hzA : ww5.heap.size = zA at *
                      generalize ww5.alloc (.cells #[.int .i64 x4, (.slice (some ⟨k2, 0, none⟩) k8 c5)] 34) = ww6 at *
                      refine wpAnyH_ready (rs := [1]) (by kernel_rfl) (by simp) (AllReadyH.cons (by simp only [List.getElem?_toArray, List.getElem?_cons_succ, List.getElem?_cons_zero]; exact rfl) (fun K hK => ?_) AllReadyH.nil)
                      have y1 := V3.c1
                      go_simp
                      refine hK.out _ _ trivial (fun hHeld => ?_)
                      clear hK K hHeld y1
                      try simp only [Act.put, List.setIfInBounds_toArray, List.set_cons_zero, List.set_cons_succ]
                    rotate_left 1
                  rotate_left 2
                rotate_left 3
              rotate_left 4
            rotate_left 5
          rotate_left 6
          all_goals
            refine wpAnyH_ready (rs := [12]) (by kernel_rfl) (by simp) (AllReadyH.cons (by simp only [List.getElem?_toArray, List.getElem?_cons_succ, List.getElem?_cons_zero]; exact rfl) (fun K hK => ?_) AllReadyH.nil)
            refine wp_append_at (.tmp 41) (.tmp 51) 24 rfl (w.heap.size + 1) 34 iW (.agg #[.int .i64 0, .slice none 0 0]) 2 32 Tryd.underlying24 hiW hW0 hW1 hW2 rfl (by decide) (.slice a2 qs.length c2) vs.length (wrC qs vs) rfl D.que.own ⟨zA, 0, none⟩ 1 _ [.int .i64 x4, (.slice (some ⟨k2, 0, none⟩) k8 c5)] rfl rfl NW (by intro y hy; simp at hy; rcases hy with rfl | rfl <;> rfl) (by unfold maxLen; have := hvl.out; have := QU.out; omega) (by have := hvl.out; have := QU.out; omega) (by omega) ?_
            intro v7 ww7 R7 G7 A7
            have RN := QuR.snoc (q := (x4, es)) D.que R2 (fun k hk => ⟨fun e => by have := nq k e; injection hk with hk; dsimp only at hk; omega, fun e => by
              injection hk with hk
              dsimp only at hk
              rcases A7 with e7 | e7
              · rw [e7] at e; have := nq k e; omega
              · rw [e7] at e; injection e with e; omega, fun y hy e => by have := nr y hy k e; injection hk with hk; dsimp only at hk; omega⟩) R7 G7 A7
            have RB : RowB (w.heap.size + 1) ww7 (.slice (some ⟨g9, 0, none⟩) bs.length c) bs := owns_kept' D.row G7 (fun k hk e => (D.ap k hk).1 e)
            have DN : DkR (w.heap.size + 1) ww7 (.slice (some ⟨g9, 0, none⟩) bs.length c) v7 (vs ++ [(.slice (some ⟨k2, 0, none⟩) k8 c5)]) bs (qs ++ [(x4, es)]) := ⟨RB, RN, fun k hk => ⟨fun e => by
              rcases A7 with e7 | e7
              · rw [e7] at e; exact (D.ap k hk).1 e
              · rw [e7] at e; have := na k hk; injection e with e; omega, fun u hu e => by
              rcases List.mem_append.1 hu with hu | hu
              · exact (D.ap k hk).2 u hu e
              · simp at hu; subst hu; have := na k hk; injection e with e; dsimp only at e; omega⟩⟩
            have nq2 : ∀ i, (i = w.heap.size ∨ i = p3 ∨ i = p) → (Value.slice a2 qs.length c2).ownBlock ≠ some i := fun i hi e => by
              rcases hi with rfl | rfl | rfl
              · have := (D.lts.2.1 _ e).1; omega
              · exact HN.out _ (List.mem_cons_of_mem _ (List.mem_cons_self ..)) e
              · have := (D.lts.2.1 _ e).1; omega
            have V0b := Ext2.boxD G7 V0 (nq2 _ (.inl rfl))
            have V3c := Ext2.boxD G7 V3 (nq2 _ (.inr (.inl rfl)))
            have C6 := C5.keptR G7 (nq2 _ (.inr (.inr rfl))) (fun b off e hn e2 => by have := HLO.out b off e hn; have := (D.lts.2.1 _ e2).1; omega)
            have G6 := grown_low G5 G7 (fun q e => by have := (D.lts.2.1 q e).1; omega)
            have N9 : ∀ u ∈ (Value.slice (some ⟨g9, 0, none⟩) bs.length c :: v7 :: (vs ++ [(.slice (some ⟨k2, 0, none⟩) k8 c5)])), u.ownBlock ≠ some p3 := fun u hu e => by
              rcases List.mem_cons.1 hu with rfl | hu
              · exact HN.out _ (List.mem_cons_self ..) e
              · rcases List.mem_cons.1 hu with rfl | hu
                · rcases A7 with e7 | e7
                  · rw [e7] at e; exact HN.out _ (List.mem_cons_of_mem _ (List.mem_cons_self ..)) e
                  · rw [e7] at e; injection e with e; omega
                · rcases List.mem_append.1 hu with hu | hu
                  · exact HN.out _ (List.mem_cons_of_mem _ (List.mem_cons_of_mem _ hu)) e
                  · simp at hu; subst hu; injection e with e; dsimp only at e; omega
            obtain ⟨a7, c9, rfl, _, _⟩ := RN.shape
            have lv : (qs ++ [(x4, es)]).length = qs.length + 1 := by rw [List.length_append, List.length_singleton]
            have LV : Hid ((qs ++ [(x4, es)]).length = qs.length + 1) := lv
            have UPQ : Hid (uptoQ (qs ++ [(x4, es)]) (qs ++ [(x4, es)]).length ≤ 400) := by show _ ≤ _; rw [uptoQ_snoc]; have := QU.out; have := HES.out; dsimp only; omega
            have SS : Hid (SomeV (vs ++ [(.slice (some ⟨k2, 0, none⟩) k8 c5)])) := HSV.out.snoc ⟨_, _, _, rfl⟩
            rw [lv] at DN N9 ⊢
            refine hK.out _ _ trivial (fun hHeld => ?_)
            clear hK K hHeld G7 A7 R7 D R2 NW RN RB nq2 nq nr na lv V0 V3 C5 G5
            try simp only [Act.put, List.setIfInBounds_toArray, List.set_cons_zero, List.set_cons_succ]
            refine takeW (i := 13) (by simp only [List.getElem?_toArray, List.getElem?_cons_succ, List.getElem?_cons_zero]; exact rfl) (by kernel_rfl) (by kernel_rfl) (by kernel_rfl) (by exact fun _ _ _ h => h) (by rfl) (by intro wq hSw; go_simp <;> with_reducible rfl) (by exact trivial) ?_
            try simp only [Act.put, List.setIfInBounds_toArray, List.set_cons_zero, List.set_cons_succ]
            refine wpAnyH_ready (rs := [14]) (by kernel_rfl) (by simp) (AllReadyH.cons (by simp only [List.getElem?_toArray, List.getElem?_cons_succ, List.getElem?_cons_zero]; exact rfl) (fun K hK => ?_) AllReadyH.nil)
            have y0 := V3c.c0
            have y1 := V3c.c1
            have yf := V3c.fr 1
            go_simp
            have gq : ww7.grownBy (ww7.setCell ⟨p3, 1, none⟩ (.slice a7 (qs.length + 1) c9)) (some p3) := grownBy_setCell (p := ⟨p3, 1, none⟩) (grownBy_refl _ _) rfl _
            replace DN := DN.kept gq (fun k hk e => N9 _ (List.mem_cons_self ..) (hk.trans e.symm)) (fun k hk e => N9 _ (List.mem_cons_of_mem _ (List.mem_cons_self ..)) (hk.trans e.symm)) (fun y hy k hk e => N9 y (List.mem_cons_of_mem _ (List.mem_cons_of_mem _ hy)) (hk.trans e.symm))
            have V3b := V3c.set1D (.slice a7 (qs.length + 1) c9)
            replace V0b := V0b.grown gq (by omega)
            replace C6 := C6.keptR gq (fun e => by injection e with e; omega) (fun b off e hn e2 => by have := HLO.out b off e hn; injection e2 with e2; omega)
            replace G6 := grown_low G6 gq (fun q e => by injection e with e; omega)
            have DD6 : DkD (w.heap.size + 1) (ww7.setCell ⟨p3, 1, none⟩ (.slice a7 (qs.length + 1) c9)) (some ⟨g9, 0, none⟩) c a7 c9 (vs ++ [(.slice (some ⟨k2, 0, none⟩) k8 c5)]) bs (qs ++ [(x4, es)]) := DkR.drawn (by rw [LV.out]; exact DN) SS.out hbb (by have := LV.out; have := QU.out; omega) UPQ.out
            refine hK.out _ _ trivial (fun hHeld => ?_)
            clear hK K hHeld gq V3c y0 y1 yf DN N9
            try simp only [Act.put]
            generalize ww7.setCell ⟨p3, 1, none⟩ (.slice a7 (qs.length + 1) c9) = ww8 at *
            refine wpAnyH_done (by kernel_rfl) ?_ _
            obtain ⟨y0, y1, yf, _⟩ := id V3b
            go_upto_region 15 with fail
            clear y0 y1 yf
            have gq : ww8.grownBy ((ww8.setCell ⟨w.heap.size, 0, none⟩ (.slice (some ⟨g9, 0, none⟩) bs.length c)).setCell ⟨w.heap.size, 1, none⟩ (.slice a7 (qs.length + 1) c9)) (some w.heap.size) := grownBy_setCell (p := ⟨w.heap.size, 1, none⟩) (grownBy_setCell (p := ⟨w.heap.size, 0, none⟩) (grownBy_refl _ _) rfl _) rfl _
            have DF := (DD6.kept gq (by omega)).base (lo' := w.heap.size) (by omega)
            have CF := C6.keptR gq (fun e => by injection e with e; omega) (fun b off e hn e2 => by have := HLO.out b off e hn; injection e2 with e2; omega)
            have GF := grown_low G6 gq (fun q e => by injection e with e; omega)
            have r0 := (V0b.put (.slice (some ⟨g9, 0, none⟩) bs.length c) (.slice a7 (qs.length + 1) c9)).c0
            have r1 := (V0b.put (.slice (some ⟨g9, 0, none⟩) bs.length c) (.slice a7 (qs.length + 1) c9)).c1
            obtain ⟨y0, y1, yf, _⟩ := id V3b
            obtain ⟨q0, q1, qf, _⟩ := id V0b
            clear gq V3b V0b C6 G6 DD6
            go_wp2
            exact bodyPost_ret (v := .agg #[(.slice (some ⟨g9, 0, none⟩) bs.length c), (.slice a7 (qs.length + 1) c9)]) (by simp [results, Tryd.results13, go_sem, r0, r1]) rfl ⟨_, _, a7, c9, _, bs, qs ++ [(x4, es)], by rw [LV.out], DF, CF, GF⟩
        · by_cases e2 : v = 2
          · subst e2
            have DD : DkD (w.heap.size + 1) w5 none 0 none 0 [] [] [] := ⟨⟨by simp, by simp [maxLen], fun h => absurd rfl h⟩, QuR.nil _ _, (fun u hu => by cases hu), by simp, by simp, by simp [uptoQ], (fun ok => absurd ok.2.1 (by simp)), fun b off e => by cases e⟩
            clear D
            have g6 : w5.grownBy ((w5.setCell ⟨p3, 0, none⟩ (.slice none 0 0)).setCell ⟨p3, 1, none⟩ (.slice none 0 0)) (some p3) := grownBy_setCell (p := ⟨p3, 1, none⟩) (grownBy_setCell (p := ⟨p3, 0, none⟩) (grownBy_refl _ _) rfl _) rfl _
            have V3b := V3.put (.slice none 0 0) (.slice none 0 0)
            have V0b := V0.grown g6 (by omega)
            have C6 := C5.keptR g6 (fun e => by injection e with e; omega) (fun b off e hn e2 => by have := HLO.out b off e hn; injection e2 with e2; omega)
            have G6 := grown_low G5 g6 (fun q e => by injection e with e; omega)
            have DD6 : DkD (w.heap.size + 1) ((w5.setCell ⟨p3, 0, none⟩ (.slice none 0 0)).setCell ⟨p3, 1, none⟩ (.slice none 0 0)) none 0 none 0 [] [] [] := ⟨⟨by simp, by simp [maxLen], fun h => absurd rfl h⟩, QuR.nil _ _, (fun u hu => by cases hu), by simp, by simp, by simp [uptoQ], (fun ok => absurd ok.2.1 (by simp)), fun b off e => by cases e⟩
            obtain ⟨y0, y1, yf, _⟩ := id V3
            go_upto_region 15 with fail
            clear y0 y1 yf V3 V0 C5 G5 DD g6
            generalize (w5.setCell ⟨p3, 0, none⟩ (.slice none 0 0)).setCell ⟨p3, 1, none⟩ (.slice none 0 0) = W6 at *
            have gq : W6.grownBy ((W6.setCell ⟨w.heap.size, 0, none⟩ (.slice none 0 0)).setCell ⟨w.heap.size, 1, none⟩ (.slice none 0 0)) (some w.heap.size) := grownBy_setCell (p := ⟨w.heap.size, 1, none⟩) (grownBy_setCell (p := ⟨w.heap.size, 0, none⟩) (grownBy_refl _ _) rfl _) rfl _
            have DF := (DD6.kept gq (by omega)).base (lo' := w.heap.size) (by omega)
            have CF := C6.keptR gq (fun e => by injection e with e; omega) (fun b off e hn e2 => by have := HLO.out b off e hn; injection e2 with e2; omega)
            have GF := grown_low G6 gq (fun q e => by injection e with e; omega)
            have r0 := (V0b.put (.slice none 0 0) (.slice none 0 0)).c0
            have r1 := (V0b.put (.slice none 0 0) (.slice none 0 0)).c1
            obtain ⟨y0, y1, yf, _⟩ := id V3b
            obtain ⟨q0, q1, qf, _⟩ := id V0b
            clear gq V3b V0b C6 G6 DD6
            go_wp2
            exact bodyPost_ret (v := .agg #[(.slice none 0 0), (.slice none 0 0)]) (by simp [results, Tryd.results13, go_sem, r0, r1]) rfl ⟨none, 0, none, 0, [], [], [], rfl, DF, CF, GF⟩
          · have DD6 := D.drawn HSV.out hbb (by have := QU.out; omega) (by have := QU.out; omega)
            have V3b := V3
            have V0b := V0
            have C6 := C5
            have G6 := G5
            clear D V3 V0 C5 G5
            obtain ⟨y0, y1, yf, _⟩ := id V3b
            go_upto_region 15 with fail
            clear y0 y1 yf
            have gq : w5.grownBy ((w5.setCell ⟨w.heap.size, 0, none⟩ (.slice (some ⟨g9, 0, none⟩) bs.length c)).setCell ⟨w.heap.size, 1, none⟩ (.slice a2 qs.length c2)) (some w.heap.size) := grownBy_setCell (p := ⟨w.heap.size, 1, none⟩) (grownBy_setCell (p := ⟨w.heap.size, 0, none⟩) (grownBy_refl _ _) rfl _) rfl _
            have DF := (DD6.kept gq (by omega)).base (lo' := w.heap.size) (by omega)
            have CF := C6.keptR gq (fun e => by injection e with e; omega) (fun b off e hn e2 => by have := HLO.out b off e hn; injection e2 with e2; omega)
            have GF := grown_low G6 gq (fun q e => by injection e with e; omega)
            have r0 := (V0b.put (.slice (some ⟨g9, 0, none⟩) bs.length c) (.slice a2 qs.length c2)).c0
            have r1 := (V0b.put (.slice (some ⟨g9, 0, none⟩) bs.length c) (.slice a2 qs.length c2)).c1
            obtain ⟨y0, y1, yf, _⟩ := id V3b
            obtain ⟨q0, q1, qf, _⟩ := id V0b
            clear gq V3b V0b C6 G6 DD6
            go_wp2
            exact bodyPost_ret (v := .agg #[(.slice (some ⟨g9, 0, none⟩) bs.length c), (.slice a2 qs.length c2)]) (by simp [results, Tryd.results13, go_sem, r0, r1]) rfl ⟨_, _, _, _, vs, bs, qs, rfl, DF, CF, GF⟩
end Go.Proofs.YtfdfcgjdigpofaaDoor
