/- The program's scan of a log. -/
import Derived.Test.YtgcaemhcdpddiaaDoorTkI
import Derived.WalkMore
namespace Go.Proofs.YtgcaemhcdpddiaaDoor
open Go.RowKit

theorem lgGo_iff {s : LgSt} {bs : List Int} (h : LgIs bs) : lgGo s bs ↔ GoesOn s.st s.nx s.le (lgGet bs 0) (lgGet bs 4) := by
  unfold lgGo GoesOn
  exact ⟨fun q => q.2, fun q => ⟨h, q⟩⟩
/-- The greatest epoch is another one. -/
def moS (s : LgSt) (m : Int) : LgSt := ⟨s.st, s.nx, s.le, m, s.wh, s.rc, s.bg⟩
def enS (s : LgSt) (m : Int) : LgSt := ⟨2, s.nx, s.le, m, s.wh, s.rc, s.bg⟩
theorem tkS_step {s : LgSt} {bs : List Int} (h : lgGo s bs) : tkS (moS s (max s.mo (lgGet bs 0))) (lgGet bs 0) (u8N bs 8) (lgPc bs) = lgStep s bs := by
  unfold tkS moS
  by_cases e : u8N bs 8 = 1
  · rw [if_pos e, lgStep_more h e, lgMo_yes h.1]
  · rw [if_neg e, lgStep_last h e, lgMo_yes h.1]
theorem enS_step {s : LgSt} {bs : List Int} (h : ¬lgGo s bs) : enS s (lgMo s bs) = lgStep s bs := by
  rw [lgStep_no h]; rfl
theorem ScM.mo {b0 lo p : Nat} {w : World} {rv bv : Value} {vs : List (Value × Int)} {s : LgSt} (h : ScM b0 lo p w rv bv vs s) (hp : p < lo) (m : Int) : ScM b0 lo p (w.setCell ⟨p, 3, none⟩ (.int .i64 m)) rv bv vs (moS s m) := by
  have gq : w.grownBy (w.setCell ⟨p, 3, none⟩ (.int .i64 m)) (some p) := grownBy_setCell (p := ⟨p, 3, none⟩) (grownBy_refl _ _) rfl _
  exact ⟨h.box.put 3 (.int .i64 m) (by simp), h.out.kept gq (fun k hk e => by have := (h.out.lts.1 k hk).1; injection e with e; omega) (fun u hu k hk e => by have := (h.out.lts.2 u hu k hk).1; injection e with e; omega), owns_kept' h.row gq (fun k hk e => by have := (World.ownsRow.lt h.row k hk).1; injection e with e; omega), h.ap⟩
theorem ScM.ends {b0 lo p : Nat} {w : World} {rv bv : Value} {vs : List (Value × Int)} {s : LgSt} {m : Int} (h : ScM b0 lo p w rv bv vs (moS s m)) (hp : p < lo) : ScM b0 lo p (w.setCell ⟨p, 0, none⟩ (.int .i64 2)) rv bv vs (enS s m) := by
  have gq : w.grownBy (w.setCell ⟨p, 0, none⟩ (.int .i64 2)) (some p) := grownBy_setCell (p := ⟨p, 0, none⟩) (grownBy_refl _ _) rfl _
  exact ⟨h.box.put 0 (.int .i64 2) (by simp), h.out.kept gq (fun k hk e => by have := (h.out.lts.1 k hk).1; injection e with e; omega) (fun u hu k hk e => by have := (h.out.lts.2 u hu k hk).1; injection e with e; omega), owns_kept' h.row gq (fun k hk e => by have := (World.ownsRow.lt h.row k hk).1; injection e with e; omega), h.ap⟩
theorem Box2.grownS {lo q : Nat} {w w' : World} {x0 x1 : Value} {row : Option Nat} (h : Box2 lo w q x0 x1) (g : w.grownBy w' row) (ne : row ≠ some q) : Box2 lo w' q x0 x1 := by
  obtain ⟨hc, hf⟩ := grown_at g h.lt (by intro e; exact ne e.symm)
  exact ⟨(hc 0).trans h.c0, (hc 1).trans h.c1, fun o => (hf o).trans (h.fr o), h.lo⟩
theorem BoxL.under {lo p b : Nat} {w w' : World} {xs : List Value} (h : BoxL lo w p xs) (hb : Below b w w') (hp : p < b) : BoxL lo w' p xs := by
  have e := hb.block p hp
  exact ⟨fun i v hv => (World.cell?_of_block (a := ⟨p, i, none⟩) e).trans (h.c i v hv), fun o => (World.frozen?_of_block (a := ⟨p, o, none⟩) e).trans (h.fr o), h.lo, Nat.lt_of_lt_of_le h.lt hb.size⟩

set_option maxRecDepth 20000 in
set_option maxHeartbeats 500000 in
theorem scanned_any (b : Addr) (a a2 : Option Addr) (c c2 n2 k : Nat) (bs : List Int) (F L : Int) (w : World) (h : SeesB w a c bs) (E : Er b w) (hk : bs.length / 64 = k) (hb0 : bs.length ≤ 2000000) (h8 : ∀ x ∈ bs, 0 ≤ x ∧ x < 256) (f0 : 0 ≤ F) (f1 : F ≤ L) (f2 : L < (k : Int)) (k4 : k ≤ 400) :
    Calls Tryd.prog 37 #[.agg #[.slice a bs.length c, .slice a2 n2 c2], .int .i64 F, .int .i64 L] w fun e w' => ∃ rv bv vs s, s = lgFold (fun t => secN bs t) F.toNat (L - F + 1).toNat ∧ e = .returned (.agg #[.int .i64 (s.st : Int), .int .i64 (s.nx : Int), .int .i64 s.le, .int .i64 s.mo, .int .i64 (s.wh : Int), rv, bv]) ∧ (∃ ba bn bc, bv = .slice ba bn bc) ∧ EsR w.heap.size w' rv vs s.rc ∧ Below w.heap.size w w' := by
  have wp := E.pos
  have HS : Hid (SeesB w a c bs) := h
  have HE : Hid (Er b w) := E
  have HK : Hid (bs.length / 64 = k) := hk
  have H8 : Hid (∀ x ∈ bs, 0 ≤ x ∧ x < 256) := h8
  obtain ⟨K, hK⟩ : ∃ K : Nat, Hid ((L - F + 1).toNat = K) := ⟨_, rfl⟩
  have hKL : (K : Int) = L - F + 1 := by rw [← hK.out]; omega
  have V := Box2.new w (lo := w.heap.size) (Nat.le_refl _) (.slice a bs.length c) (.slice a2 n2 c2) 34
  have b1 := below1 w (.cells #[.slice a bs.length c, .slice a2 n2 c2] 34)
  generalize hWa : w.alloc (.cells #[.slice a bs.length c, .slice a2 n2 c2] 34) = Wa at *
  have za : Wa.heap.size = w.heap.size + 1 := by rw [← hWa]; simp
  have VR : BoxL w.heap.size (Wa.alloc (.cells #[.int .i64 0, .int .i64 0, .int .i64 0, .int .i64 0, .int .i64 0, .slice none 0 0, .slice none 0 0] 72)) Wa.heap.size [.int .i64 0, .int .i64 0, .int .i64 0, .int .i64 0, .int .i64 0, .slice none 0 0, .slice none 0 0] := BoxL.new Wa b1.size _ _
  have b2 := below1 Wa (.cells #[.int .i64 0, .int .i64 0, .int .i64 0, .int .i64 0, .int .i64 0, .slice none 0 0, .slice none 0 0] 72)
  replace V := V.below b2
  have B := b1.trans (b2.mono b1.size)
  rw [za] at VR
  generalize hWb : Wa.alloc (.cells #[.int .i64 0, .int .i64 0, .int .i64 0, .int .i64 0, .int .i64 0, .slice none 0 0, .slice none 0 0] 72) = Wb at *
  have zb : Wb.heap.size = w.heap.size + 2 := by rw [← hWb]; simp [za]
  have VS : BoxL w.heap.size (Wb.alloc (.cells #[.int .i64 0, .int .i64 0, .int .i64 1, .int .i64 0, .int .i64 0, .slice none 0 0, .slice none 0 0] 72)) Wb.heap.size [.int .i64 0, .int .i64 0, .int .i64 1, .int .i64 0, .int .i64 0, .slice none 0 0, .slice none 0 0] := BoxL.new Wb B.size _ _
  have b3 := below1 Wb (.cells #[.int .i64 0, .int .i64 0, .int .i64 1, .int .i64 0, .int .i64 0, .slice none 0 0, .slice none 0 0] 72)
  replace V := V.below b3
  replace VR := VR.below b3
  replace B := B.trans (b3.mono B.size)
  rw [zb] at VS
  have zc : (Wb.alloc (.cells #[.int .i64 0, .int .i64 0, .int .i64 1, .int .i64 0, .int .i64 0, .slice none 0 0, .slice none 0 0] 72)).heap.size = w.heap.size + 3 := by simp [zb]
  have M0 : ScM w.heap.size (w.heap.size + 3) (w.heap.size + 2) (Wb.alloc (.cells #[.int .i64 0, .int .i64 0, .int .i64 1, .int .i64 0, .int .i64 0, .slice none 0 0, .slice none 0 0] 72)) (.slice none 0 0) (.slice none 0 0) [] (lgFold (fun t => secN bs t) F.toNat 0) :=
    ⟨VS, EsR.nil _ _, RowB.nil _ _, fun k hk => by cases hk⟩
  clear h E hk h8 b1 b2 b3 VS
  go_enter Tryd.func37, Tryd.ntmps37
  go_wp2
  go_step3
  go_wp2
  try rw [za]
  try rw [zb]
  generalize Wb.alloc (.cells #[.int .i64 0, .int .i64 0, .int .i64 1, .int .i64 0, .int .i64 0, .slice none 0 0, .slice none 0 0] 72) = W0 at *
  clear hWa hWb
  go_step3
  go_wp2
  go_loopw [8] (fun s8 wr => ∃ (j : Nat) (s : LgSt) (rv bv : Value) (vs : List (Value × Int)), j ≤ K ∧ s8 = .int .i64 (F + (j : Int)) ∧ Hid (s = lgFold (fun t => secN bs t) F.toNat j) ∧ Hid (ScM w.heap.size (w.heap.size + 3) (w.heap.size + 2) wr rv bv vs s) ∧ Box2 w.heap.size wr w.heap.size (.slice a bs.length c) (.slice a2 n2 c2) ∧ BoxL w.heap.size wr (w.heap.size + 1) [.int .i64 0, .int .i64 0, .int .i64 0, .int .i64 0, .int .i64 0, .slice none 0 0, .slice none 0 0] ∧ Below w.heap.size w wr ∧ w.heap.size + 3 ≤ wr.heap.size) (fun s8 _ => K - (intOf s8 - F).toNat)
  case atStart => exact ⟨0, _, _, _, [], Nat.zero_le _, by simp, rfl, M0, V, VR, B, by omega⟩
  case round =>
    clear M0 V VR B
    obtain ⟨j, s, rv, bv, vs, hj, rfl, hs, M, V, VR, B, hz⟩ := hrel
    rename World => wr
    have IV : LgInv j s := by rw [hs.out]; exact lgFold_inv _ _ j
    obtain ⟨i1, i2, i3, i4, i5, i6, i7⟩ := IV
    obtain ⟨mo0, mo1⟩ := i4
    by_cases hlt : j < K
    · have hjL : F + (j : Int) ≤ L := by omega
      obtain ⟨v0, v1, _, _⟩ := id V
      go_wp2_with fail
      refine (stored_any b a a2 c c2 n2 k (F + (j : Int)) bs _ (HS.out.below B) (HE.out.below B wp) HK hb0).mono ?_
      rintro e w2 ⟨hst, hb⟩
      obtain rfl : e = .returned (.tuple #[.agg (secA (secN bs (F.toNat + j))), .nilIface]) := by
        rcases hst with ⟨_, _, q⟩ | ⟨q, _⟩
        · rw [q, show (F + (j : Int)).toNat = F.toNat + j by omega]
        · exact absurd ⟨by omega, by omega⟩ q
      have SL : (secN bs (F.toNat + j)).length = 64 := secN_l64 (by have := HK.out; omega)
      have S8 : Hid (∀ x ∈ secN bs (F.toNat + j), 0 ≤ x ∧ x < 256) := secN_u8 H8.out _
      have HF : Hid (lgFold (fun t => secN bs t) F.toNat (j + 1) = lgStep s (secN bs (F.toNat + j))) := by show _ = _; rw [hs.out]; rfl
      generalize secN bs (F.toNat + j) = sec at *
      have hsz : (secA sec).size = 64 := by rw [secA_size]; exact SL
      have h1 : (secA sec).all (·.oneCell') = true := by
        rw [Array.all_eq_true_iff_forall_mem]
        intro v hv
        exact ones8 sec v (by simpa [secA] using hv)
      have bn := below1 w2 (.cells (secA sec) 81)
      have ga := heap_alloc_new w2 (.cells (secA sec) 81)
      replace bn := hb.trans (bn.mono hb.size)
      have M2 : Hid (ScM w.heap.size (w.heap.size + 3) (w.heap.size + 2) (w2.alloc (.cells (secA sec) 81)) rv bv vs s) := M.out.below bn
      replace V := V.below bn
      replace VR := VR.below bn
      replace B := B.trans (bn.mono B.size)
      have hz2 : w.heap.size + 3 ≤ w2.heap.size := Nat.le_trans hz hb.size
      clear hst hb bn M v0 v1
      go_upto_region 6 with (refine wpList_store_row rfl 81 (.tmp 9) (.tmp 24) rfl w2.heap.size (secA sec) rfl rfl 81 _ (heap_alloc_new w2 _) (by rw [hsz]; exact infoSec) (by rw [hsz]; rfl) h1 ?_; rw [World.setRow_alloc_new])
      have hz3 : w2.heap.size < (w2.alloc (.cells (secA sec) 81)).heap.size := by simp
      generalize hp2 : w2.heap.size = p2 at *
      generalize w2.alloc (.cells (secA sec) 81) = W3 at *
      go_wp2_with (refine wpList_load_row rfl 81 (.tmp 9) rfl p2 rfl 81 (secA sec) (0, 0) _ ga Tryd.underlying81 rfl (by rw [hsz]; exact infoSec) ?_)
      refine (pieceOf_any sec _ SL S8.out).mono ?_
      rintro e w4 ⟨ep, nu, mk, v, ok, rfl, PR, hb⟩
      have M4 : Hid (ScM w.heap.size (w.heap.size + 3) (w.heap.size + 2) w4 rv bv vs s) := M2.out.below hb
      replace V := V.below hb
      replace VR := VR.below hb
      replace B := B.trans (hb.mono B.size)
      have hz4 : W3.heap.size ≤ w4.heap.size := hb.size
      clear hb M2 ga
      rcases PR with ⟨rfl, YI, e1, e2, e3, ad, cc, hab, rfl, SP⟩ | ⟨rfl, NI, rfl, rfl, rfl, rfl⟩
      · obtain ⟨pn, hpn⟩ : ∃ x, Hid (lgPc sec = x) := ⟨_, rfl⟩
        have hpl := lgPc_len YI
        rw [hpn.out] at SP hpl ⊢
        have HGO := lgGo_iff (s := s) YI
        rw [← e1, ← e2] at HGO
        have HG : Hid (lgGo s sec ↔ GoesOn s.st s.nx s.le ep nu) := HGO
        have E1 : Hid (ep = lgGet sec 0) := e1
        have E3 : Hid (mk = u8N sec 8) := e3
        clear HGO e1 e2 e3
        by_cases hmx : s.mo < ep
        · have HMX : Hid (max s.mo ep = ep) := by show _ = _; omega
          have bn := below1 w4 (.cells #[.int .i64 ep, .int .i64 nu, .int .u8 mk, .slice (some ad) pn.length cc] 87)
          have KP : BoxL w4.heap.size (w4.alloc (.cells #[.int .i64 ep, .int .i64 nu, .int .u8 mk, .slice (some ad) pn.length cc] 87)) w4.heap.size [.int .i64 ep, .int .i64 nu, .int .u8 mk, .slice (some ad) pn.length cc] := BoxL.new w4 (Nat.le_refl _) _ _
          have M5 : Hid (ScM w.heap.size (w.heap.size + 3) (w.heap.size + 2) (w4.alloc (.cells #[.int .i64 ep, .int .i64 nu, .int .u8 mk, .slice (some ad) pn.length cc] 87)) rv bv vs s) := M4.out.below bn
          replace V := V.below bn
          replace VR := VR.below bn
          replace B := B.trans (bn.mono B.size)
          replace SP := SP.below bn
          have hz5 : w4.heap.size < (w4.alloc (.cells #[.int .i64 ep, .int .i64 nu, .int .u8 mk, .slice (some ad) pn.length cc] 87)).heap.size := KP.lt
          clear bn M4
          go_upto_region 7 with fail
          generalize w4.alloc (.cells #[.int .i64 ep, .int .i64 nu, .int .u8 mk, .slice (some ad) pn.length cc] 87) = W5 at *
          generalize hp5 : w4.heap.size = p5 at *
          have x3 := M5.out.box.c 3 _ rfl
          have xf := M5.out.box.fr
          have kp0 := KP.c 0 _ rfl
          have M6 : Hid (ScM w.heap.size (w.heap.size + 3) (w.heap.size + 2) (W5.setCell ⟨w.heap.size + 2, 3, none⟩ (.int .i64 ep)) rv bv vs (moS s ep)) := M5.out.mo (by omega) _
          have gq : W5.grownBy (W5.setCell ⟨w.heap.size + 2, 3, none⟩ (.int .i64 ep)) (some (w.heap.size + 2)) := grownBy_setCell (p := ⟨w.heap.size + 2, 3, none⟩) (grownBy_refl _ _) rfl _
          have KP6 := KP.grown gq (by intro e; injection e with e; omega)
          have V6 := V.grownS gq (by intro e; injection e with e; omega)
          have VR6 := VR.grown gq (by intro e; injection e with e; omega)
          have B6 := B.setCell (p := ⟨w.heap.size + 2, 3, none⟩) (by dsimp only; omega) (.int .i64 ep)
          have SP6 := SP.keptW gq (fun b off _ e => by intro q; injection q with q; injection e with e; rw [e] at hab; have : b = W3.heap.size := hab; omega)
          clear gq KP V VR B SP M5
          go_upto_region 8 with fail
          clear x3 xf kp0
          generalize W5.setCell ⟨w.heap.size + 2, 3, none⟩ (.int .i64 ep) = X6 at *
          have kp0 := KP6.c 0 _ rfl
          have kp1 := KP6.c 1 _ rfl
          have kp2 := KP6.c 2 _ rfl
          have kp3 := KP6.c 3 _ rfl
          go_wp2_with fail
          clear kp0 kp1 kp2 kp3
          refine (goesOn_any w.heap.size (w.heap.size + 2) s.st s.nx s.le ep nu mk _ _ _ _ _ _ _ _ M6.out.box i1).mono ?_
          rintro e X7 ⟨r, rfl, hr, hb⟩
          have M7 : Hid (ScM w.heap.size (w.heap.size + 3) (w.heap.size + 2) X7 rv bv vs (moS s ep)) := M6.out.below hb
          have KP7 := KP6.below hb
          have V7 := V6.below hb
          have VR7 := VR6.below hb
          have B7 := B6.trans (hb.mono B6.size)
          have SP7 := SP6.below hb
          have hz7 : p5 < X7.heap.size := KP7.lt
          clear hb M6 KP6 V6 VR6 B6 SP6
          cases r with
          | true =>
            have YG : Hid (lgGo s sec) := HG.out.2 (hr.1 rfl)
            have kp0 := KP7.c 0 _ rfl
            have kp1 := KP7.c 1 _ rfl
            have kp2 := KP7.c 2 _ rfl
            have kp3 := KP7.c 3 _ rfl
            clear hr HG
            go_wp2_with fail
            clear kp0 kp1 kp2 kp3
            refine (take_any w.heap.size (w.heap.size + 3) (w.heap.size + 2) rv bv vs (moS s ep) ep nu mk ad cc pn _ M7.out (by omega) (by omega) SP7 (by omega) hpl (by show s.nx ≤ 400; omega) (by show s.bg.length ≤ 20000; omega) (by show s.rc.length ≤ 400; omega)).mono ?_
            rintro e w8 ⟨rfl, ⟨rv8, bv8, vs8, M8⟩, hb⟩
            have M9 : Hid (ScM w.heap.size (w.heap.size + 3) (w.heap.size + 2) w8 rv8 bv8 vs8 (lgStep s sec)) := by
              rw [← tkS_step YG.out, ← E1.out, ← E3.out, hpn.out, HMX.out]
              exact M8
            have V8 := V7.underB hb (by omega)
            have VR8 := VR7.under hb (by omega)
            have B8 := B7.trans (hb.mono (by omega))
            have hz8 : w.heap.size + 3 ≤ w8.heap.size := by have := hb.size; omega
            clear hb M7 V7 VR7 B7 SP7 KP7 M8
            go_wp2
            go_roundw
            case rel => exact ⟨j + 1, _, rv8, bv8, vs8, by omega, (by congr 1; push_cast; omega), HF.out.symm, M9, V8, VR8, B8, hz8⟩
            case measure => simp [intOf]; omega
          | false =>
            have NG : Hid (¬lgGo s sec) := fun q => by have := hr.2 (HG.out.1 q); cases this
            clear hr HG
            have x0 := M7.out.box.c 0 _ rfl
            have xf := M7.out.box.fr
            have M8 : Hid (ScM w.heap.size (w.heap.size + 3) (w.heap.size + 2) (X7.setCell ⟨w.heap.size + 2, 0, none⟩ (.int .i64 2)) rv bv vs (lgStep s sec)) := by
              have := M7.out.ends (by omega)
              rw [show enS s ep = lgStep s sec by rw [← enS_step NG.out]; rw [lgMo_yes YI, ← E1.out, HMX.out]] at this
              exact this
            have gq : X7.grownBy (X7.setCell ⟨w.heap.size + 2, 0, none⟩ (.int .i64 2)) (some (w.heap.size + 2)) := grownBy_setCell (p := ⟨w.heap.size + 2, 0, none⟩) (grownBy_refl _ _) rfl _
            have V8 := V7.grownS gq (by intro e; injection e with e; omega)
            have VR8 := VR7.grown gq (by intro e; injection e with e; omega)
            have B8 := B7.setCell (p := ⟨w.heap.size + 2, 0, none⟩) (by dsimp only; omega) (.int .i64 2)
            have hz8 : w.heap.size + 3 ≤ (X7.setCell ⟨w.heap.size + 2, 0, none⟩ (.int .i64 2)).heap.size := by simp; omega
            clear gq M7 V7 VR7 B7 SP7 KP7
            go_wp2
            go_roundw
            case rel => exact ⟨j + 1, _, rv, bv, vs, by omega, (by congr 1; push_cast; omega), HF.out.symm, M8, V8, VR8, B8, hz8⟩
            case measure => simp [intOf]; omega
        · have HMX : Hid (max s.mo ep = s.mo) := by show _ = _; omega
          have bn := below1 w4 (.cells #[.int .i64 ep, .int .i64 nu, .int .u8 mk, .slice (some ad) pn.length cc] 87)
          have KP : BoxL w4.heap.size (w4.alloc (.cells #[.int .i64 ep, .int .i64 nu, .int .u8 mk, .slice (some ad) pn.length cc] 87)) w4.heap.size [.int .i64 ep, .int .i64 nu, .int .u8 mk, .slice (some ad) pn.length cc] := BoxL.new w4 (Nat.le_refl _) _ _
          have M5 : Hid (ScM w.heap.size (w.heap.size + 3) (w.heap.size + 2) (w4.alloc (.cells #[.int .i64 ep, .int .i64 nu, .int .u8 mk, .slice (some ad) pn.length cc] 87)) rv bv vs s) := M4.out.below bn
          replace V := V.below bn
          replace VR := VR.below bn
          replace B := B.trans (bn.mono B.size)
          replace SP := SP.below bn
          have hz5 : w4.heap.size < (w4.alloc (.cells #[.int .i64 ep, .int .i64 nu, .int .u8 mk, .slice (some ad) pn.length cc] 87)).heap.size := KP.lt
          clear bn M4
          go_upto_region 7 with fail
          generalize w4.alloc (.cells #[.int .i64 ep, .int .i64 nu, .int .u8 mk, .slice (some ad) pn.length cc] 87) = W5 at *
          generalize hp5 : w4.heap.size = p5 at *
          have x3 := M5.out.box.c 3 _ rfl
          have xf := M5.out.box.fr
          have kp0 := KP.c 0 _ rfl
          have M6 : Hid (ScM w.heap.size (w.heap.size + 3) (w.heap.size + 2) (W5.setCell ⟨w.heap.size + 2, 3, none⟩ (.int .i64 s.mo)) rv bv vs (moS s s.mo)) := M5.out.mo (by omega) _
          have gq : W5.grownBy (W5.setCell ⟨w.heap.size + 2, 3, none⟩ (.int .i64 s.mo)) (some (w.heap.size + 2)) := grownBy_setCell (p := ⟨w.heap.size + 2, 3, none⟩) (grownBy_refl _ _) rfl _
          have KP6 := KP.grown gq (by intro e; injection e with e; omega)
          have V6 := V.grownS gq (by intro e; injection e with e; omega)
          have VR6 := VR.grown gq (by intro e; injection e with e; omega)
          have B6 := B.setCell (p := ⟨w.heap.size + 2, 3, none⟩) (by dsimp only; omega) (.int .i64 s.mo)
          have SP6 := SP.keptW gq (fun b off _ e => by intro q; injection q with q; injection e with e; rw [e] at hab; have : b = W3.heap.size := hab; omega)
          clear gq KP V VR B SP M5
          go_upto_region 8 with fail
          clear x3 xf kp0
          generalize W5.setCell ⟨w.heap.size + 2, 3, none⟩ (.int .i64 s.mo) = X6 at *
          have kp0 := KP6.c 0 _ rfl
          have kp1 := KP6.c 1 _ rfl
          have kp2 := KP6.c 2 _ rfl
          have kp3 := KP6.c 3 _ rfl
          go_wp2_with fail
          clear kp0 kp1 kp2 kp3
          refine (goesOn_any w.heap.size (w.heap.size + 2) s.st s.nx s.le ep nu mk _ _ _ _ _ _ _ _ M6.out.box i1).mono ?_
          rintro e X7 ⟨r, rfl, hr, hb⟩
          have M7 : Hid (ScM w.heap.size (w.heap.size + 3) (w.heap.size + 2) X7 rv bv vs (moS s s.mo)) := M6.out.below hb
          have KP7 := KP6.below hb
          have V7 := V6.below hb
          have VR7 := VR6.below hb
          have B7 := B6.trans (hb.mono B6.size)
          have SP7 := SP6.below hb
          have hz7 : p5 < X7.heap.size := KP7.lt
          clear hb M6 KP6 V6 VR6 B6 SP6
          cases r with
          | true =>
            have YG : Hid (lgGo s sec) := HG.out.2 (hr.1 rfl)
            have kp0 := KP7.c 0 _ rfl
            have kp1 := KP7.c 1 _ rfl
            have kp2 := KP7.c 2 _ rfl
            have kp3 := KP7.c 3 _ rfl
            clear hr HG
            go_wp2_with fail
            clear kp0 kp1 kp2 kp3
            refine (take_any w.heap.size (w.heap.size + 3) (w.heap.size + 2) rv bv vs (moS s s.mo) ep nu mk ad cc pn _ M7.out (by omega) (by omega) SP7 (by omega) hpl (by show s.nx ≤ 400; omega) (by show s.bg.length ≤ 20000; omega) (by show s.rc.length ≤ 400; omega)).mono ?_
            rintro e w8 ⟨rfl, ⟨rv8, bv8, vs8, M8⟩, hb⟩
            have M9 : Hid (ScM w.heap.size (w.heap.size + 3) (w.heap.size + 2) w8 rv8 bv8 vs8 (lgStep s sec)) := by
              rw [← tkS_step YG.out, ← E1.out, ← E3.out, hpn.out, HMX.out]
              exact M8
            have V8 := V7.underB hb (by omega)
            have VR8 := VR7.under hb (by omega)
            have B8 := B7.trans (hb.mono (by omega))
            have hz8 : w.heap.size + 3 ≤ w8.heap.size := by have := hb.size; omega
            clear hb M7 V7 VR7 B7 SP7 KP7 M8
            go_wp2
            go_roundw
            case rel => exact ⟨j + 1, _, rv8, bv8, vs8, by omega, (by congr 1; push_cast; omega), HF.out.symm, M9, V8, VR8, B8, hz8⟩
            case measure => simp [intOf]; omega
          | false =>
            have NG : Hid (¬lgGo s sec) := fun q => by have := hr.2 (HG.out.1 q); cases this
            clear hr HG
            have x0 := M7.out.box.c 0 _ rfl
            have xf := M7.out.box.fr
            have M8 : Hid (ScM w.heap.size (w.heap.size + 3) (w.heap.size + 2) (X7.setCell ⟨w.heap.size + 2, 0, none⟩ (.int .i64 2)) rv bv vs (lgStep s sec)) := by
              have := M7.out.ends (by omega)
              rw [show enS s s.mo = lgStep s sec by rw [← enS_step NG.out]; rw [lgMo_yes YI, ← E1.out, HMX.out]] at this
              exact this
            have gq : X7.grownBy (X7.setCell ⟨w.heap.size + 2, 0, none⟩ (.int .i64 2)) (some (w.heap.size + 2)) := grownBy_setCell (p := ⟨w.heap.size + 2, 0, none⟩) (grownBy_refl _ _) rfl _
            have V8 := V7.grownS gq (by intro e; injection e with e; omega)
            have VR8 := VR7.grown gq (by intro e; injection e with e; omega)
            have B8 := B7.setCell (p := ⟨w.heap.size + 2, 0, none⟩) (by dsimp only; omega) (.int .i64 2)
            have hz8 : w.heap.size + 3 ≤ (X7.setCell ⟨w.heap.size + 2, 0, none⟩ (.int .i64 2)).heap.size := by simp; omega
            clear gq M7 V7 VR7 B7 SP7 KP7
            go_wp2
            go_roundw
            case rel => exact ⟨j + 1, _, rv, bv, vs, by omega, (by congr 1; push_cast; omega), HF.out.symm, M8, V8, VR8, B8, hz8⟩
            case measure => simp [intOf]; omega
      · have NG : Hid (¬lgGo s sec) := fun q => NI q.1
        have bn := below1 w4 (.cells #[.int .i64 0, .int .i64 0, .int .u8 0, .slice none 0 0] 87)
        have KP : BoxL w4.heap.size (w4.alloc (.cells #[.int .i64 0, .int .i64 0, .int .u8 0, .slice none 0 0] 87)) w4.heap.size [.int .i64 0, .int .i64 0, .int .u8 0, .slice none 0 0] := BoxL.new w4 (Nat.le_refl _) _ _
        have M5 : Hid (ScM w.heap.size (w.heap.size + 3) (w.heap.size + 2) (w4.alloc (.cells #[.int .i64 0, .int .i64 0, .int .u8 0, .slice none 0 0] 87)) rv bv vs s) := M4.out.below bn
        replace V := V.below bn
        replace VR := VR.below bn
        replace B := B.trans (bn.mono B.size)
        skip
        have hz5 : w4.heap.size < (w4.alloc (.cells #[.int .i64 0, .int .i64 0, .int .u8 0, .slice none 0 0] 87)).heap.size := KP.lt
        clear bn M4
        go_upto_region 7 with fail
        generalize w4.alloc (.cells #[.int .i64 0, .int .i64 0, .int .u8 0, .slice none 0 0] 87) = W5 at *
        generalize hp5 : w4.heap.size = p5 at *
        have x3 := M5.out.box.c 3 _ rfl
        have xf := M5.out.box.fr
        have kp0 := KP.c 0 _ rfl
        have M6 : Hid (ScM w.heap.size (w.heap.size + 3) (w.heap.size + 2) (W5.setCell ⟨w.heap.size + 2, 3, none⟩ (.int .i64 s.mo)) rv bv vs (moS s s.mo)) := M5.out.mo (by omega) _
        have gq : W5.grownBy (W5.setCell ⟨w.heap.size + 2, 3, none⟩ (.int .i64 s.mo)) (some (w.heap.size + 2)) := grownBy_setCell (p := ⟨w.heap.size + 2, 3, none⟩) (grownBy_refl _ _) rfl _
        have KP6 := KP.grown gq (by intro e; injection e with e; omega)
        have V6 := V.grownS gq (by intro e; injection e with e; omega)
        have VR6 := VR.grown gq (by intro e; injection e with e; omega)
        have B6 := B.setCell (p := ⟨w.heap.size + 2, 3, none⟩) (by dsimp only; omega) (.int .i64 s.mo)
        have V7 := V6
        have VR7 := VR6
        have B7 := B6
        clear gq KP V VR B M5 V6 VR6 B6
        have kp1 := KP6.c 1 _ rfl
        go_upto_region 8 with fail
        clear x3 xf kp0 kp1
        have hz7 : p5 < (W5.setCell ⟨w.heap.size + 2, 3, none⟩ (.int .i64 s.mo)).heap.size := KP6.lt
        generalize W5.setCell ⟨w.heap.size + 2, 3, none⟩ (.int .i64 s.mo) = X7 at *
        have M7 := M6
        clear M6
        have x0 := M7.out.box.c 0 _ rfl
        have xf := M7.out.box.fr
        have M8 : Hid (ScM w.heap.size (w.heap.size + 3) (w.heap.size + 2) (X7.setCell ⟨w.heap.size + 2, 0, none⟩ (.int .i64 2)) rv bv vs (lgStep s sec)) := by
          have := M7.out.ends (by omega)
          rw [show enS s s.mo = lgStep s sec by rw [← enS_step NG.out]; rw [lgMo_no NI]] at this
          exact this
        have gq : X7.grownBy (X7.setCell ⟨w.heap.size + 2, 0, none⟩ (.int .i64 2)) (some (w.heap.size + 2)) := grownBy_setCell (p := ⟨w.heap.size + 2, 0, none⟩) (grownBy_refl _ _) rfl _
        have V8 := V7.grownS gq (by intro e; injection e with e; omega)
        have VR8 := VR7.grown gq (by intro e; injection e with e; omega)
        have B8 := B7.setCell (p := ⟨w.heap.size + 2, 0, none⟩) (by dsimp only; omega) (.int .i64 2)
        have hz8 : w.heap.size + 3 ≤ (X7.setCell ⟨w.heap.size + 2, 0, none⟩ (.int .i64 2)).heap.size := by simp; omega
        clear gq M7 V7 VR7 B7 KP6
        go_wp2
        go_roundw
        case rel => exact ⟨j + 1, _, rv, bv, vs, by omega, (by congr 1; push_cast; omega), HF.out.symm, M8, V8, VR8, B8, hz8⟩
        case measure => simp [intOf]; omega
    · obtain rfl : j = K := by omega
      obtain ⟨ra, rcp, rfl, _, _⟩ := M.out.out.shape
      obtain ⟨ba, bcp, rfl, _, _⟩ := M.out.row.shape'
      have x0 := M.out.box.c 0 _ rfl
      have x1 := M.out.box.c 1 _ rfl
      have x2 := M.out.box.c 2 _ rfl
      have x3 := M.out.box.c 3 _ rfl
      have x4 := M.out.box.c 4 _ rfl
      have x5 := M.out.box.c 5 _ rfl
      have x6 := M.out.box.c 6 _ rfl
      have r0 := VR.c 0 _ rfl
      have r1 := VR.c 1 _ rfl
      have r2 := VR.c 2 _ rfl
      have r3 := VR.c 3 _ rfl
      have r4 := VR.c 4 _ rfl
      have r5 := VR.c 5 _ rfl
      have r6 := VR.c 6 _ rfl
      have rf := VR.fr
      have VX : Hid (BoxL _ _ _ _) := (((((((VR.put 0 (.int .i64 (s.st : Int)) (by simp)).put 1 (.int .i64 (s.nx : Int)) (by simp)).put 2 (.int .i64 s.le) (by simp)).put 3 (.int .i64 s.mo) (by simp)).put 4 (.int .i64 (s.wh : Int)) (by simp)).put 5 (.slice ra vs.length rcp) (by simp)).put 6 (.slice ba s.bg.length bcp) (by simp))
      have gq := (grownBy_setCell (p := ⟨w.heap.size + 1, 6, none⟩) (grownBy_setCell (p := ⟨w.heap.size + 1, 5, none⟩) (grownBy_setCell (p := ⟨w.heap.size + 1, 4, none⟩) (grownBy_setCell (p := ⟨w.heap.size + 1, 3, none⟩) (grownBy_setCell (p := ⟨w.heap.size + 1, 2, none⟩) (grownBy_setCell (p := ⟨w.heap.size + 1, 1, none⟩) (grownBy_setCell (p := ⟨w.heap.size + 1, 0, none⟩) (grownBy_refl wr (some (w.heap.size + 1))) rfl (.int .i64 (s.st : Int))) rfl (.int .i64 (s.nx : Int))) rfl (.int .i64 s.le)) rfl (.int .i64 s.mo)) rfl (.int .i64 (s.wh : Int))) rfl (.slice ra vs.length rcp)) rfl (.slice ba s.bg.length bcp))
      have OX : EsR w.heap.size (((((((wr.setCell ⟨w.heap.size + 1, 0, none⟩ (.int .i64 (s.st : Int))).setCell ⟨w.heap.size + 1, 1, none⟩ (.int .i64 (s.nx : Int))).setCell ⟨w.heap.size + 1, 2, none⟩ (.int .i64 s.le)).setCell ⟨w.heap.size + 1, 3, none⟩ (.int .i64 s.mo)).setCell ⟨w.heap.size + 1, 4, none⟩ (.int .i64 (s.wh : Int))).setCell ⟨w.heap.size + 1, 5, none⟩ (.slice ra vs.length rcp)).setCell ⟨w.heap.size + 1, 6, none⟩ (.slice ba s.bg.length bcp)) (.slice ra vs.length rcp) vs s.rc := (M.out.out.kept gq (fun k hk e => by have := (M.out.out.lts.1 k hk).1; injection e with e; omega) (fun u hu k hk e => by have := (M.out.out.lts.2 u hu k hk).1; injection e with e; omega)).base (by omega)
      have BX : Hid (Below w.heap.size w (((((((wr.setCell ⟨w.heap.size + 1, 0, none⟩ (.int .i64 (s.st : Int))).setCell ⟨w.heap.size + 1, 1, none⟩ (.int .i64 (s.nx : Int))).setCell ⟨w.heap.size + 1, 2, none⟩ (.int .i64 s.le)).setCell ⟨w.heap.size + 1, 3, none⟩ (.int .i64 s.mo)).setCell ⟨w.heap.size + 1, 4, none⟩ (.int .i64 (s.wh : Int))).setCell ⟨w.heap.size + 1, 5, none⟩ (.slice ra vs.length rcp)).setCell ⟨w.heap.size + 1, 6, none⟩ (.slice ba s.bg.length bcp))) := (((((((B.setCell (p := ⟨w.heap.size + 1, 0, none⟩) (by dsimp only; omega) (.int .i64 (s.st : Int))).setCell (p := ⟨w.heap.size + 1, 1, none⟩) (by dsimp only; omega) (.int .i64 (s.nx : Int))).setCell (p := ⟨w.heap.size + 1, 2, none⟩) (by dsimp only; omega) (.int .i64 s.le)).setCell (p := ⟨w.heap.size + 1, 3, none⟩) (by dsimp only; omega) (.int .i64 s.mo)).setCell (p := ⟨w.heap.size + 1, 4, none⟩) (by dsimp only; omega) (.int .i64 (s.wh : Int))).setCell (p := ⟨w.heap.size + 1, 5, none⟩) (by dsimp only; omega) (.slice ra vs.length rcp)).setCell (p := ⟨w.heap.size + 1, 6, none⟩) (by dsimp only; omega) (.slice ba s.bg.length bcp))
      have OH : Hid (EsR w.heap.size (((((((wr.setCell ⟨w.heap.size + 1, 0, none⟩ (.int .i64 (s.st : Int))).setCell ⟨w.heap.size + 1, 1, none⟩ (.int .i64 (s.nx : Int))).setCell ⟨w.heap.size + 1, 2, none⟩ (.int .i64 s.le)).setCell ⟨w.heap.size + 1, 3, none⟩ (.int .i64 s.mo)).setCell ⟨w.heap.size + 1, 4, none⟩ (.int .i64 (s.wh : Int))).setCell ⟨w.heap.size + 1, 5, none⟩ (.slice ra vs.length rcp)).setCell ⟨w.heap.size + 1, 6, none⟩ (.slice ba s.bg.length bcp)) (.slice ra vs.length rcp) vs s.rc) := OX
      clear gq OX VR V B M
      go_wp2
      rw [Exit.noGoto_ret]
      have y0 := VX.out.c 0 _ rfl
      have y1 := VX.out.c 1 _ rfl
      have y2 := VX.out.c 2 _ rfl
      have y3 := VX.out.c 3 _ rfl
      have y4 := VX.out.c 4 _ rfl
      have y5 := VX.out.c 5 _ rfl
      have y6 := VX.out.c 6 _ rfl
      refine bodyPost_ret (v := .agg #[.int .i64 (s.st : Int), .int .i64 (s.nx : Int), .int .i64 s.le, .int .i64 s.mo, .int .i64 (s.wh : Int), .slice ra vs.length rcp, .slice ba s.bg.length bcp]) (by simp [results, Tryd.results37, go_sem, y0, y1, y2, y3, y4, y5, y6]) rfl ?_
      exact ⟨_, _, vs, s, by rw [hK.out]; exact hs.out, rfl, ⟨_, _, _, rfl⟩, OH.out, BX.out⟩
end Go.Proofs.YtgcaemhcdpddiaaDoor
