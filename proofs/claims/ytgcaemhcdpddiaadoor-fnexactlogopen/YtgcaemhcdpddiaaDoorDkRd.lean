/- The specification's ReadSector. -/
import Derived.Test.YtgcaemhcdpddiaaDoorDkU
namespace Go.Proofs.YtgcaemhcdpddiaaDoor
open Go.RowKit

def RsOk (bs : List Int) (qs : List Wr) (at' : Int) : Prop := DkOk bs qs ∧ 0 ≤ at' ∧ at' < ((bs.length / 64 : Nat) : Int)
/-- The sector, when the first j writes are done. -/
def rsN (bs : List Int) (qs : List Wr) (t : Nat) : Nat → List Int
  | 0 => (bs.drop (t * 64)).take 64
  | j + 1 => if (wrN qs j).1 = (t : Int) then (wrN qs j).2 else rsN bs qs t j
/-- What ReadSector answers. -/
def RsRes (bs : List Int) (qs : List Wr) (at' : Int) (res : List Int) (r : Bool) : Prop := (RsOk bs qs at' ∧ res = rsN bs qs at'.toNat qs.length ∧ r = true) ∨ (¬RsOk bs qs at' ∧ res = [] ∧ r = false)
theorem RsRes.one {bs : List Int} {qs : List Wr} {at' : Int} {q1 q2 : List Int} {r1 r2 : Bool} (h : RsRes bs qs at' q1 r1) (k : RsRes bs qs at' q2 r2) : q1 = q2 ∧ r1 = r2 := by
  rcases h with ⟨a, b, c⟩ | ⟨a, b, c⟩
  · rcases k with ⟨a', b', c'⟩ | ⟨a', b', c'⟩
    · exact ⟨b.trans b'.symm, c.trans c'.symm⟩
    · exact absurd a a'
  · rcases k with ⟨a', b', c'⟩ | ⟨a', b', c'⟩
    · exact absurd a' a
    · exact ⟨b.trans b'.symm, c.trans c'.symm⟩

set_option maxRecDepth 20000 in
set_option maxHeartbeats 4000000 in
theorem specReadSector {lo : Nat} (ad : Addr) (a2 : Option Addr) (c c2 : Nat) (vs0 : List Value) (bs : List Int) (qs : List Wr) (at' : Int) (w : World) (h : DkR lo w (.slice (some ad) bs.length c) (.slice a2 qs.length c2) vs0 bs qs) (hv0 : SomeV vs0) (hb0 : bs.length ≤ 2000000) (hs : uptoQ qs qs.length ≤ 2000000) :
    Calls Tryd.prog 17 #[.agg #[.slice (some ad) bs.length c, .slice a2 qs.length c2], .int .i64 at'] w fun e w' => ∃ ad' c' res r, e = .returned (.tuple #[.slice (some ad') res.length c', .bool r]) ∧ RsRes bs qs at' res r ∧ RowB w.heap.size w' (.slice (some ad') res.length c') res ∧ Below w.heap.size w w' := by
  obtain ⟨i8, hi8, hy0, hy1, hy2⟩ := info_parts infoB
  obtain ⟨hf0, hm0⟩ := h.row.caps
  obtain ⟨-, hf2, hm2⟩ := h.que.caps
  unfold maxLen at hm0 hm2
  have hn : qs.length ≤ 2000000 := by have := uptoQ_mono qs (Nat.zero_le qs.length); simp only [uptoQ] at this; omega
  have HS : Hid (uptoQ qs qs.length ≤ 2000000) := hs
  have HM : Hid (SomeV vs0) := hv0
  have HD : Hid (DkR lo w (.slice (some ad) bs.length c) (.slice a2 qs.length c2) vs0 bs qs) := h
  have B := below1 w (.cells #[.slice (some ad) bs.length c, .slice a2 qs.length c2] 34)
  have V1 := Box2.new w (lo := w.heap.size) (Nat.le_refl _) (.slice (some ad) bs.length c) (.slice a2 qs.length c2) 34
  clear hs hv0 h
  go_enter Tryd.func17, Tryd.ntmps17
  go_upto_region 1 with fail
  generalize w.alloc (.cells #[.slice (some ad) bs.length c, .slice a2 qs.length c2] 34) = W0 at *
  obtain ⟨t0, t1, tf, _⟩ := id V1
  go_wp2_with fail
  refine (specDiskOk (some ad) a2 c c2 vs0 bs qs _ (HD.out.below B)).mono ?_
  rintro e w4 ⟨r, rfl, hr, hb⟩
  have HRr : Hid (r = true ↔ DkOk bs qs) := hr
  replace V1 := V1.below hb
  replace B := B.trans (hb.mono B.size)
  clear hb t0 t1 tf hr
  cases r with
  | false =>
    have HN : Hid (RsRes bs qs at' [] false) := .inr ⟨(fun q => by have := HRr.out.2 q.1; cases this), rfl, rfl⟩
    have RE := RowB.empty w4 (base := w.heap.size) B.size
    have BB := B.alloc B.size (.cells #[] 5)
    clear V1
    go_wp2
    exact bodyPost_ret (v := .tuple #[.slice (some ⟨w4.heap.size, 0, none⟩) 0 0, .bool false]) (by simp [results, Tryd.results17, go_sem]) rfl ⟨_, 0, [], false, rfl, HN.out, RE, BB⟩
  | true =>
    have HOk : Hid (DkOk bs qs) := HRr.out.1 rfl
    clear HRr
    obtain ⟨m, hnm⟩ : ∃ m, Hid (bs.length / 64 = m) := ⟨_, rfl⟩
    have hmb : m ≤ 2000000 := by rw [← hnm.out]; omega
    have hwm : IntKind.i64.wrap ((m : Int) - 1) = (m : Int) - 1 := by rw [IntKind.wrap_i64]; omega
    obtain ⟨t0, t1, tf, _⟩ := id V1
    go_wp2_with fail
    refine (l11Many_any (some ad) a2 c bs.length c2 qs.length m _ hnm.out (by omega)).mono ?_
    rintro e w5 ⟨rfl, hb⟩
    replace V1 := V1.below hb
    replace B := B.trans (hb.mono B.size)
    clear hb t0 t1 tf
    go_wp2_with fail
    refine (l1InD _ _ _ _).mono ?_
    rintro e w6 ⟨rfl, rfl⟩
    by_cases hx : 0 ≤ at' ∧ at' < (m : Int)
    · have hd2 : (decide ((0 : Int) ≤ at') && decide (at' ≤ (m : Int) - 1)) = true := by rw [decide_eq_true (by omega), decide_eq_true (by omega)]; rfl
      rw [hd2]
      have HO : Hid (RsOk bs qs at') := ⟨HOk.out, hx.1, by rw [hnm.out]; exact hx.2⟩
      obtain ⟨t, rfl⟩ : ∃ t : Nat, at' = t := ⟨at'.toNat, by omega⟩
      have htm : (t + 1) * 64 ≤ bs.length := by have := hnm.out; have := hx.2; omega
      have hml : bs.length ≤ 25600 := by have := HOk.out.2.2.1; have := HOk.out.1; omega
      clear hd2 hx hnm
      obtain ⟨g0, ead, _, _⟩ := HD.out.row.at2 (j := 0) (by omega)
      injection ead with ead
      subst ead
      have V0 := V1
      have bn := below1 w6 (.cells #[] 5)
      replace V1 := V1.below bn
      obtain ⟨t0, t1, tf, _⟩ := id V1
      have RE := RowB.empty w6 (base := w.heap.size) B.size
      have SB := (HD.out.row.below (B.trans (bn.mono B.size))).seesB
      have NW : ∀ j u, (((bs.drop (t * 64)).take 64).map (Value.int .u8))[j]? = some u → (w6.alloc (.cells #[] 5)).cell? ((⟨g0, t * 64, none⟩ : Addr).add j) = some u := fun j u hu => by
        have hj : j < 64 := by have := (List.getElem?_eq_some_iff.1 hu).1; simp at this; omega
        have := SB.newsB (t * 64 + j) u (by
          rw [List.getElem?_map] at hu ⊢
          rw [← hu, List.getElem?_take_of_lt hj, List.getElem?_drop])
        rw [Addr.add_lit] at this ⊢
        rw [← this, Nat.zero_add]
      have hl64 : ((bs.drop (t * 64)).take 64).length = 64 := by simp; omega
      have HB : w.heap.size ≤ (w6.alloc (.cells #[] 5)).heap.size := Nat.le_trans B.size bn.size
      have e64 : Hid ((t + 1) * 64 - t * 64 = 64) := by show _ = _; omega
      go_wp2_with (at_builtin; refine wpList_append_own_at _ rfl (.tmp 20) (.tmp 28) 22 rfl w.heap.size 5 i8 (.int .u8 0) 1 1 Tryd.underlying22 hi8 hy0 hy1 hy2 rfl (by decide) (.slice (some ⟨w6.heap.size, 0, none⟩) 0 0) 0 [] rfl RE ⟨g0, t * 64, none⟩ ((t + 1) * 64 - t * 64) _ (((bs.drop (t * 64)).take 64).map (Value.int .u8)) rfl (by rw [List.length_map, hl64]; omega) NW (ones8 _) (by unfold maxLen; omega) (by omega) HB ?_; intro v7 w7 R7 G7 _ A7; rw [Nat.zero_add, List.nil_append, e64.out] at R7; obtain ⟨g7, hg7, hgl⟩ : ∃ g, v7.ownBlock = some g ∧ w6.heap.size ≤ g := (A7.elim (fun e => ⟨_, e, Nat.le_refl _⟩) (fun e => ⟨_, e, bn.size⟩)); obtain ⟨c7, rfl⟩ := RowB.someOf (base := w.heap.size) (w := w7) (bs := (bs.drop (t * 64)).take 64) (by unfold RowB; rw [hl64]; exact R7) hg7; rw [hl64])
      have R8 : Hid (RowB w.heap.size w7 (.slice (some ⟨g7, 0, none⟩) (rsN bs qs t 0).length c7) (rsN bs qs t 0)) := by
        show RowB _ _ _ _
        unfold rsN RowB
        have := R7
        rw [hl64] at this ⊢
        exact this
      have G8 : (w6.alloc (.cells #[] 5)).grownBy w7 (some w6.heap.size) := G7
      have B8 := (B.trans (bn.mono B.size)).grown G8 HB (fun k hk => by injection hk with hk; have := B.size; omega)
      have sl : w.heap.size < w6.heap.size := World.block_lt_of_cell? _ _ (V0.c0)
      replace V1 := V1.grown G8 (by omega)
      have hl0 : Hid ((rsN bs qs t 0).length = 64) := by show _ = _; unfold rsN; exact hl64
      clear G7 G8 A7 R7 hg7 hl64 NW SB RE bn HB t0 t1 tf hgl V0
      go_loopw [6, 7] (fun s6 s7 wr => ∃ (j : Nat) (g : Nat) (cc : Nat), j ≤ qs.length ∧ s7 = .int .i64 j ∧ s6 = .slice (some ⟨g, 0, none⟩) 64 cc ∧ Hid ((rsN bs qs t j).length = 64) ∧ Hid (RowB w.heap.size wr (.slice (some ⟨g, 0, none⟩) 64 cc) (rsN bs qs t j)) ∧ Box2 w.heap.size wr w.heap.size (.slice (some ⟨g0, 0, none⟩) bs.length c) (.slice a2 qs.length c2) ∧ Below w.heap.size w wr) (fun _ s7 _ => qs.length - (intOf s7).toNat)
      case atStart => exact ⟨0, g7, c7, Nat.zero_le _, rfl, rfl, hl0, (by have := R8.out; rw [hl0.out] at this; exact this), V1, B8⟩
      case round =>
        clear V1 B8 R8 hl0
        obtain ⟨j, g8, c9, hj, rfl, rfl, hl, R, V1, B⟩ := hrel
        rename World => wr
        obtain ⟨t0, t1, tf, _⟩ := id V1
        by_cases hlt : j < qs.length
        · obtain ⟨b, cq, a', c', e, hvj, g1, g2, PP, _⟩ := (HD.out.que.below B).at' hlt
          injection e with e1 e2 e3
          subst e1
          obtain ⟨ad3, e8⟩ : ∃ ad, a' = some ad := by
            obtain ⟨ad', l, c9, q⟩ := HM.out _ (List.mem_of_getElem? hvj)
            injection q with q
            exact ⟨ad', q⟩
          subst e8
          have ok := HOk.out.2.2.2 j hlt
          have lq : (wrN qs j).2.length = 64 := ok.2.2
          have RJ : Hid (rsN bs qs t (j + 1) = if (wrN qs j).1 = (t : Int) then (wrN qs j).2 else rsN bs qs t j) := rfl
          clear hvj e2 e3 ok
          generalize wrN qs j = q9 at *
          obtain ⟨x, ds⟩ := q9
          dsimp only at g1 g2 PP lq RJ
          by_cases hxt : x = (t : Int)
          · have RJ2 : Hid (rsN bs qs t (j + 1) = ds) := RJ.out.trans (if_pos hxt)
            subst hxt
            have bn := below1 wr (.cells #[] 5)
            have RE := RowB.empty wr (base := w.heap.size) B.size
            have sl : w.heap.size < wr.heap.size := V1.lt
            replace V1 := V1.below bn
            obtain ⟨s0, s1, sf, _⟩ := id V1
            have g1' := bat bn g1
            have g2' := bat bn g2
            have NW := (PP.below bn).seesB.newsA
            have HB : w.heap.size ≤ (wr.alloc (.cells #[] 5)).heap.size := Nat.le_trans B.size bn.size
            have HLQ : Hid (ds.length = 64) := lq
            rw [lq] at g2 g2'
            clear lq
            go_wp2_with (at_builtin; refine wpList_append_own_at _ rfl (.tmp 45) (.tmp 51) 22 rfl w.heap.size 5 i8 (.int .u8 0) 1 1 Tryd.underlying22 hi8 hy0 hy1 hy2 rfl (by decide) (.slice (some ⟨wr.heap.size, 0, none⟩) 0 0) 0 [] rfl RE ad3 64 _ (ds.map (Value.int .u8)) rfl (by rw [List.length_map, HLQ.out]) NW (ones8 _) (by unfold maxLen; omega) (by omega) HB ?_; intro v7 w7 R7 G7 _ A7; rw [Nat.zero_add, List.nil_append] at R7; obtain ⟨g7, hg7, hgl⟩ : ∃ g, v7.ownBlock = some g ∧ wr.heap.size ≤ g := (A7.elim (fun e => ⟨_, e, Nat.le_refl _⟩) (fun e => ⟨_, e, bn.size⟩)); obtain ⟨c7, rfl⟩ := RowB.someOf (base := w.heap.size) (w := w7) (bs := ds) (by unfold RowB; rw [HLQ.out]; exact R7) hg7; rw [HLQ.out])
            have R8 : Hid (RowB w.heap.size w7 (.slice (some ⟨g7, 0, none⟩) 64 c7) (rsN bs qs t (j + 1))) := by
              show RowB _ _ _ _
              rw [RJ2.out]
              unfold RowB
              rw [HLQ.out]
              have := R7
              rw [HLQ.out] at this
              exact this
            have G8 : (wr.alloc (.cells #[] 5)).grownBy w7 (some wr.heap.size) := G7
            have B8 := (B.trans (bn.mono B.size)).grown G8 HB (fun k hk => by injection hk with hk; have := B.size; omega)
            replace V1 := V1.grown G8 (by omega)
            have hl0 : Hid ((rsN bs qs t (j + 1)).length = 64) := by show _ = _; rw [RJ2.out]; exact HLQ.out
            go_roundw
            case rel => exact ⟨j + 1, g7, c7, by omega, by go_num, rfl, hl0, R8, V1, B8⟩
            case measure => simp [intOf]; omega
          · have RJ2 : Hid (rsN bs qs t (j + 1) = rsN bs qs t j) := RJ.out.trans (if_neg hxt)
            have hne : (x == (t : Int)) = false := by simp [hxt]
            clear RJ
            go_wp2
            go_roundw
            case rel => exact ⟨j + 1, g8, c9, by omega, by go_num, rfl, (by show _ = _; rw [RJ2.out]; exact hl.out), (by show RowB _ _ _ _; rw [RJ2.out]; exact R.out), V1, B⟩
            case measure => simp [intOf]; omega
        · obtain rfl : j = qs.length := by omega
          have HN : Hid (RsRes bs qs t (rsN bs qs t qs.length) true) := .inl ⟨HO.out, by rw [Int.toNat_natCast], rfl⟩
          clear V1
          go_wp2
          refine bodyPost_ret (v := .tuple #[.slice (some ⟨g8, 0, none⟩) 64 c9, .bool true]) (by simp [results, Tryd.results17, go_sem]) rfl ?_
          exact ⟨⟨g8, 0, none⟩, c9, rsN bs qs t qs.length, true, by rw [hl.out], HN.out, by rw [hl.out]; exact R.out, B⟩
    · have hd2 : (decide ((0 : Int) ≤ at') && decide (at' ≤ (m : Int) - 1)) = false := by
        rcases Classical.not_and_iff_not_or_not.1 hx with q | q
        · rw [decide_eq_false q]; rfl
        · rw [decide_eq_false (show ¬ at' ≤ (m : Int) - 1 by omega), Bool.and_false]
      have HN : Hid (RsRes bs qs at' [] false) := .inr ⟨fun q => hx ⟨q.2.1, by rw [← hnm.out]; exact q.2.2⟩, rfl, rfl⟩
      have RE := RowB.empty w6 (base := w.heap.size) B.size
      have BB := B.alloc B.size (.cells #[] 5)
      rw [hd2]
      clear hx V1
      go_wp2
      exact bodyPost_ret (v := .tuple #[.slice (some ⟨w6.heap.size, 0, none⟩) 0 0, .bool false]) (by simp [results, Tryd.results17, go_sem]) rfl ⟨_, 0, [], false, rfl, HN.out, RE, BB⟩
end Go.Proofs.YtgcaemhcdpddiaaDoor
