/- Points in a row of a call's own: turned around in place (slices.Reverse). -/
import Derived.Test.YtbdpnfdpnaoicaaHulS
import Derived.Test.YtbdpnfdpnaoicaaShR
import Derived.Test.YtbdpnfdpnaoicaaBase
import Derived.BigRegion
namespace Go.Proofs.Ytbdpnfdpnaoicaa
open Go.RowKit

def ptN (ps : List Pn) (i : Nat) : Pn := ps[i]?.getD (0, 0)
theorem RowPt.atN {lo g n cap : Nat} {w : World} {ps : List Pn} (h : RowPt lo w (.slice (some ⟨g, 0, none⟩) n cap) ps) {i : Nat} (hi : i < ps.length) :
    (w.cell? ⟨g, i * 2, none⟩ = some (.int .i64 (ptN ps i).1) ∧ w.cell? ⟨g, i * 2 + 1, none⟩ = some (.int .i64 (ptN ps i).2)) ∧ (∀ o, w.frozen? ⟨g, o, none⟩ = false) ∧ lo ≤ g ∧ n = ps.length ∧ ps.length ≤ cap ∧ cap ≤ maxLen := by
  obtain ⟨a, c, e, _, _⟩ := h.shape
  injection e with e1 e2 e3
  subst e2
  obtain ⟨hb, ⟨cur, hh, hs⟩, hf, hm, hc⟩ := h.block
  obtain ⟨c1, c2⟩ := ptC_at ps i hi
  exact ⟨⟨hc _ _ c1, hc _ _ c2⟩, fun o => by simp [World.frozen?, hh], hb, rfl, hf, hm⟩
theorem ptN_set {ps : List Pn} {i j : Nat} {p : Pn} (hi : i < ps.length) : ptN (ps.set i p) j = if j = i then p else ptN ps j := by
  unfold ptN
  by_cases e : j = i
  · subst e
    rw [if_pos rfl, List.getElem?_set_self hi]
    rfl
  · rw [if_neg e, List.getElem?_set_ne (by omega)]
theorem ptN_ext {l l' : List Pn} (h : l.length = l'.length) (k : ∀ i, i < l.length → ptN l i = ptN l' i) : l = l' := by
  refine List.ext_getElem h fun i h1 h2 => ?_
  have := k i h1
  unfold ptN at this
  rw [List.getElem?_eq_getElem h1, List.getElem?_eq_getElem h2] at this
  exact this
theorem ptN_rev {ps : List Pn} {i : Nat} (h : i < ps.length) : ptN ps.reverse i = ptN ps (ps.length - 1 - i) := by
  unfold ptN
  rw [List.getElem?_reverse h]

set_option maxRecDepth 20000 in
set_option maxHeartbeats 2000000 in
theorem reversePts (lo g cap : Nat) (ps : List Pn) (w : World) (R : RowPt lo w (.slice (some ⟨g, 0, none⟩) ps.length cap) ps) (hl : ps.length ≤ 500) (h0 : 0 < ps.length) :
    Calls Try.prog 23 #[.slice (some ⟨g, 0, none⟩) ps.length cap] w fun e w' => e = .returned (.tuple #[]) ∧ RowPt lo w' (.slice (some ⟨g, 0, none⟩) ps.length cap) ps.reverse ∧ w.grownBy w' (some g) := by
  obtain ⟨_, _, _, _, hf, hm⟩ := R.atN (i := 0) h0
  unfold maxLen at hm
  have HE : Hid (∀ zs : List Pn, zs.length = ps.length → (∀ k, k < ps.length → ptN zs k = ptN ps (ps.length - 1 - k)) → zs = ps.reverse) := fun zs h1 h2 => ptN_ext (by rw [List.length_reverse]; exact h1) (fun i hi => by rw [h2 i (by omega), ptN_rev (by omega)])
  generalize hn : ps.length = n at *
  go_enter Try.func23, Try.ntmps23
  go_wp2
  go_loopw [2, 3] (fun s2 s3 wr => ∃ (i : Nat) (j : Nat) (zs : List Pn), i + j + 1 = n ∧ i ≤ j + 1 ∧ s2 = .int .i64 i ∧ s3 = .int .i64 j ∧ Hid (zs.length = n) ∧ Hid (∀ k, k < n → ptN zs k = if k < i ∨ j < k then ptN ps (n - 1 - k) else ptN ps k) ∧ RowPt lo wr (.slice (some ⟨g, 0, none⟩) n cap) zs ∧ w.grownBy wr (some g)) (fun s2 s3 _ => (intOf s3 - intOf s2 + 1).toNat)
  case atStart => exact ⟨0, n - 1, ps, by omega, by omega, rfl, by congr 1; omega, hn, (fun k hk => by rw [if_neg (by omega)]), R, grownBy_refl _ _⟩
  case round =>
    clear R
    obtain ⟨i, j, zs, hij, hle, rfl, rfl, hz, hk, R, G⟩ := hrel
    rename World => wr
    by_cases hlt : i < j
    · have hzl := hz.out
      obtain ⟨⟨a0, a1⟩, fr, lg, _, _, _⟩ := R.atN (i := i) (by omega)
      obtain ⟨⟨b0, b1⟩, _⟩ := R.atN (i := j) (by omega)
      obtain ⟨R1, G1⟩ := R.setAt i (ptN zs j).1 (ptN zs j).2
      obtain ⟨R2, G2⟩ := R1.setAt j (ptN zs i).1 (ptN zs i).2
      obtain ⟨⟨c0, c1⟩, _⟩ := R1.atN (i := j) (by rw [List.length_set]; omega)
      have Z2 : Hid (((zs.set i ((ptN zs j).1, (ptN zs j).2)).set j ((ptN zs i).1, (ptN zs i).2)).length = n) := by show _ = _; rw [List.length_set, List.length_set]; exact hzl
      have K2 : Hid (∀ k, k < n → ptN ((zs.set i ((ptN zs j).1, (ptN zs j).2)).set j ((ptN zs i).1, (ptN zs i).2)) k = if k < i + 1 ∨ j - 1 < k then ptN ps (n - 1 - k) else ptN ps k) := by
        intro k hkn
        show ptN ((zs.set i (ptN zs j)).set j (ptN zs i)) k = _
        rw [ptN_set (by rw [List.length_set]; omega)]
        by_cases e1 : k = j
        · subst e1
          rw [if_pos rfl, if_pos (by omega), hk.out i (by omega), if_neg (by omega), show n - 1 - k = i by omega]
        · rw [if_neg e1, ptN_set (by omega)]
          by_cases e2 : k = i
          · subst e2
            rw [if_pos rfl, if_pos (by omega), hk.out j (by omega), if_neg (by omega), show n - 1 - k = j by omega]
          · rw [if_neg e2, hk.out k hkn]
            by_cases c : k < i ∨ j < k
            · rw [if_pos c, if_pos (by omega)]
            · rw [if_neg c, if_neg (by omega)]
      have G3 := grownBy_trans (grownBy_trans G G1) G2
      clear hk hz
      generalize hp : (ptN zs j).1 = p1 at *
      generalize hp2 : (ptN zs j).2 = p2 at *
      generalize hq : (ptN zs i).1 = q1 at *
      generalize hq2 : (ptN zs i).2 = q2 at *
      have HIJ : Hid (i + j + 1 = n) := hij
      have i9 : i < n := by omega
      have j9 : j < n := by omega
      have HC : Hid (((wr.setCell ⟨g, i * 2, none⟩ (.int .i64 p1)).setCell ⟨g, i * 2 + 1, none⟩ (.int .i64 p2)).cell? ⟨g, j * 2, none⟩ = some (.int .i64 (ptN (zs.set i (p1, p2)) j).1) ∧ ((wr.setCell ⟨g, i * 2, none⟩ (.int .i64 p1)).setCell ⟨g, i * 2 + 1, none⟩ (.int .i64 p2)).cell? ⟨g, j * 2 + 1, none⟩ = some (.int .i64 (ptN (zs.set i (p1, p2)) j).2)) := ⟨c0, c1⟩
      clear hp hp2 hq hq2 hij hzl c0 c1 hle R R1 G G1 G2
      go_wp2_with fail
      obtain ⟨c0, c1⟩ := HC.out
      go_region
      go_wp2
      go_roundw
      case rel => exact ⟨i + 1, j - 1, _, by have := HIJ.out; omega, by omega, by go_num, by go_num, Z2, K2, R2.below ((Below.refl _ _).drew), grownBy_drew G3⟩
      case measure => simp [intOf]; omega
    · have e := HE.out zs hz.out (fun k hkn => by
        rw [hk.out k hkn]
        by_cases c : k < i ∨ j < k
        · rw [if_pos c]
        · rw [if_neg c, show n - 1 - k = k by omega])
      rw [e] at R
      go_wp2
      go_end0
      exact ⟨rfl, R, G⟩
end Go.Proofs.Ytbdpnfdpnaoicaa
