/- A tree copied (toNode). -/
import Derived.Test.YtdkhaghcnijilaaGreatTrT
import Derived.Deep.Cut
namespace Go.Proofs.YtdkhaghcnijilaaGreat
open Go.RowKit

set_option maxRecDepth 20000 in
set_option maxHeartbeats 4000000 in
theorem toNode_step (b : Bx) (bs : List Bx) (is : List Int) (ks : List Nd) (ih : TosC ks) : ToC (.mk b bs is ks) := by
  intro v1 v2 v3 w h hsz
  obtain ⟨a1, c1, a2, c2, a3, c3, rfl, rfl, rfl, s1, _, s2, _, s3⟩ := h.open
  obtain ⟨x1, x2, x3, x4⟩ := b
  simp only [Nd.bs, Nd.is, Nd.ks] at s1 s2 s3
  have hz : Hid (bs.length ≤ 1048576 ∧ is.length ≤ 1048576 ∧ ks.length + ndSz.ndsSz ks ≤ 1048576) := by
    simp only [ndSz] at hsz
    exact ⟨by omega, by omega, by omega⟩
  clear hsz h
  show Calls Tryz.prog 9 #[.agg #[.int .i64 x1, .int .i64 x2, .int .i64 x3, .int .i64 x4, .slice a1 bs.length c1, .slice a2 is.length c2, .slice a3 ks.length c3]] w _
  have BA := below1 w (.cells #[.int .i64 x1, .int .i64 x2, .int .i64 x3, .int .i64 x4, .slice a1 bs.length c1, .slice a2 is.length c2, .slice a3 ks.length c3] 30)
  have V := Sev.new w x1 x2 x3 x4 (.slice a1 bs.length c1) (.slice a2 is.length c2) (.slice a3 ks.length c3) 30
  replace s1 := s1.below BA
  replace s2 := s2.below BA
  replace s3 := s3.below BA
  have B := below2 (w.alloc (.cells #[.int .i64 x1, .int .i64 x2, .int .i64 x3, .int .i64 x4, .slice a1 bs.length c1, .slice a2 is.length c2, .slice a3 ks.length c3] 30)) (.cells #[.int .i64 0, .int .i64 0, .int .i64 0, .int .i64 0, .slice none 0 0, .slice none 0 0, .slice none 0 0] 39) (.cells #[.int .i64 0, .int .i64 0, .int .i64 0, .int .i64 0, .slice none 0 0, .slice none 0 0, .slice none 0 0] 39)
  have RR := (Bx7.new (w.alloc (.cells #[.int .i64 x1, .int .i64 x2, .int .i64 x3, .int .i64 x4, .slice a1 bs.length c1, .slice a2 is.length c2, .slice a3 ks.length c3] 30)) (.int .i64 0) (.int .i64 0) (.int .i64 0) (.int .i64 0) (.slice none 0 0) (.slice none 0 0) (.slice none 0 0) 39).below (below1 _ (.cells #[.int .i64 0, .int .i64 0, .int .i64 0, .int .i64 0, .slice none 0 0, .slice none 0 0, .slice none 0 0] 39))
  have O := Bx7.new ((w.alloc (.cells #[.int .i64 x1, .int .i64 x2, .int .i64 x3, .int .i64 x4, .slice a1 bs.length c1, .slice a2 is.length c2, .slice a3 ks.length c3] 30)).alloc (.cells #[.int .i64 0, .int .i64 0, .int .i64 0, .int .i64 0, .slice none 0 0, .slice none 0 0, .slice none 0 0] 39)) (.int .i64 0) (.int .i64 0) (.int .i64 0) (.int .i64 0) (.slice none 0 0) (.slice none 0 0) (.slice none 0 0) 39
  rw [World.size_alloc] at RR
  rw [World.size_alloc, World.size_alloc] at O
  have HA : Hid ((w.alloc (.cells #[.int .i64 x1, .int .i64 x2, .int .i64 x3, .int .i64 x4, .slice a1 bs.length c1, .slice a2 is.length c2, .slice a3 ks.length c3] 30)).heap.size = w.heap.size + 1) := World.size_alloc ..
  obtain ⟨⟨k0, k1, k2, k3⟩, k4, k5, k6⟩ := V.below B
  simp only [Nat.zero_add] at k0 k1 k2 k3 k4 k5 k6
  go_enter Tryz.func9, Tryz.ntmps9
  go_wp2_with fail
  generalize ((w.alloc (.cells #[.int .i64 x1, .int .i64 x2, .int .i64 x3, .int .i64 x4, .slice a1 bs.length c1, .slice a2 is.length c2, .slice a3 ks.length c3] 30)).alloc (.cells #[.int .i64 0, .int .i64 0, .int .i64 0, .int .i64 0, .slice none 0 0, .slice none 0 0, .slice none 0 0] 39)).alloc (.cells #[.int .i64 0, .int .i64 0, .int .i64 0, .int .i64 0, .slice none 0 0, .slice none 0 0, .slice none 0 0] 39) = W0 at *
  generalize w.alloc (.cells #[.int .i64 x1, .int .i64 x2, .int .i64 x3, .int .i64 x4, .slice a1 bs.length c1, .slice a2 is.length c2, .slice a3 ks.length c3] 30) = A at *
  refine (toBox_any x1 x2 x3 x4 _).mono ?_
  rintro e w1 ⟨rfl, hb⟩
  replace O := O.below hb
  replace RR := RR.below hb
  replace B := B.trans (hb.mono B.size)
  clear hb k0 k1 k2 k3 k4 k5 k6
  have z0 := O.c0
  have z1 := O.c1
  have z2 := O.c2
  have z3 := O.c3
  have zf := O.fr
  replace O := (((O.set0 (.int .i64 x1)).set1 (.int .i64 x2)).set2 (.int .i64 x3)).set3 (.int .i64 x4)
  replace RR := (((RR.old (q := w.heap.size + 1 + 1) (o := 0) (by omega) (.int .i64 x1)).old (q := w.heap.size + 1 + 1) (o := 1) (by omega) (.int .i64 x2)).old (q := w.heap.size + 1 + 1) (o := 2) (by omega) (.int .i64 x3)).old (q := w.heap.size + 1 + 1) (o := 3) (by omega) (.int .i64 x4)
  replace B := B.setCell (p := ⟨w.heap.size + 1 + 1, 0, none⟩) (by show _ ≤ _ + 1 + 1; rw [HA.out]; omega) (.int .i64 x1)
  replace B := B.setCell (p := ⟨w.heap.size + 1 + 1, 1, none⟩) (by show _ ≤ _ + 1 + 1; rw [HA.out]; omega) (.int .i64 x2)
  replace B := B.setCell (p := ⟨w.heap.size + 1 + 1, 2, none⟩) (by show _ ≤ _ + 1 + 1; rw [HA.out]; omega) (.int .i64 x3)
  replace B := B.setCell (p := ⟨w.heap.size + 1 + 1, 3, none⟩) (by show _ ≤ _ + 1 + 1; rw [HA.out]; omega) (.int .i64 x4)
  go_upto_region 3 with fail
  clear z0 z1 z2 z3 zf
  generalize ((((w1.setCell ⟨w.heap.size + 1 + 1, 0, none⟩ (.int .i64 x1)).setCell ⟨w.heap.size + 1 + 1, 1, none⟩ (.int .i64 x2)).setCell ⟨w.heap.size + 1 + 1, 2, none⟩ (.int .i64 x3)).setCell ⟨w.heap.size + 1 + 1, 3, none⟩ (.int .i64 x4)) = W1 at *
  obtain ⟨_, k4, k5, k6⟩ := V.below B
  simp only [Nat.zero_add] at k4 k5 k6
  go_wp2_with fail
  refine (toBoxs a1 c1 bs _ (s1.below B) hz.out.1).mono ?_
  rintro e w2 ⟨rfl, X, hb⟩
  have hp1 := O.lt
  replace O := O.below hb
  replace RR := RR.below hb
  replace B := B.trans (hb.mono B.size)
  clear hb k4 k5 k6
  generalize W1.heap.size = g1 at *
  have S1 : SeesX w2 (some ⟨g1, 0, none⟩) bs.length bs := X.sees rfl (by have := hz.out.1; unfold maxLen; omega)
  have Z1 : Fz w2 bs.length (some ⟨g1, 0, none⟩) := fun b off e _ => by injection e with e; injection e with e; subst e; exact ⟨X.lt, X.fr⟩
  clear X
  have z0 := O.c4
  have zf := O.fr
  replace O := O.set4 (.slice (some ⟨g1, 0, none⟩) bs.length bs.length)
  replace RR := RR.old (q := w.heap.size + 1 + 1) (o := 4) (by omega) (.slice (some ⟨g1, 0, none⟩) bs.length bs.length)
  replace S1 := S1.putN (p := w.heap.size + 1 + 1) (fun b off e _ => by injection e with e; injection e with e; omega) 4 (.slice (some ⟨g1, 0, none⟩) bs.length bs.length)
  replace Z1 := Z1.put ⟨w.heap.size + 1 + 1, 4, none⟩ (.slice (some ⟨g1, 0, none⟩) bs.length bs.length)
  replace B := B.setCell (p := ⟨w.heap.size + 1 + 1, 4, none⟩) (by show _ ≤ _ + 1 + 1; rw [HA.out]; omega) (.slice (some ⟨g1, 0, none⟩) bs.length bs.length)
  go_upto_region 4 with fail
  clear z0 zf
  generalize w2.setCell ⟨w.heap.size + 1 + 1, 4, none⟩ (.slice (some ⟨g1, 0, none⟩) bs.length bs.length) = W2 at *
  obtain ⟨_, k4, k5, k6⟩ := V.below B
  simp only [Nat.zero_add] at k4 k5 k6
  go_wp2_with fail
  refine (toInts a2 c2 is _ (s2.below B) hz.out.2.1).mono ?_
  rintro e w3 ⟨rfl, X, hb⟩
  have hp2 := O.lt
  replace O := O.below hb
  replace RR := RR.below hb
  replace S1 := S1.below hb
  replace Z1 := Z1.below hb
  replace B := B.trans (hb.mono B.size)
  clear hb k4 k5 k6
  generalize W2.heap.size = g2 at *
  have S2 : SeesI w3 (some ⟨g2, 0, none⟩) is.length is := X.sees rfl (by have := hz.out.2.1; unfold maxLen; omega)
  have Z2 : Fz w3 is.length (some ⟨g2, 0, none⟩) := fun b off e _ => by injection e with e; injection e with e; subst e; exact ⟨X.lt, X.fr⟩
  clear X
  have z0 := O.c5
  have zf := O.fr
  replace O := O.set5 (.slice (some ⟨g2, 0, none⟩) is.length is.length)
  replace RR := RR.old (q := w.heap.size + 1 + 1) (o := 5) (by omega) (.slice (some ⟨g2, 0, none⟩) is.length is.length)
  replace S1 := S1.putN (p := w.heap.size + 1 + 1) (fun b off e _ => by injection e with e; injection e with e; omega) 5 (.slice (some ⟨g2, 0, none⟩) is.length is.length)
  replace Z1 := Z1.put ⟨w.heap.size + 1 + 1, 5, none⟩ (.slice (some ⟨g2, 0, none⟩) is.length is.length)
  replace S2 := S2.put (p := w.heap.size + 1 + 1) (fun b off e _ => by injection e with e; injection e with e; omega) 5 (.slice (some ⟨g2, 0, none⟩) is.length is.length)
  replace Z2 := Z2.put ⟨w.heap.size + 1 + 1, 5, none⟩ (.slice (some ⟨g2, 0, none⟩) is.length is.length)
  replace B := B.setCell (p := ⟨w.heap.size + 1 + 1, 5, none⟩) (by show _ ≤ _ + 1 + 1; rw [HA.out]; omega) (.slice (some ⟨g2, 0, none⟩) is.length is.length)
  go_upto_region 5 with fail
  clear z0 zf
  generalize w3.setCell ⟨w.heap.size + 1 + 1, 5, none⟩ (.slice (some ⟨g2, 0, none⟩) is.length is.length) = W3 at *
  obtain ⟨_, k4, k5, k6⟩ := V.below B
  simp only [Nat.zero_add] at k4 k5 k6
  go_wp2_with fail
  refine (ih a3 c3 _ (s3.below B) hz.out.2.2).mono ?_
  rintro e w4 ⟨rfl, S3, hb⟩
  have hp3 := O.lt
  have S3' := S3.lower (lo' := w.heap.size + 1 + 1 + 1) hp3
  clear S3
  replace O := O.below hb
  replace RR := RR.below hb
  replace S1 := S1.below hb
  replace Z1 := Z1.below hb
  replace S2 := S2.below hb
  replace Z2 := Z2.below hb
  replace B := B.trans (hb.mono B.size)
  clear hb k4 k5 k6
  generalize W3.heap.size = g3 at *
  have N : NdUp w4 (w.heap.size + 1 + 1 + 1) (.mk (x1, x2, x3, x4) bs is ks) (.slice (some ⟨g1, 0, none⟩) bs.length bs.length) (.slice (some ⟨g2, 0, none⟩) is.length is.length) (.slice (some ⟨g3, 0, none⟩) ks.length ks.length) := NdUp.shut S1 (fun b off e _ => by injection e with e; injection e with e; omega) S2 (fun b off e _ => by injection e with e; injection e with e; omega) Z1 Z2 S3'
  clear S1 S2 Z1 Z2 S3'
  have z0 := O.c6
  have zf := O.fr
  replace O := O.set6 (.slice (some ⟨g3, 0, none⟩) ks.length ks.length)
  replace RR := RR.old (q := w.heap.size + 1 + 1) (o := 6) (by omega) (.slice (some ⟨g3, 0, none⟩) ks.length ks.length)
  replace N := NdUp.put (q := w.heap.size + 1 + 1) (k := 6) (u := .slice (some ⟨g3, 0, none⟩) ks.length ks.length) _ (Nat.lt_succ_self _) N
  replace B := B.setCell (p := ⟨w.heap.size + 1 + 1, 6, none⟩) (by show _ ≤ _ + 1 + 1; rw [HA.out]; omega) (.slice (some ⟨g3, 0, none⟩) ks.length ks.length)
  go_upto_region 6 with fail
  clear z0 zf
  generalize w4.setCell ⟨w.heap.size + 1 + 1, 6, none⟩ (.slice (some ⟨g3, 0, none⟩) ks.length ks.length) = W4 at *
  obtain ⟨o0, o1, o2, o3, o4, o5, o6, _⟩ := O
  obtain ⟨r0, r1, r2, r3, r4, r5, r6, rf⟩ := id RR
  replace RR := RR.set0 (.int .i64 x1)
  replace RR := RR.set1 (.int .i64 x2)
  replace RR := RR.set2 (.int .i64 x3)
  replace RR := RR.set3 (.int .i64 x4)
  replace RR := RR.set4 (.slice (some ⟨g1, 0, none⟩) bs.length bs.length)
  replace RR := RR.set5 (.slice (some ⟨g2, 0, none⟩) is.length is.length)
  replace RR := RR.set6 (.slice (some ⟨g3, 0, none⟩) ks.length ks.length)
  replace B := (((((((B.setCell (p := ⟨w.heap.size + 1, 0, none⟩) (by show _ ≤ _ + 1; rw [HA.out]; omega) (.int .i64 x1)).setCell (p := ⟨w.heap.size + 1, 1, none⟩) (by show _ ≤ _ + 1; rw [HA.out]; omega) (.int .i64 x2)).setCell (p := ⟨w.heap.size + 1, 2, none⟩) (by show _ ≤ _ + 1; rw [HA.out]; omega) (.int .i64 x3)).setCell (p := ⟨w.heap.size + 1, 3, none⟩) (by show _ ≤ _ + 1; rw [HA.out]; omega) (.int .i64 x4)).setCell (p := ⟨w.heap.size + 1, 4, none⟩) (by show _ ≤ _ + 1; rw [HA.out]; omega) (.slice (some ⟨g1, 0, none⟩) bs.length bs.length)).setCell (p := ⟨w.heap.size + 1, 5, none⟩) (by show _ ≤ _ + 1; rw [HA.out]; omega) (.slice (some ⟨g2, 0, none⟩) is.length is.length)).setCell (p := ⟨w.heap.size + 1, 6, none⟩) (by show _ ≤ _ + 1; rw [HA.out]; omega) (.slice (some ⟨g3, 0, none⟩) ks.length ks.length))
  replace N := (NdUp.put (q := w.heap.size + 1) (k := 6) (u := (.slice (some ⟨g3, 0, none⟩) ks.length ks.length)) _ (by omega) (NdUp.put (q := w.heap.size + 1) (k := 5) (u := (.slice (some ⟨g2, 0, none⟩) is.length is.length)) _ (by omega) (NdUp.put (q := w.heap.size + 1) (k := 4) (u := (.slice (some ⟨g1, 0, none⟩) bs.length bs.length)) _ (by omega) (NdUp.put (q := w.heap.size + 1) (k := 3) (u := (.int .i64 x4)) _ (by omega) (NdUp.put (q := w.heap.size + 1) (k := 2) (u := (.int .i64 x3)) _ (by omega) (NdUp.put (q := w.heap.size + 1) (k := 1) (u := (.int .i64 x2)) _ (by omega) (NdUp.put (q := w.heap.size + 1) (k := 0) (u := (.int .i64 x1)) _ (by omega) N)))))))
  have n0 := RR.c0
  have n1 := RR.c1
  have n2 := RR.c2
  have n3 := RR.c3
  have n4 := RR.c4
  have n5 := RR.c5
  have n6 := RR.c6
  have NF : Hid _ := NdUp.lower (lo' := w.heap.size) (by omega) _ N
  have UB := BA.trans (B.mono BA.size)
  clear N RR B hp1 hp2 hp3
  go_wp2
  exact bodyPost_ret (v := .agg #[.int .i64 x1, .int .i64 x2, .int .i64 x3, .int .i64 x4, .slice (some ⟨g1, 0, none⟩) bs.length bs.length, .slice (some ⟨g2, 0, none⟩) is.length is.length, .slice (some ⟨g3, 0, none⟩) ks.length ks.length]) (by simp [results, Tryz.results9, go_sem, n0, n1, n2, n3, n4, n5, n6]) rfl ⟨_, _, _, rfl, NF.out, UB⟩
theorem toNode_any : ∀ t, ToC t := Nd.ind (fun b bs is ks ih => toNode_step b bs is ks (toNodeS_step ih))
end Go.Proofs.YtdkhaghcnijilaaGreat
