/- The law on DivMod: at every argument the program's DivMod is the specification's, limb by limb; it writes into no argument; its answer owns its memory. -/
import Derived.Test.YteahbmadiideiaiDivM
import Derived.Test.YteahbmadiideiaiSDivM
import Derived.Test.YteahbmadiideiaiBounds
import Derived.Test.YteahbmadiideiaiTree
import Derived.Test.YteahbmadiideiaiHeldQ
import Derived.Deep.RegionHeld3
import Derived.Deep.DeepCutAuto
namespace Go.Proofs.Yteahbmadiideiai
open Go.RowKit

theorem IsTwo.as {b : Nat} {w : World} {v u : Value} {n d : Int} (h : IsTwo b w v u n d) {zs ts : List Int} (hh : Lim zs ∧ Nrm zs ∧ val zs = mg n ∧ Lim ts ∧ Nrm ts ∧ val ts = mg d) :
    ∃ a c a' c', v = .agg #[.bool (decide (n < 0)), .slice a zs.length c] ∧ u = .agg #[.bool (decide (d < 0)), .slice a' ts.length c'] ∧ Own b w a c zs ∧ Own b w a' c' ts ∧ Apart a zs a' ts := by
  obtain ⟨a1, c1, qs, a2, c2, rs, e, e', o1, o2, n1, n2, v1, v2, ap⟩ := h
  obtain ⟨l1, m1, w1, l2, m2, w2⟩ := hh
  obtain rfl : zs = qs := val_inj l1 o1.lim m1 n1 (w1.trans v1.symm)
  obtain rfl : ts = rs := val_inj l2 o2.lim m2 n2 (w2.trans v2.symm)
  exact ⟨a1, c1, a2, c2, e, e', o1, o2, ap⟩
theorem Apart.back {w : World} {a b : Option Addr} {c : Nat} {xs ys : List Int} (h : Came w a c xs) (hap : Apart a xs b ys) : Apart b ys a xs := by
  intro q off e1 e2 e3
  unfold rowOf at e3
  split at e3
  · cases e3
  · next hn =>
    obtain ⟨q2, off2, ha, _⟩ := h.cells hn
    rw [ha] at e3
    simp at e3
    subst e3
    refine hap q2 off2 ha hn ?_
    unfold rowOf
    rw [if_neg e2, e1]
    rfl
theorem Apart.marks {a b : Option Addr} {xs ys : List Int} {k : Int} (hap : Apart a xs b ys) : Apart a (marks k xs.length) b ys := fun q off e1 e2 =>
  hap q off e1 (by intro e; rw [e] at e2; exact e2 rfl)

theorem quot_pos {n m : Int} (hm : 0 < m) : mg (n / m) ≤ mg n := by
  have e := Int.mul_ediv_add_emod n m
  have r0 := Int.emod_nonneg n (show m ≠ 0 by omega)
  have r1 := Int.emod_lt_of_pos n hm
  by_cases hn : 0 ≤ n
  · have q0 := Int.ediv_nonneg hn (show 0 ≤ m by omega)
    have q1 := Int.ediv_le_self m hn
    unfold mg
    rw [if_neg (by omega), if_neg (by omega)]
    exact q1
  · have hq : n / m < 0 := Int.ediv_neg_of_neg_of_pos (by omega) hm
    have h11 : n < m * (n / m + 1) := by rw [Int.mul_add, Int.mul_one]; omega
    have h12 : m * (n / m + 1) ≤ 1 * (n / m + 1) := Int.mul_le_mul_of_nonpos_right (by omega) (by omega)
    unfold mg
    rw [if_pos hq, if_pos (by omega)]
    omega
theorem mg_neg (n : Int) : mg (-n) = mg n := by unfold mg; split <;> split <;> omega
theorem quot_any (n m : Int) : mg (n / m) ≤ mg n := by
  rcases Int.lt_trichotomy m 0 with h | h | h
  · have e : n / m = -(n / -m) := by rw [Int.ediv_neg, Int.neg_neg]
    rw [e, mg_neg]
    exact quot_pos (by omega)
  · subst h
    rw [Int.ediv_zero]
    unfold mg
    split <;> split <;> omega
  · exact quot_pos h
theorem rest_any (n m : Int) : mg (rz n m) ≤ mg m := by
  unfold rz
  by_cases h : m = 0
  · subst h; simp [mg]
  · have r0 := Int.emod_nonneg n h
    have r1 := Int.emod_lt n h
    simp only [h, if_false]
    unfold mg
    rw [if_neg (by omega)]
    split <;> omega
theorem div_len {g g' : Bool} {xs ys zs ts : List Int} (hx : Lim xs) (hy : Lim ys) (hz : Lim zs ∧ Nrm zs ∧ val zs = mg (tk g xs / tk g' ys) ∧ Lim ts ∧ Nrm ts ∧ val ts = mg (rz (tk g xs) (tk g' ys))) : zs.length ≤ 25 ∧ ts.length ≤ 25 := by
  obtain ⟨l1, n1, v1, l2, n2, v2⟩ := hz
  have h1 := tk_bounds g xs hx
  have h2 := tk_bounds g' ys hy
  have h5 := p_pos 24
  have q1 := quot_any (tk g xs) (tk g' ys)
  have q2 := rest_any (tk g xs) (tk g' ys)
  have b1 : mg (tk g xs) < 4294967296 ^ 24 := by unfold mg; split <;> omega
  have b2 : mg (tk g' ys) < 4294967296 ^ 24 := by unfold mg; split <;> omega
  exact ⟨Nat.le_trans (len_le l1 n1 (k := 24) (by omega)) (by decide), Nat.le_trans (len_le l2 n2 (k := 24) (by omega)) (by decide)⟩

set_option maxRecDepth 20000 in
set_option maxHeartbeats 40000000 in
theorem lawDivMod (g g' : Bool) (a a' : Option Addr) (c c' : Nat) (xs ys : List Int) (w : World) (h : Came w a c xs) (k : Came w a' c' ys) :
    Calls Try.prog 7 #[.agg #[.bool g, .slice a xs.length c], .agg #[.bool g', .slice a' ys.length c']] w fun e w' => e = .returned (.bool true) ∧ Below w.heap.size w w' := by
  have hm : xs.length ≤ 9223372036854775807 := by have := h.max; have := h.fits; unfold maxLen at *; omega
  have km : ys.length ≤ 9223372036854775807 := by have := k.max; have := k.fits; unfold maxLen at *; omega
  obtain ⟨gz, HG⟩ : ∃ gz, Hid (decide ((tk g xs / tk g' ys) < 0) = gz) := ⟨_, rfl⟩
  obtain ⟨gy, HY⟩ : ∃ gy, Hid (decide ((rz (tk g xs) (tk g' ys)) < 0) = gy) := ⟨_, rfl⟩
  obtain ⟨bz, HF⟩ : ∃ bz, Hid (decide (tk g' ys ≠ 0) = bz) := ⟨_, rfl⟩
  have HB : Hid (∀ zs ts, Lim zs ∧ Nrm zs ∧ val zs = mg (tk g xs / tk g' ys) ∧ Lim ts ∧ Nrm ts ∧ val ts = mg (rz (tk g xs) (tk g' ys)) → zs.length ≤ 25 ∧ ts.length ≤ 25) := fun zs ts hz => div_len h.lim k.lim hz
  by_cases hs : xs.length ≤ 1048576
  · by_cases hs2 : xs.length + ys.length ≤ 1048576
    · have ks : ys.length ≤ 1048576 := by omega
      go_enter Try.func7, Try.ntmps7
      go_wp2_with fail
      refine (szN g a c xs.length 1048576 _ (by omega) hm).mono ?_
      rintro e w1 ⟨rfl, hb⟩
      rw [if_neg (by omega)]
      obtain ⟨kA0, kA1⟩ := var_new w g a xs.length c 24
      obtain ⟨kB0, kB1⟩ := var_new (w.alloc (.cells #[.bool g, .slice a xs.length c] 24)) g' a' ys.length c' 24
      have hbb := below1 (w.alloc (.cells #[.bool g, .slice a xs.length c] 24)) (.cells #[.bool g', .slice a' ys.length c'] 24)
      replace kA0 := bat hbb kA0
      replace kA1 := bat hbb kA1
      have B := below2 w (.cells #[.bool g, .slice a xs.length c] 24) (.cells #[.bool g', .slice a' ys.length c'] 24)
      have hA := h.below B
      have hB := k.below B
      rw [World.size_alloc] at kB0 kB1
      clear h k hbb
      replace kA0 := bat hb kA0
      replace kA1 := bat hb kA1
      replace kB0 := bat hb kB0
      replace kB1 := bat hb kB1
      replace hA := hA.below hb
      replace hB := hB.below hb
      replace B := B.trans (hb.mono B.size)
      clear hb
      go_wp2_with fail
      refine (szN g' a' c' ys.length (1048576 - xs.length) _ (by omega) km).mono ?_
      rintro e w2 ⟨rfl, hb⟩
      rw [if_neg (by omega)]
      replace kA0 := bat hb kA0
      replace kA1 := bat hb kA1
      replace kB0 := bat hb kB0
      replace kB1 := bat hb kB1
      replace hA := hA.below hb
      replace hB := hB.below hb
      replace B := B.trans (hb.mono B.size)
      clear hb
      go_wp2_with fail
      go_cut [6, 7, 8] (fun s6 s7 s8 W => ∃ p p' a3 c3 zs a4 c4 ts, s6 = .pointer (some ⟨p, 0, none⟩) ∧ s7 = .pointer (some ⟨p', 0, none⟩) ∧ s8 = .bool bz ∧ Box2 w2.heap.size W p (.bool gz) (.slice a3 zs.length c3) ∧ Box2 w2.heap.size W p' (.bool gy) (.slice a4 ts.length c4) ∧ Own w.heap.size W a3 c3 zs ∧ Own w.heap.size W a4 c4 ts ∧ Hid (Lim zs ∧ Nrm zs ∧ val zs = mg (tk g xs / tk g' ys) ∧ Lim ts ∧ Nrm ts ∧ val ts = mg (rz (tk g xs) (tk g' ys))) ∧ Below w2.heap.size w2 W)
      case first =>
        have sz := B.size
        refine wp_region_held_drew (S := Below w2.heap.size w2) (by kernel_rfl) ((Below.refl _ _).drew) (fun hHeld => ?_)
        have N : Below w2.heap.size w2 w2.drew := hHeld
        revert hHeld N
        generalize w2.drew = v0
        intro hHeld N
        refine takeQ (i := 0) (gt rfl) (by kernel_rfl) (fun _ _ _ h => h) (by rfl) (by intro wq hSw; have q0 := bat hSw kA0; have q1 := bat hSw kA1; have q2 := bat hSw kB0; have q3 := bat hSw kB1; go_simp <;> with_reducible rfl) (by assumption) ?_
        try simp only [Act.put, sA, sB, sC]
        refine takeQ (i := 2) (gt rfl) (by kernel_rfl) (fun _ _ _ h => h) (by rfl) (by intro wq hSw; have q0 := bat hSw kA0; have q1 := bat hSw kA1; have q2 := bat hSw kB0; have q3 := bat hSw kB1; go_simp <;> with_reducible rfl) (by assumption) ?_
        try simp only [Act.put, sA, sB, sC]
        refine wpAnyH_ready (rs := [1, 9, 10]) (by kernel_rfl) (by simp) (AllReadyH.cons (gt rfl) (fun K hK => ?_) (AllReadyH.cons (gt rfl) (fun K hK => ?_) (AllReadyH.cons (gt rfl) (fun K hK => ?_) AllReadyH.nil)))
        · as_aux_lemma =>
            go_simp
            refine (toN g a c xs _ (hA.below N) hs).mono ?_
            rintro e v1 ⟨aa, ca, rfl, ho3, hb⟩
            replace N := N.trans (hb.mono N.size)
            clear hb
            refine hK.out _ _ N (fun hHeld => ?_)
            clear hK K
            try simp only [Act.put, sA, sB, sC]
            refine wpAnyH_ready (rs := [3, 9, 10]) (by kernel_rfl) (by simp) (AllReadyH.cons (gt rfl) (fun K hK => ?_) (AllReadyH.cons (gt rfl) (fun K hK => ?_) (AllReadyH.cons (gt rfl) (fun K hK => ?_) AllReadyH.nil)))
            · as_aux_lemma =>
                go_simp
                refine (toN g' a' c' ys _ (hB.below N) ks).mono ?_
                rintro e v2 ⟨ab, cb, rfl, ho4, hb⟩
                replace ho3 := ho3.below hb
                replace N := N.trans (hb.mono N.size)
                clear hb
                refine hK.out _ _ N (fun hHeld => ?_)
                clear hK K
                try simp only [Act.put, sA, sB, sC]
                refine wpAnyH_ready (rs := [4, 9, 10]) (by kernel_rfl) (by simp) (AllReadyH.cons (gt rfl) (fun K hK => ?_) (AllReadyH.cons (gt rfl) (fun K hK => ?_) (AllReadyH.cons (gt rfl) (fun K hK => ?_) AllReadyH.nil)))
                · as_aux_lemma =>
                    go_simp
                    refine (specDivMod g g' aa ab ca cb xs ys _ ho3.toSees ho4.toSees).mono ?_
                    rintro e v3 ⟨vq, vr, rfl, hI, hb⟩
                    obtain ⟨a5, c5, zs, a6, c6, ts, rfl, rfl, hoz, hot, hnz, hnt, hvz, hvt, _⟩ := hI
                    have HZ : Hid (Lim zs ∧ Nrm zs ∧ val zs = mg (tk g xs / tk g' ys) ∧ Lim ts ∧ Nrm ts ∧ val ts = mg (rz (tk g xs) (tk g' ys))) := ⟨hoz.lim, hnz, hvz, hot.lim, hnt, hvt⟩
                    rw [HG.out, HY.out, HF.out]
                    have bs := Nat.le_trans sz N.size
                    clear hnz hnt hvz hvt
                    replace ho3 := ho3.below hb
                    replace ho4 := ho4.below hb
                    replace N := N.trans (hb.mono N.size)
                    clear hb
                    clear ho3 ho4
                    refine hK.out _ _ N (fun hHeld => ?_)
                    clear hK K
                    try simp only [Act.put, sA, sB, sC]
                    refine takeQ (i := 5) (gt rfl) (by kernel_rfl) (fun _ _ _ h => h) (by rfl) (by intro wq _; go_simp <;> with_reducible rfl) (by assumption) ?_
                    try simp only [Act.put, sA, sB, sC]
                    refine takeQ (i := 6) (gt rfl) (by kernel_rfl) (fun _ _ _ h => h) (by rfl) (by intro wq _; go_simp <;> with_reducible rfl) (by assumption) ?_
                    try simp only [Act.put, sA, sB, sC]
                    refine takeQ (i := 7) (gt rfl) (by kernel_rfl) (fun _ _ _ h => h) (by rfl) (by intro wq _; go_simp <;> with_reducible rfl) (by assumption) ?_
                    try simp only [Act.put, sA, sB, sC]
                    refine takeQ (i := 8) (gt rfl) (by kernel_rfl) (fun _ _ _ h => h) (by rfl) (by intro wq _; go_simp <;> with_reducible rfl) (by assumption) ?_
                    try simp only [Act.put, sA, sB, sC]
                    refine wpAnyH_ready (rs := [9, 10]) (by kernel_rfl) (by simp) (AllReadyH.cons (gt rfl) (fun K hK => ?_) (AllReadyH.cons (gt rfl) (fun K hK => ?_) AllReadyH.nil))
                    · skip
                      go_simp
                      have kP := Box2.new v3 N.size (.bool false) (.slice none 0 0) 26
                      have hb := below1 v3 (.cells #[.bool false, .slice none 0 0] 26)
                      have r_kP_hoz := row_ne_high hoz.toCame (Nat.le_refl _)
                      have r_kP_hot := row_ne_high hot.toCame (Nat.le_refl _)
                      replace hoz := hoz.below hb
                      replace hot := hot.below hb
                      replace N := N.trans (hb.mono N.size)
                      clear hb
                      generalize v3.alloc (.cells #[.bool false, .slice none 0 0] 26) = v4 at *
                      refine hK.out _ _ N (fun hHeld => ?_)
                      clear hK K
                      try simp only [Act.put, sA, sB, sC]
                      refine wpAnyH_ready (rs := [10]) (by kernel_rfl) (by simp) (AllReadyH.cons (gt rfl) (fun K hK => ?_) AllReadyH.nil)
                      go_simp
                      have kQ := Box2.new v4 N.size (.bool false) (.slice none 0 0) 26
                      have hb := below1 v4 (.cells #[.bool false, .slice none 0 0] 26)
                      have r_kQ_hoz := row_ne_high hoz.toCame (Nat.le_refl _)
                      have r_kQ_hot := row_ne_high hot.toCame (Nat.le_refl _)
                      have ne_kQ_kP := Nat.ne_of_gt kP.lt
                      have ne_kP_kQ := ne_kQ_kP.symm
                      replace kP := kP.below hb
                      replace hoz := hoz.below hb
                      replace hot := hot.below hb
                      replace N := N.trans (hb.mono N.size)
                      clear hb
                      generalize v4.alloc (.cells #[.bool false, .slice none 0 0] 26) = v5 at *
                      refine hK.out _ _ N (fun hHeld => ?_)
                      clear hK K
                      try simp only [Act.put, sA, sB, sC]
                      refine wpAnyH_ready (rs := [11]) (by kernel_rfl) (by simp) (AllReadyH.cons (gt rfl) (fun K hK => ?_) AllReadyH.nil)
                      have z0 := kP.c0
                      have z1 := kP.c1
                      have zf := kP.fr
                      go_simp
                      clear z0 z1 zf
                      replace N := Box2.chain N kP (.bool gz) (.slice a5 zs.length c5)
                      replace kQ := kQ.old ne_kQ_kP (.bool gz) (.slice a5 zs.length c5)
                      replace hoz := hoz.put2 r_kP_hoz (.bool gz) (.slice a5 zs.length c5)
                      replace hot := hot.put2 r_kP_hot (.bool gz) (.slice a5 zs.length c5)
                      replace kP := kP.put (.bool gz) (.slice a5 zs.length c5)
                      refine hK.out _ _ N (fun hHeld => ?_)
                      clear hK K
                      try simp only [Act.put, sA, sB, sC]
                      refine wpAnyH_ready (rs := [12]) (by kernel_rfl) (by simp) (AllReadyH.cons (gt rfl) (fun K hK => ?_) AllReadyH.nil)
                      have z0 := kQ.c0
                      have z1 := kQ.c1
                      have zf := kQ.fr
                      go_simp
                      clear z0 z1 zf
                      replace N := Box2.chain N kQ (.bool gy) (.slice a6 ts.length c6)
                      replace kP := kP.old ne_kP_kQ (.bool gy) (.slice a6 ts.length c6)
                      replace hoz := hoz.put2 r_kQ_hoz (.bool gy) (.slice a6 ts.length c6)
                      replace hot := hot.put2 r_kQ_hot (.bool gy) (.slice a6 ts.length c6)
                      replace kQ := kQ.put (.bool gy) (.slice a6 ts.length c6)
                      refine hK.out _ _ N (fun hHeld => ?_)
                      clear hK K
                      try simp only [Act.put, sA, sB, sC]
                      refine takeQ (i := 13) (gt rfl) (by kernel_rfl) (fun _ _ _ h => h) (by rfl) (by intro wq _; go_simp <;> with_reducible rfl) (by assumption) ?_
                      try simp only [Act.put, sA, sB, sC]
                      refine wpAnyH_done (by kernel_rfl) ?_ _
                      go_wp2
                      go_meet
                      case rel => exact ⟨_, _, a5, c5, zs, a6, c6, ts, rfl, rfl, rfl, kP, kQ, hoz.base_le bs, hot.base_le bs, HZ, N⟩
                    · skip
                      go_simp
                      have kQ := Box2.new v3 N.size (.bool false) (.slice none 0 0) 26
                      have hb := below1 v3 (.cells #[.bool false, .slice none 0 0] 26)
                      have r_kQ_hoz := row_ne_high hoz.toCame (Nat.le_refl _)
                      have r_kQ_hot := row_ne_high hot.toCame (Nat.le_refl _)
                      replace hoz := hoz.below hb
                      replace hot := hot.below hb
                      replace N := N.trans (hb.mono N.size)
                      clear hb
                      generalize v3.alloc (.cells #[.bool false, .slice none 0 0] 26) = v8 at *
                      refine hK.out _ _ N (fun hHeld => ?_)
                      clear hK K
                      try simp only [Act.put, sA, sB, sC]
                      refine wpAnyH_ready (rs := [9]) (by kernel_rfl) (by simp) (AllReadyH.cons (gt rfl) (fun K hK => ?_) AllReadyH.nil)
                      go_simp
                      have kP := Box2.new v8 N.size (.bool false) (.slice none 0 0) 26
                      have hb := below1 v8 (.cells #[.bool false, .slice none 0 0] 26)
                      have r_kP_hoz := row_ne_high hoz.toCame (Nat.le_refl _)
                      have r_kP_hot := row_ne_high hot.toCame (Nat.le_refl _)
                      have ne_kP_kQ := Nat.ne_of_gt kQ.lt
                      have ne_kQ_kP := ne_kP_kQ.symm
                      replace kQ := kQ.below hb
                      replace hoz := hoz.below hb
                      replace hot := hot.below hb
                      replace N := N.trans (hb.mono N.size)
                      clear hb
                      generalize v8.alloc (.cells #[.bool false, .slice none 0 0] 26) = v9 at *
                      refine hK.out _ _ N (fun hHeld => ?_)
                      clear hK K
                      try simp only [Act.put, sA, sB, sC]
                      refine wpAnyH_ready (rs := [11]) (by kernel_rfl) (by simp) (AllReadyH.cons (gt rfl) (fun K hK => ?_) AllReadyH.nil)
                      have z0 := kP.c0
                      have z1 := kP.c1
                      have zf := kP.fr
                      go_simp
                      clear z0 z1 zf
                      replace N := Box2.chain N kP (.bool gz) (.slice a5 zs.length c5)
                      replace kQ := kQ.old ne_kQ_kP (.bool gz) (.slice a5 zs.length c5)
                      replace hoz := hoz.put2 r_kP_hoz (.bool gz) (.slice a5 zs.length c5)
                      replace hot := hot.put2 r_kP_hot (.bool gz) (.slice a5 zs.length c5)
                      replace kP := kP.put (.bool gz) (.slice a5 zs.length c5)
                      refine hK.out _ _ N (fun hHeld => ?_)
                      clear hK K
                      try simp only [Act.put, sA, sB, sC]
                      refine wpAnyH_ready (rs := [12]) (by kernel_rfl) (by simp) (AllReadyH.cons (gt rfl) (fun K hK => ?_) AllReadyH.nil)
                      have z0 := kQ.c0
                      have z1 := kQ.c1
                      have zf := kQ.fr
                      go_simp
                      clear z0 z1 zf
                      replace N := Box2.chain N kQ (.bool gy) (.slice a6 ts.length c6)
                      replace kP := kP.old ne_kP_kQ (.bool gy) (.slice a6 ts.length c6)
                      replace hoz := hoz.put2 r_kQ_hoz (.bool gy) (.slice a6 ts.length c6)
                      replace hot := hot.put2 r_kQ_hot (.bool gy) (.slice a6 ts.length c6)
                      replace kQ := kQ.put (.bool gy) (.slice a6 ts.length c6)
                      refine hK.out _ _ N (fun hHeld => ?_)
                      clear hK K
                      try simp only [Act.put, sA, sB, sC]
                      refine takeQ (i := 13) (gt rfl) (by kernel_rfl) (fun _ _ _ h => h) (by rfl) (by intro wq _; go_simp <;> with_reducible rfl) (by assumption) ?_
                      try simp only [Act.put, sA, sB, sC]
                      refine wpAnyH_done (by kernel_rfl) ?_ _
                      go_wp2
                      go_meet
                      case rel => exact ⟨_, _, a5, c5, zs, a6, c6, ts, rfl, rfl, rfl, kP, kQ, hoz.base_le bs, hot.base_le bs, HZ, N⟩
                · as_aux_lemma =>
                    go_simp
                    have kP := Box2.new v2 N.size (.bool false) (.slice none 0 0) 26
                    have hb := below1 v2 (.cells #[.bool false, .slice none 0 0] 26)
                    replace ho3 := ho3.below hb
                    replace ho4 := ho4.below hb
                    replace N := N.trans (hb.mono N.size)
                    clear hb
                    generalize v2.alloc (.cells #[.bool false, .slice none 0 0] 26) = v12 at *
                    refine hK.out _ _ N (fun hHeld => ?_)
                    clear hK K
                    try simp only [Act.put, sA, sB, sC]
                    refine wpAnyH_ready (rs := [4, 10]) (by kernel_rfl) (by simp) (AllReadyH.cons (gt rfl) (fun K hK => ?_) (AllReadyH.cons (gt rfl) (fun K hK => ?_) AllReadyH.nil))
                    · skip
                      go_simp
                      refine (specDivMod g g' aa ab ca cb xs ys _ ho3.toSees ho4.toSees).mono ?_
                      rintro e v13 ⟨vq, vr, rfl, hI, hb⟩
                      obtain ⟨a5, c5, zs, a6, c6, ts, rfl, rfl, hoz, hot, hnz, hnt, hvz, hvt, _⟩ := hI
                      have HZ : Hid (Lim zs ∧ Nrm zs ∧ val zs = mg (tk g xs / tk g' ys) ∧ Lim ts ∧ Nrm ts ∧ val ts = mg (rz (tk g xs) (tk g' ys))) := ⟨hoz.lim, hnz, hvz, hot.lim, hnt, hvt⟩
                      rw [HG.out, HY.out, HF.out]
                      have bs := Nat.le_trans sz N.size
                      clear hnz hnt hvz hvt
                      have r_kP_hoz := row_ne_low hoz kP.lt
                      have r_kP_hot := row_ne_low hot kP.lt
                      replace kP := kP.below hb
                      replace ho3 := ho3.below hb
                      replace ho4 := ho4.below hb
                      replace N := N.trans (hb.mono N.size)
                      clear hb
                      clear ho3 ho4
                      refine hK.out _ _ N (fun hHeld => ?_)
                      clear hK K
                      try simp only [Act.put, sA, sB, sC]
                      refine takeQ (i := 5) (gt rfl) (by kernel_rfl) (fun _ _ _ h => h) (by rfl) (by intro wq _; go_simp <;> with_reducible rfl) (by assumption) ?_
                      try simp only [Act.put, sA, sB, sC]
                      refine takeQ (i := 6) (gt rfl) (by kernel_rfl) (fun _ _ _ h => h) (by rfl) (by intro wq _; go_simp <;> with_reducible rfl) (by assumption) ?_
                      try simp only [Act.put, sA, sB, sC]
                      refine takeQ (i := 7) (gt rfl) (by kernel_rfl) (fun _ _ _ h => h) (by rfl) (by intro wq _; go_simp <;> with_reducible rfl) (by assumption) ?_
                      try simp only [Act.put, sA, sB, sC]
                      refine takeQ (i := 8) (gt rfl) (by kernel_rfl) (fun _ _ _ h => h) (by rfl) (by intro wq _; go_simp <;> with_reducible rfl) (by assumption) ?_
                      try simp only [Act.put, sA, sB, sC]
                      refine wpAnyH_ready (rs := [10]) (by kernel_rfl) (by simp) (AllReadyH.cons (gt rfl) (fun K hK => ?_) AllReadyH.nil)
                      go_simp
                      have kQ := Box2.new v13 N.size (.bool false) (.slice none 0 0) 26
                      have hb := below1 v13 (.cells #[.bool false, .slice none 0 0] 26)
                      have r_kQ_hoz := row_ne_high hoz.toCame (Nat.le_refl _)
                      have r_kQ_hot := row_ne_high hot.toCame (Nat.le_refl _)
                      have ne_kQ_kP := Nat.ne_of_gt kP.lt
                      have ne_kP_kQ := ne_kQ_kP.symm
                      replace kP := kP.below hb
                      replace hoz := hoz.below hb
                      replace hot := hot.below hb
                      replace N := N.trans (hb.mono N.size)
                      clear hb
                      generalize v13.alloc (.cells #[.bool false, .slice none 0 0] 26) = v14 at *
                      refine hK.out _ _ N (fun hHeld => ?_)
                      clear hK K
                      try simp only [Act.put, sA, sB, sC]
                      refine wpAnyH_ready (rs := [11]) (by kernel_rfl) (by simp) (AllReadyH.cons (gt rfl) (fun K hK => ?_) AllReadyH.nil)
                      have z0 := kP.c0
                      have z1 := kP.c1
                      have zf := kP.fr
                      go_simp
                      clear z0 z1 zf
                      replace N := Box2.chain N kP (.bool gz) (.slice a5 zs.length c5)
                      replace kQ := kQ.old ne_kQ_kP (.bool gz) (.slice a5 zs.length c5)
                      replace hoz := hoz.put2 r_kP_hoz (.bool gz) (.slice a5 zs.length c5)
                      replace hot := hot.put2 r_kP_hot (.bool gz) (.slice a5 zs.length c5)
                      replace kP := kP.put (.bool gz) (.slice a5 zs.length c5)
                      refine hK.out _ _ N (fun hHeld => ?_)
                      clear hK K
                      try simp only [Act.put, sA, sB, sC]
                      refine wpAnyH_ready (rs := [12]) (by kernel_rfl) (by simp) (AllReadyH.cons (gt rfl) (fun K hK => ?_) AllReadyH.nil)
                      have z0 := kQ.c0
                      have z1 := kQ.c1
                      have zf := kQ.fr
                      go_simp
                      clear z0 z1 zf
                      replace N := Box2.chain N kQ (.bool gy) (.slice a6 ts.length c6)
                      replace kP := kP.old ne_kP_kQ (.bool gy) (.slice a6 ts.length c6)
                      replace hoz := hoz.put2 r_kQ_hoz (.bool gy) (.slice a6 ts.length c6)
                      replace hot := hot.put2 r_kQ_hot (.bool gy) (.slice a6 ts.length c6)
                      replace kQ := kQ.put (.bool gy) (.slice a6 ts.length c6)
                      refine hK.out _ _ N (fun hHeld => ?_)
                      clear hK K
                      try simp only [Act.put, sA, sB, sC]
                      refine takeQ (i := 13) (gt rfl) (by kernel_rfl) (fun _ _ _ h => h) (by rfl) (by intro wq _; go_simp <;> with_reducible rfl) (by assumption) ?_
                      try simp only [Act.put, sA, sB, sC]
                      refine wpAnyH_done (by kernel_rfl) ?_ _
                      go_wp2
                      go_meet
                      case rel => exact ⟨_, _, a5, c5, zs, a6, c6, ts, rfl, rfl, rfl, kP, kQ, hoz.base_le bs, hot.base_le bs, HZ, N⟩
                    · skip
                      go_simp
                      have kQ := Box2.new v12 N.size (.bool false) (.slice none 0 0) 26
                      have hb := below1 v12 (.cells #[.bool false, .slice none 0 0] 26)
                      have ne_kQ_kP := Nat.ne_of_gt kP.lt
                      have ne_kP_kQ := ne_kQ_kP.symm
                      replace kP := kP.below hb
                      replace ho3 := ho3.below hb
                      replace ho4 := ho4.below hb
                      replace N := N.trans (hb.mono N.size)
                      clear hb
                      generalize v12.alloc (.cells #[.bool false, .slice none 0 0] 26) = v17 at *
                      refine hK.out _ _ N (fun hHeld => ?_)
                      clear hK K
                      try simp only [Act.put, sA, sB, sC]
                      refine wpAnyH_ready (rs := [4]) (by kernel_rfl) (by simp) (AllReadyH.cons (gt rfl) (fun K hK => ?_) AllReadyH.nil)
                      go_simp
                      refine (specDivMod g g' aa ab ca cb xs ys _ ho3.toSees ho4.toSees).mono ?_
                      rintro e v18 ⟨vq, vr, rfl, hI, hb⟩
                      obtain ⟨a5, c5, zs, a6, c6, ts, rfl, rfl, hoz, hot, hnz, hnt, hvz, hvt, _⟩ := hI
                      have HZ : Hid (Lim zs ∧ Nrm zs ∧ val zs = mg (tk g xs / tk g' ys) ∧ Lim ts ∧ Nrm ts ∧ val ts = mg (rz (tk g xs) (tk g' ys))) := ⟨hoz.lim, hnz, hvz, hot.lim, hnt, hvt⟩
                      rw [HG.out, HY.out, HF.out]
                      have bs := Nat.le_trans sz N.size
                      clear hnz hnt hvz hvt
                      have r_kP_hoz := row_ne_low hoz kP.lt
                      have r_kP_hot := row_ne_low hot kP.lt
                      have r_kQ_hoz := row_ne_low hoz kQ.lt
                      have r_kQ_hot := row_ne_low hot kQ.lt
                      replace kP := kP.below hb
                      replace kQ := kQ.below hb
                      replace ho3 := ho3.below hb
                      replace ho4 := ho4.below hb
                      replace N := N.trans (hb.mono N.size)
                      clear hb
                      clear ho3 ho4
                      refine hK.out _ _ N (fun hHeld => ?_)
                      clear hK K
                      try simp only [Act.put, sA, sB, sC]
                      refine takeQ (i := 5) (gt rfl) (by kernel_rfl) (fun _ _ _ h => h) (by rfl) (by intro wq _; go_simp <;> with_reducible rfl) (by assumption) ?_
                      try simp only [Act.put, sA, sB, sC]
                      refine takeQ (i := 6) (gt rfl) (by kernel_rfl) (fun _ _ _ h => h) (by rfl) (by intro wq _; go_simp <;> with_reducible rfl) (by assumption) ?_
                      try simp only [Act.put, sA, sB, sC]
                      refine takeQ (i := 7) (gt rfl) (by kernel_rfl) (fun _ _ _ h => h) (by rfl) (by intro wq _; go_simp <;> with_reducible rfl) (by assumption) ?_
                      try simp only [Act.put, sA, sB, sC]
                      refine takeQ (i := 8) (gt rfl) (by kernel_rfl) (fun _ _ _ h => h) (by rfl) (by intro wq _; go_simp <;> with_reducible rfl) (by assumption) ?_
                      try simp only [Act.put, sA, sB, sC]
                      refine wpAnyH_ready (rs := [11]) (by kernel_rfl) (by simp) (AllReadyH.cons (gt rfl) (fun K hK => ?_) AllReadyH.nil)
                      have z0 := kP.c0
                      have z1 := kP.c1
                      have zf := kP.fr
                      go_simp
                      clear z0 z1 zf
                      replace N := Box2.chain N kP (.bool gz) (.slice a5 zs.length c5)
                      replace kQ := kQ.old ne_kQ_kP (.bool gz) (.slice a5 zs.length c5)
                      replace hoz := hoz.put2 r_kP_hoz (.bool gz) (.slice a5 zs.length c5)
                      replace hot := hot.put2 r_kP_hot (.bool gz) (.slice a5 zs.length c5)
                      replace kP := kP.put (.bool gz) (.slice a5 zs.length c5)
                      refine hK.out _ _ N (fun hHeld => ?_)
                      clear hK K
                      try simp only [Act.put, sA, sB, sC]
                      refine wpAnyH_ready (rs := [12]) (by kernel_rfl) (by simp) (AllReadyH.cons (gt rfl) (fun K hK => ?_) AllReadyH.nil)
                      have z0 := kQ.c0
                      have z1 := kQ.c1
                      have zf := kQ.fr
                      go_simp
                      clear z0 z1 zf
                      replace N := Box2.chain N kQ (.bool gy) (.slice a6 ts.length c6)
                      replace kP := kP.old ne_kP_kQ (.bool gy) (.slice a6 ts.length c6)
                      replace hoz := hoz.put2 r_kQ_hoz (.bool gy) (.slice a6 ts.length c6)
                      replace hot := hot.put2 r_kQ_hot (.bool gy) (.slice a6 ts.length c6)
                      replace kQ := kQ.put (.bool gy) (.slice a6 ts.length c6)
                      refine hK.out _ _ N (fun hHeld => ?_)
                      clear hK K
                      try simp only [Act.put, sA, sB, sC]
                      refine takeQ (i := 13) (gt rfl) (by kernel_rfl) (fun _ _ _ h => h) (by rfl) (by intro wq _; go_simp <;> with_reducible rfl) (by assumption) ?_
                      try simp only [Act.put, sA, sB, sC]
                      refine wpAnyH_done (by kernel_rfl) ?_ _
                      go_wp2
                      go_meet
                      case rel => exact ⟨_, _, a5, c5, zs, a6, c6, ts, rfl, rfl, rfl, kP, kQ, hoz.base_le bs, hot.base_le bs, HZ, N⟩
                · as_aux_lemma =>
                    go_simp
                    have kQ := Box2.new v2 N.size (.bool false) (.slice none 0 0) 26
                    have hb := below1 v2 (.cells #[.bool false, .slice none 0 0] 26)
                    replace ho3 := ho3.below hb
                    replace ho4 := ho4.below hb
                    replace N := N.trans (hb.mono N.size)
                    clear hb
                    generalize v2.alloc (.cells #[.bool false, .slice none 0 0] 26) = v21 at *
                    refine hK.out _ _ N (fun hHeld => ?_)
                    clear hK K
                    try simp only [Act.put, sA, sB, sC]
                    refine wpAnyH_ready (rs := [4, 9]) (by kernel_rfl) (by simp) (AllReadyH.cons (gt rfl) (fun K hK => ?_) (AllReadyH.cons (gt rfl) (fun K hK => ?_) AllReadyH.nil))
                    · skip
                      go_simp
                      refine (specDivMod g g' aa ab ca cb xs ys _ ho3.toSees ho4.toSees).mono ?_
                      rintro e v22 ⟨vq, vr, rfl, hI, hb⟩
                      obtain ⟨a5, c5, zs, a6, c6, ts, rfl, rfl, hoz, hot, hnz, hnt, hvz, hvt, _⟩ := hI
                      have HZ : Hid (Lim zs ∧ Nrm zs ∧ val zs = mg (tk g xs / tk g' ys) ∧ Lim ts ∧ Nrm ts ∧ val ts = mg (rz (tk g xs) (tk g' ys))) := ⟨hoz.lim, hnz, hvz, hot.lim, hnt, hvt⟩
                      rw [HG.out, HY.out, HF.out]
                      have bs := Nat.le_trans sz N.size
                      clear hnz hnt hvz hvt
                      have r_kQ_hoz := row_ne_low hoz kQ.lt
                      have r_kQ_hot := row_ne_low hot kQ.lt
                      replace kQ := kQ.below hb
                      replace ho3 := ho3.below hb
                      replace ho4 := ho4.below hb
                      replace N := N.trans (hb.mono N.size)
                      clear hb
                      clear ho3 ho4
                      refine hK.out _ _ N (fun hHeld => ?_)
                      clear hK K
                      try simp only [Act.put, sA, sB, sC]
                      refine takeQ (i := 5) (gt rfl) (by kernel_rfl) (fun _ _ _ h => h) (by rfl) (by intro wq _; go_simp <;> with_reducible rfl) (by assumption) ?_
                      try simp only [Act.put, sA, sB, sC]
                      refine takeQ (i := 6) (gt rfl) (by kernel_rfl) (fun _ _ _ h => h) (by rfl) (by intro wq _; go_simp <;> with_reducible rfl) (by assumption) ?_
                      try simp only [Act.put, sA, sB, sC]
                      refine takeQ (i := 7) (gt rfl) (by kernel_rfl) (fun _ _ _ h => h) (by rfl) (by intro wq _; go_simp <;> with_reducible rfl) (by assumption) ?_
                      try simp only [Act.put, sA, sB, sC]
                      refine takeQ (i := 8) (gt rfl) (by kernel_rfl) (fun _ _ _ h => h) (by rfl) (by intro wq _; go_simp <;> with_reducible rfl) (by assumption) ?_
                      try simp only [Act.put, sA, sB, sC]
                      refine wpAnyH_ready (rs := [9]) (by kernel_rfl) (by simp) (AllReadyH.cons (gt rfl) (fun K hK => ?_) AllReadyH.nil)
                      go_simp
                      have kP := Box2.new v22 N.size (.bool false) (.slice none 0 0) 26
                      have hb := below1 v22 (.cells #[.bool false, .slice none 0 0] 26)
                      have r_kP_hoz := row_ne_high hoz.toCame (Nat.le_refl _)
                      have r_kP_hot := row_ne_high hot.toCame (Nat.le_refl _)
                      have ne_kP_kQ := Nat.ne_of_gt kQ.lt
                      have ne_kQ_kP := ne_kP_kQ.symm
                      replace kQ := kQ.below hb
                      replace hoz := hoz.below hb
                      replace hot := hot.below hb
                      replace N := N.trans (hb.mono N.size)
                      clear hb
                      generalize v22.alloc (.cells #[.bool false, .slice none 0 0] 26) = v23 at *
                      refine hK.out _ _ N (fun hHeld => ?_)
                      clear hK K
                      try simp only [Act.put, sA, sB, sC]
                      refine wpAnyH_ready (rs := [11]) (by kernel_rfl) (by simp) (AllReadyH.cons (gt rfl) (fun K hK => ?_) AllReadyH.nil)
                      have z0 := kP.c0
                      have z1 := kP.c1
                      have zf := kP.fr
                      go_simp
                      clear z0 z1 zf
                      replace N := Box2.chain N kP (.bool gz) (.slice a5 zs.length c5)
                      replace kQ := kQ.old ne_kQ_kP (.bool gz) (.slice a5 zs.length c5)
                      replace hoz := hoz.put2 r_kP_hoz (.bool gz) (.slice a5 zs.length c5)
                      replace hot := hot.put2 r_kP_hot (.bool gz) (.slice a5 zs.length c5)
                      replace kP := kP.put (.bool gz) (.slice a5 zs.length c5)
                      refine hK.out _ _ N (fun hHeld => ?_)
                      clear hK K
                      try simp only [Act.put, sA, sB, sC]
                      refine wpAnyH_ready (rs := [12]) (by kernel_rfl) (by simp) (AllReadyH.cons (gt rfl) (fun K hK => ?_) AllReadyH.nil)
                      have z0 := kQ.c0
                      have z1 := kQ.c1
                      have zf := kQ.fr
                      go_simp
                      clear z0 z1 zf
                      replace N := Box2.chain N kQ (.bool gy) (.slice a6 ts.length c6)
                      replace kP := kP.old ne_kP_kQ (.bool gy) (.slice a6 ts.length c6)
                      replace hoz := hoz.put2 r_kQ_hoz (.bool gy) (.slice a6 ts.length c6)
                      replace hot := hot.put2 r_kQ_hot (.bool gy) (.slice a6 ts.length c6)
                      replace kQ := kQ.put (.bool gy) (.slice a6 ts.length c6)
                      refine hK.out _ _ N (fun hHeld => ?_)
                      clear hK K
                      try simp only [Act.put, sA, sB, sC]
                      refine takeQ (i := 13) (gt rfl) (by kernel_rfl) (fun _ _ _ h => h) (by rfl) (by intro wq _; go_simp <;> with_reducible rfl) (by assumption) ?_
                      try simp only [Act.put, sA, sB, sC]
                      refine wpAnyH_done (by kernel_rfl) ?_ _
                      go_wp2
                      go_meet
                      case rel => exact ⟨_, _, a5, c5, zs, a6, c6, ts, rfl, rfl, rfl, kP, kQ, hoz.base_le bs, hot.base_le bs, HZ, N⟩
                    · skip
                      go_simp
                      have kP := Box2.new v21 N.size (.bool false) (.slice none 0 0) 26
                      have hb := below1 v21 (.cells #[.bool false, .slice none 0 0] 26)
                      have ne_kP_kQ := Nat.ne_of_gt kQ.lt
                      have ne_kQ_kP := ne_kP_kQ.symm
                      replace kQ := kQ.below hb
                      replace ho3 := ho3.below hb
                      replace ho4 := ho4.below hb
                      replace N := N.trans (hb.mono N.size)
                      clear hb
                      generalize v21.alloc (.cells #[.bool false, .slice none 0 0] 26) = v26 at *
                      refine hK.out _ _ N (fun hHeld => ?_)
                      clear hK K
                      try simp only [Act.put, sA, sB, sC]
                      refine wpAnyH_ready (rs := [4]) (by kernel_rfl) (by simp) (AllReadyH.cons (gt rfl) (fun K hK => ?_) AllReadyH.nil)
                      go_simp
                      refine (specDivMod g g' aa ab ca cb xs ys _ ho3.toSees ho4.toSees).mono ?_
                      rintro e v27 ⟨vq, vr, rfl, hI, hb⟩
                      obtain ⟨a5, c5, zs, a6, c6, ts, rfl, rfl, hoz, hot, hnz, hnt, hvz, hvt, _⟩ := hI
                      have HZ : Hid (Lim zs ∧ Nrm zs ∧ val zs = mg (tk g xs / tk g' ys) ∧ Lim ts ∧ Nrm ts ∧ val ts = mg (rz (tk g xs) (tk g' ys))) := ⟨hoz.lim, hnz, hvz, hot.lim, hnt, hvt⟩
                      rw [HG.out, HY.out, HF.out]
                      have bs := Nat.le_trans sz N.size
                      clear hnz hnt hvz hvt
                      have r_kQ_hoz := row_ne_low hoz kQ.lt
                      have r_kQ_hot := row_ne_low hot kQ.lt
                      have r_kP_hoz := row_ne_low hoz kP.lt
                      have r_kP_hot := row_ne_low hot kP.lt
                      replace kQ := kQ.below hb
                      replace kP := kP.below hb
                      replace ho3 := ho3.below hb
                      replace ho4 := ho4.below hb
                      replace N := N.trans (hb.mono N.size)
                      clear hb
                      clear ho3 ho4
                      refine hK.out _ _ N (fun hHeld => ?_)
                      clear hK K
                      try simp only [Act.put, sA, sB, sC]
                      refine takeQ (i := 5) (gt rfl) (by kernel_rfl) (fun _ _ _ h => h) (by rfl) (by intro wq _; go_simp <;> with_reducible rfl) (by assumption) ?_
                      try simp only [Act.put, sA, sB, sC]
                      refine takeQ (i := 6) (gt rfl) (by kernel_rfl) (fun _ _ _ h => h) (by rfl) (by intro wq _; go_simp <;> with_reducible rfl) (by assumption) ?_
                      try simp only [Act.put, sA, sB, sC]
                      refine takeQ (i := 7) (gt rfl) (by kernel_rfl) (fun _ _ _ h => h) (by rfl) (by intro wq _; go_simp <;> with_reducible rfl) (by assumption) ?_
                      try simp only [Act.put, sA, sB, sC]
                      refine takeQ (i := 8) (gt rfl) (by kernel_rfl) (fun _ _ _ h => h) (by rfl) (by intro wq _; go_simp <;> with_reducible rfl) (by assumption) ?_
                      try simp only [Act.put, sA, sB, sC]
                      refine wpAnyH_ready (rs := [11]) (by kernel_rfl) (by simp) (AllReadyH.cons (gt rfl) (fun K hK => ?_) AllReadyH.nil)
                      have z0 := kP.c0
                      have z1 := kP.c1
                      have zf := kP.fr
                      go_simp
                      clear z0 z1 zf
                      replace N := Box2.chain N kP (.bool gz) (.slice a5 zs.length c5)
                      replace kQ := kQ.old ne_kQ_kP (.bool gz) (.slice a5 zs.length c5)
                      replace hoz := hoz.put2 r_kP_hoz (.bool gz) (.slice a5 zs.length c5)
                      replace hot := hot.put2 r_kP_hot (.bool gz) (.slice a5 zs.length c5)
                      replace kP := kP.put (.bool gz) (.slice a5 zs.length c5)
                      refine hK.out _ _ N (fun hHeld => ?_)
                      clear hK K
                      try simp only [Act.put, sA, sB, sC]
                      refine wpAnyH_ready (rs := [12]) (by kernel_rfl) (by simp) (AllReadyH.cons (gt rfl) (fun K hK => ?_) AllReadyH.nil)
                      have z0 := kQ.c0
                      have z1 := kQ.c1
                      have zf := kQ.fr
                      go_simp
                      clear z0 z1 zf
                      replace N := Box2.chain N kQ (.bool gy) (.slice a6 ts.length c6)
                      replace kP := kP.old ne_kP_kQ (.bool gy) (.slice a6 ts.length c6)
                      replace hoz := hoz.put2 r_kQ_hoz (.bool gy) (.slice a6 ts.length c6)
                      replace hot := hot.put2 r_kQ_hot (.bool gy) (.slice a6 ts.length c6)
                      replace kQ := kQ.put (.bool gy) (.slice a6 ts.length c6)
                      refine hK.out _ _ N (fun hHeld => ?_)
                      clear hK K
                      try simp only [Act.put, sA, sB, sC]
                      refine takeQ (i := 13) (gt rfl) (by kernel_rfl) (fun _ _ _ h => h) (by rfl) (by intro wq _; go_simp <;> with_reducible rfl) (by assumption) ?_
                      try simp only [Act.put, sA, sB, sC]
                      refine wpAnyH_done (by kernel_rfl) ?_ _
                      go_wp2
                      go_meet
                      case rel => exact ⟨_, _, a5, c5, zs, a6, c6, ts, rfl, rfl, rfl, kP, kQ, hoz.base_le bs, hot.base_le bs, HZ, N⟩
            · as_aux_lemma =>
                go_simp
                have kP := Box2.new v1 N.size (.bool false) (.slice none 0 0) 26
                have hb := below1 v1 (.cells #[.bool false, .slice none 0 0] 26)
                replace ho3 := ho3.below hb
                replace N := N.trans (hb.mono N.size)
                clear hb
                generalize v1.alloc (.cells #[.bool false, .slice none 0 0] 26) = v30 at *
                refine hK.out _ _ N (fun hHeld => ?_)
                clear hK K
                try simp only [Act.put, sA, sB, sC]
                refine wpAnyH_ready (rs := [3, 10]) (by kernel_rfl) (by simp) (AllReadyH.cons (gt rfl) (fun K hK => ?_) (AllReadyH.cons (gt rfl) (fun K hK => ?_) AllReadyH.nil))
                · skip
                  go_simp
                  refine (toN g' a' c' ys _ (hB.below N) ks).mono ?_
                  rintro e v31 ⟨ab, cb, rfl, ho4, hb⟩
                  replace kP := kP.below hb
                  replace ho3 := ho3.below hb
                  replace N := N.trans (hb.mono N.size)
                  clear hb
                  refine hK.out _ _ N (fun hHeld => ?_)
                  clear hK K
                  try simp only [Act.put, sA, sB, sC]
                  refine wpAnyH_ready (rs := [4, 10]) (by kernel_rfl) (by simp) (AllReadyH.cons (gt rfl) (fun K hK => ?_) (AllReadyH.cons (gt rfl) (fun K hK => ?_) AllReadyH.nil))
                  · skip
                    go_simp
                    refine (specDivMod g g' aa ab ca cb xs ys _ ho3.toSees ho4.toSees).mono ?_
                    rintro e v32 ⟨vq, vr, rfl, hI, hb⟩
                    obtain ⟨a5, c5, zs, a6, c6, ts, rfl, rfl, hoz, hot, hnz, hnt, hvz, hvt, _⟩ := hI
                    have HZ : Hid (Lim zs ∧ Nrm zs ∧ val zs = mg (tk g xs / tk g' ys) ∧ Lim ts ∧ Nrm ts ∧ val ts = mg (rz (tk g xs) (tk g' ys))) := ⟨hoz.lim, hnz, hvz, hot.lim, hnt, hvt⟩
                    rw [HG.out, HY.out, HF.out]
                    have bs := Nat.le_trans sz N.size
                    clear hnz hnt hvz hvt
                    have r_kP_hoz := row_ne_low hoz kP.lt
                    have r_kP_hot := row_ne_low hot kP.lt
                    replace kP := kP.below hb
                    replace ho3 := ho3.below hb
                    replace ho4 := ho4.below hb
                    replace N := N.trans (hb.mono N.size)
                    clear hb
                    clear ho3 ho4
                    refine hK.out _ _ N (fun hHeld => ?_)
                    clear hK K
                    try simp only [Act.put, sA, sB, sC]
                    refine takeQ (i := 5) (gt rfl) (by kernel_rfl) (fun _ _ _ h => h) (by rfl) (by intro wq _; go_simp <;> with_reducible rfl) (by assumption) ?_
                    try simp only [Act.put, sA, sB, sC]
                    refine takeQ (i := 6) (gt rfl) (by kernel_rfl) (fun _ _ _ h => h) (by rfl) (by intro wq _; go_simp <;> with_reducible rfl) (by assumption) ?_
                    try simp only [Act.put, sA, sB, sC]
                    refine takeQ (i := 7) (gt rfl) (by kernel_rfl) (fun _ _ _ h => h) (by rfl) (by intro wq _; go_simp <;> with_reducible rfl) (by assumption) ?_
                    try simp only [Act.put, sA, sB, sC]
                    refine takeQ (i := 8) (gt rfl) (by kernel_rfl) (fun _ _ _ h => h) (by rfl) (by intro wq _; go_simp <;> with_reducible rfl) (by assumption) ?_
                    try simp only [Act.put, sA, sB, sC]
                    refine wpAnyH_ready (rs := [10]) (by kernel_rfl) (by simp) (AllReadyH.cons (gt rfl) (fun K hK => ?_) AllReadyH.nil)
                    go_simp
                    have kQ := Box2.new v32 N.size (.bool false) (.slice none 0 0) 26
                    have hb := below1 v32 (.cells #[.bool false, .slice none 0 0] 26)
                    have r_kQ_hoz := row_ne_high hoz.toCame (Nat.le_refl _)
                    have r_kQ_hot := row_ne_high hot.toCame (Nat.le_refl _)
                    have ne_kQ_kP := Nat.ne_of_gt kP.lt
                    have ne_kP_kQ := ne_kQ_kP.symm
                    replace kP := kP.below hb
                    replace hoz := hoz.below hb
                    replace hot := hot.below hb
                    replace N := N.trans (hb.mono N.size)
                    clear hb
                    generalize v32.alloc (.cells #[.bool false, .slice none 0 0] 26) = v33 at *
                    refine hK.out _ _ N (fun hHeld => ?_)
                    clear hK K
                    try simp only [Act.put, sA, sB, sC]
                    refine wpAnyH_ready (rs := [11]) (by kernel_rfl) (by simp) (AllReadyH.cons (gt rfl) (fun K hK => ?_) AllReadyH.nil)
                    have z0 := kP.c0
                    have z1 := kP.c1
                    have zf := kP.fr
                    go_simp
                    clear z0 z1 zf
                    replace N := Box2.chain N kP (.bool gz) (.slice a5 zs.length c5)
                    replace kQ := kQ.old ne_kQ_kP (.bool gz) (.slice a5 zs.length c5)
                    replace hoz := hoz.put2 r_kP_hoz (.bool gz) (.slice a5 zs.length c5)
                    replace hot := hot.put2 r_kP_hot (.bool gz) (.slice a5 zs.length c5)
                    replace kP := kP.put (.bool gz) (.slice a5 zs.length c5)
                    refine hK.out _ _ N (fun hHeld => ?_)
                    clear hK K
                    try simp only [Act.put, sA, sB, sC]
                    refine wpAnyH_ready (rs := [12]) (by kernel_rfl) (by simp) (AllReadyH.cons (gt rfl) (fun K hK => ?_) AllReadyH.nil)
                    have z0 := kQ.c0
                    have z1 := kQ.c1
                    have zf := kQ.fr
                    go_simp
                    clear z0 z1 zf
                    replace N := Box2.chain N kQ (.bool gy) (.slice a6 ts.length c6)
                    replace kP := kP.old ne_kP_kQ (.bool gy) (.slice a6 ts.length c6)
                    replace hoz := hoz.put2 r_kQ_hoz (.bool gy) (.slice a6 ts.length c6)
                    replace hot := hot.put2 r_kQ_hot (.bool gy) (.slice a6 ts.length c6)
                    replace kQ := kQ.put (.bool gy) (.slice a6 ts.length c6)
                    refine hK.out _ _ N (fun hHeld => ?_)
                    clear hK K
                    try simp only [Act.put, sA, sB, sC]
                    refine takeQ (i := 13) (gt rfl) (by kernel_rfl) (fun _ _ _ h => h) (by rfl) (by intro wq _; go_simp <;> with_reducible rfl) (by assumption) ?_
                    try simp only [Act.put, sA, sB, sC]
                    refine wpAnyH_done (by kernel_rfl) ?_ _
                    go_wp2
                    go_meet
                    case rel => exact ⟨_, _, a5, c5, zs, a6, c6, ts, rfl, rfl, rfl, kP, kQ, hoz.base_le bs, hot.base_le bs, HZ, N⟩
                  · skip
                    go_simp
                    have kQ := Box2.new v31 N.size (.bool false) (.slice none 0 0) 26
                    have hb := below1 v31 (.cells #[.bool false, .slice none 0 0] 26)
                    have ne_kQ_kP := Nat.ne_of_gt kP.lt
                    have ne_kP_kQ := ne_kQ_kP.symm
                    replace kP := kP.below hb
                    replace ho3 := ho3.below hb
                    replace ho4 := ho4.below hb
                    replace N := N.trans (hb.mono N.size)
                    clear hb
                    generalize v31.alloc (.cells #[.bool false, .slice none 0 0] 26) = v36 at *
                    refine hK.out _ _ N (fun hHeld => ?_)
                    clear hK K
                    try simp only [Act.put, sA, sB, sC]
                    refine wpAnyH_ready (rs := [4]) (by kernel_rfl) (by simp) (AllReadyH.cons (gt rfl) (fun K hK => ?_) AllReadyH.nil)
                    go_simp
                    refine (specDivMod g g' aa ab ca cb xs ys _ ho3.toSees ho4.toSees).mono ?_
                    rintro e v37 ⟨vq, vr, rfl, hI, hb⟩
                    obtain ⟨a5, c5, zs, a6, c6, ts, rfl, rfl, hoz, hot, hnz, hnt, hvz, hvt, _⟩ := hI
                    have HZ : Hid (Lim zs ∧ Nrm zs ∧ val zs = mg (tk g xs / tk g' ys) ∧ Lim ts ∧ Nrm ts ∧ val ts = mg (rz (tk g xs) (tk g' ys))) := ⟨hoz.lim, hnz, hvz, hot.lim, hnt, hvt⟩
                    rw [HG.out, HY.out, HF.out]
                    have bs := Nat.le_trans sz N.size
                    clear hnz hnt hvz hvt
                    have r_kP_hoz := row_ne_low hoz kP.lt
                    have r_kP_hot := row_ne_low hot kP.lt
                    have r_kQ_hoz := row_ne_low hoz kQ.lt
                    have r_kQ_hot := row_ne_low hot kQ.lt
                    replace kP := kP.below hb
                    replace kQ := kQ.below hb
                    replace ho3 := ho3.below hb
                    replace ho4 := ho4.below hb
                    replace N := N.trans (hb.mono N.size)
                    clear hb
                    clear ho3 ho4
                    refine hK.out _ _ N (fun hHeld => ?_)
                    clear hK K
                    try simp only [Act.put, sA, sB, sC]
                    refine takeQ (i := 5) (gt rfl) (by kernel_rfl) (fun _ _ _ h => h) (by rfl) (by intro wq _; go_simp <;> with_reducible rfl) (by assumption) ?_
                    try simp only [Act.put, sA, sB, sC]
                    refine takeQ (i := 6) (gt rfl) (by kernel_rfl) (fun _ _ _ h => h) (by rfl) (by intro wq _; go_simp <;> with_reducible rfl) (by assumption) ?_
                    try simp only [Act.put, sA, sB, sC]
                    refine takeQ (i := 7) (gt rfl) (by kernel_rfl) (fun _ _ _ h => h) (by rfl) (by intro wq _; go_simp <;> with_reducible rfl) (by assumption) ?_
                    try simp only [Act.put, sA, sB, sC]
                    refine takeQ (i := 8) (gt rfl) (by kernel_rfl) (fun _ _ _ h => h) (by rfl) (by intro wq _; go_simp <;> with_reducible rfl) (by assumption) ?_
                    try simp only [Act.put, sA, sB, sC]
                    refine wpAnyH_ready (rs := [11]) (by kernel_rfl) (by simp) (AllReadyH.cons (gt rfl) (fun K hK => ?_) AllReadyH.nil)
                    have z0 := kP.c0
                    have z1 := kP.c1
                    have zf := kP.fr
                    go_simp
                    clear z0 z1 zf
                    replace N := Box2.chain N kP (.bool gz) (.slice a5 zs.length c5)
                    replace kQ := kQ.old ne_kQ_kP (.bool gz) (.slice a5 zs.length c5)
                    replace hoz := hoz.put2 r_kP_hoz (.bool gz) (.slice a5 zs.length c5)
                    replace hot := hot.put2 r_kP_hot (.bool gz) (.slice a5 zs.length c5)
                    replace kP := kP.put (.bool gz) (.slice a5 zs.length c5)
                    refine hK.out _ _ N (fun hHeld => ?_)
                    clear hK K
                    try simp only [Act.put, sA, sB, sC]
                    refine wpAnyH_ready (rs := [12]) (by kernel_rfl) (by simp) (AllReadyH.cons (gt rfl) (fun K hK => ?_) AllReadyH.nil)
                    have z0 := kQ.c0
                    have z1 := kQ.c1
                    have zf := kQ.fr
                    go_simp
                    clear z0 z1 zf
                    replace N := Box2.chain N kQ (.bool gy) (.slice a6 ts.length c6)
                    replace kP := kP.old ne_kP_kQ (.bool gy) (.slice a6 ts.length c6)
                    replace hoz := hoz.put2 r_kQ_hoz (.bool gy) (.slice a6 ts.length c6)
                    replace hot := hot.put2 r_kQ_hot (.bool gy) (.slice a6 ts.length c6)
                    replace kQ := kQ.put (.bool gy) (.slice a6 ts.length c6)
                    refine hK.out _ _ N (fun hHeld => ?_)
                    clear hK K
                    try simp only [Act.put, sA, sB, sC]
                    refine takeQ (i := 13) (gt rfl) (by kernel_rfl) (fun _ _ _ h => h) (by rfl) (by intro wq _; go_simp <;> with_reducible rfl) (by assumption) ?_
                    try simp only [Act.put, sA, sB, sC]
                    refine wpAnyH_done (by kernel_rfl) ?_ _
                    go_wp2
                    go_meet
                    case rel => exact ⟨_, _, a5, c5, zs, a6, c6, ts, rfl, rfl, rfl, kP, kQ, hoz.base_le bs, hot.base_le bs, HZ, N⟩
                · skip
                  go_simp
                  have kQ := Box2.new v30 N.size (.bool false) (.slice none 0 0) 26
                  have hb := below1 v30 (.cells #[.bool false, .slice none 0 0] 26)
                  have ne_kQ_kP := Nat.ne_of_gt kP.lt
                  have ne_kP_kQ := ne_kQ_kP.symm
                  replace kP := kP.below hb
                  replace ho3 := ho3.below hb
                  replace N := N.trans (hb.mono N.size)
                  clear hb
                  generalize v30.alloc (.cells #[.bool false, .slice none 0 0] 26) = v40 at *
                  refine hK.out _ _ N (fun hHeld => ?_)
                  clear hK K
                  try simp only [Act.put, sA, sB, sC]
                  refine wpAnyH_ready (rs := [3]) (by kernel_rfl) (by simp) (AllReadyH.cons (gt rfl) (fun K hK => ?_) AllReadyH.nil)
                  go_simp
                  refine (toN g' a' c' ys _ (hB.below N) ks).mono ?_
                  rintro e v41 ⟨ab, cb, rfl, ho4, hb⟩
                  replace kP := kP.below hb
                  replace kQ := kQ.below hb
                  replace ho3 := ho3.below hb
                  replace N := N.trans (hb.mono N.size)
                  clear hb
                  refine hK.out _ _ N (fun hHeld => ?_)
                  clear hK K
                  try simp only [Act.put, sA, sB, sC]
                  refine wpAnyH_ready (rs := [4]) (by kernel_rfl) (by simp) (AllReadyH.cons (gt rfl) (fun K hK => ?_) AllReadyH.nil)
                  go_simp
                  refine (specDivMod g g' aa ab ca cb xs ys _ ho3.toSees ho4.toSees).mono ?_
                  rintro e v42 ⟨vq, vr, rfl, hI, hb⟩
                  obtain ⟨a5, c5, zs, a6, c6, ts, rfl, rfl, hoz, hot, hnz, hnt, hvz, hvt, _⟩ := hI
                  have HZ : Hid (Lim zs ∧ Nrm zs ∧ val zs = mg (tk g xs / tk g' ys) ∧ Lim ts ∧ Nrm ts ∧ val ts = mg (rz (tk g xs) (tk g' ys))) := ⟨hoz.lim, hnz, hvz, hot.lim, hnt, hvt⟩
                  rw [HG.out, HY.out, HF.out]
                  have bs := Nat.le_trans sz N.size
                  clear hnz hnt hvz hvt
                  have r_kP_hoz := row_ne_low hoz kP.lt
                  have r_kP_hot := row_ne_low hot kP.lt
                  have r_kQ_hoz := row_ne_low hoz kQ.lt
                  have r_kQ_hot := row_ne_low hot kQ.lt
                  replace kP := kP.below hb
                  replace kQ := kQ.below hb
                  replace ho3 := ho3.below hb
                  replace ho4 := ho4.below hb
                  replace N := N.trans (hb.mono N.size)
                  clear hb
                  clear ho3 ho4
                  refine hK.out _ _ N (fun hHeld => ?_)
                  clear hK K
                  try simp only [Act.put, sA, sB, sC]
                  refine takeQ (i := 5) (gt rfl) (by kernel_rfl) (fun _ _ _ h => h) (by rfl) (by intro wq _; go_simp <;> with_reducible rfl) (by assumption) ?_
                  try simp only [Act.put, sA, sB, sC]
                  refine takeQ (i := 6) (gt rfl) (by kernel_rfl) (fun _ _ _ h => h) (by rfl) (by intro wq _; go_simp <;> with_reducible rfl) (by assumption) ?_
                  try simp only [Act.put, sA, sB, sC]
                  refine takeQ (i := 7) (gt rfl) (by kernel_rfl) (fun _ _ _ h => h) (by rfl) (by intro wq _; go_simp <;> with_reducible rfl) (by assumption) ?_
                  try simp only [Act.put, sA, sB, sC]
                  refine takeQ (i := 8) (gt rfl) (by kernel_rfl) (fun _ _ _ h => h) (by rfl) (by intro wq _; go_simp <;> with_reducible rfl) (by assumption) ?_
                  try simp only [Act.put, sA, sB, sC]
                  refine wpAnyH_ready (rs := [11]) (by kernel_rfl) (by simp) (AllReadyH.cons (gt rfl) (fun K hK => ?_) AllReadyH.nil)
                  have z0 := kP.c0
                  have z1 := kP.c1
                  have zf := kP.fr
                  go_simp
                  clear z0 z1 zf
                  replace N := Box2.chain N kP (.bool gz) (.slice a5 zs.length c5)
                  replace kQ := kQ.old ne_kQ_kP (.bool gz) (.slice a5 zs.length c5)
                  replace hoz := hoz.put2 r_kP_hoz (.bool gz) (.slice a5 zs.length c5)
                  replace hot := hot.put2 r_kP_hot (.bool gz) (.slice a5 zs.length c5)
                  replace kP := kP.put (.bool gz) (.slice a5 zs.length c5)
                  refine hK.out _ _ N (fun hHeld => ?_)
                  clear hK K
                  try simp only [Act.put, sA, sB, sC]
                  refine wpAnyH_ready (rs := [12]) (by kernel_rfl) (by simp) (AllReadyH.cons (gt rfl) (fun K hK => ?_) AllReadyH.nil)
                  have z0 := kQ.c0
                  have z1 := kQ.c1
                  have zf := kQ.fr
                  go_simp
                  clear z0 z1 zf
                  replace N := Box2.chain N kQ (.bool gy) (.slice a6 ts.length c6)
                  replace kP := kP.old ne_kP_kQ (.bool gy) (.slice a6 ts.length c6)
                  replace hoz := hoz.put2 r_kQ_hoz (.bool gy) (.slice a6 ts.length c6)
                  replace hot := hot.put2 r_kQ_hot (.bool gy) (.slice a6 ts.length c6)
                  replace kQ := kQ.put (.bool gy) (.slice a6 ts.length c6)
                  refine hK.out _ _ N (fun hHeld => ?_)
                  clear hK K
                  try simp only [Act.put, sA, sB, sC]
                  refine takeQ (i := 13) (gt rfl) (by kernel_rfl) (fun _ _ _ h => h) (by rfl) (by intro wq _; go_simp <;> with_reducible rfl) (by assumption) ?_
                  try simp only [Act.put, sA, sB, sC]
                  refine wpAnyH_done (by kernel_rfl) ?_ _
                  go_wp2
                  go_meet
                  case rel => exact ⟨_, _, a5, c5, zs, a6, c6, ts, rfl, rfl, rfl, kP, kQ, hoz.base_le bs, hot.base_le bs, HZ, N⟩
            · as_aux_lemma =>
                go_simp
                have kQ := Box2.new v1 N.size (.bool false) (.slice none 0 0) 26
                have hb := below1 v1 (.cells #[.bool false, .slice none 0 0] 26)
                replace ho3 := ho3.below hb
                replace N := N.trans (hb.mono N.size)
                clear hb
                generalize v1.alloc (.cells #[.bool false, .slice none 0 0] 26) = v45 at *
                refine hK.out _ _ N (fun hHeld => ?_)
                clear hK K
                try simp only [Act.put, sA, sB, sC]
                refine wpAnyH_ready (rs := [3, 9]) (by kernel_rfl) (by simp) (AllReadyH.cons (gt rfl) (fun K hK => ?_) (AllReadyH.cons (gt rfl) (fun K hK => ?_) AllReadyH.nil))
                · skip
                  go_simp
                  refine (toN g' a' c' ys _ (hB.below N) ks).mono ?_
                  rintro e v46 ⟨ab, cb, rfl, ho4, hb⟩
                  replace kQ := kQ.below hb
                  replace ho3 := ho3.below hb
                  replace N := N.trans (hb.mono N.size)
                  clear hb
                  refine hK.out _ _ N (fun hHeld => ?_)
                  clear hK K
                  try simp only [Act.put, sA, sB, sC]
                  refine wpAnyH_ready (rs := [4, 9]) (by kernel_rfl) (by simp) (AllReadyH.cons (gt rfl) (fun K hK => ?_) (AllReadyH.cons (gt rfl) (fun K hK => ?_) AllReadyH.nil))
                  · skip
                    go_simp
                    refine (specDivMod g g' aa ab ca cb xs ys _ ho3.toSees ho4.toSees).mono ?_
                    rintro e v47 ⟨vq, vr, rfl, hI, hb⟩
                    obtain ⟨a5, c5, zs, a6, c6, ts, rfl, rfl, hoz, hot, hnz, hnt, hvz, hvt, _⟩ := hI
                    have HZ : Hid (Lim zs ∧ Nrm zs ∧ val zs = mg (tk g xs / tk g' ys) ∧ Lim ts ∧ Nrm ts ∧ val ts = mg (rz (tk g xs) (tk g' ys))) := ⟨hoz.lim, hnz, hvz, hot.lim, hnt, hvt⟩
                    rw [HG.out, HY.out, HF.out]
                    have bs := Nat.le_trans sz N.size
                    clear hnz hnt hvz hvt
                    have r_kQ_hoz := row_ne_low hoz kQ.lt
                    have r_kQ_hot := row_ne_low hot kQ.lt
                    replace kQ := kQ.below hb
                    replace ho3 := ho3.below hb
                    replace ho4 := ho4.below hb
                    replace N := N.trans (hb.mono N.size)
                    clear hb
                    clear ho3 ho4
                    refine hK.out _ _ N (fun hHeld => ?_)
                    clear hK K
                    try simp only [Act.put, sA, sB, sC]
                    refine takeQ (i := 5) (gt rfl) (by kernel_rfl) (fun _ _ _ h => h) (by rfl) (by intro wq _; go_simp <;> with_reducible rfl) (by assumption) ?_
                    try simp only [Act.put, sA, sB, sC]
                    refine takeQ (i := 6) (gt rfl) (by kernel_rfl) (fun _ _ _ h => h) (by rfl) (by intro wq _; go_simp <;> with_reducible rfl) (by assumption) ?_
                    try simp only [Act.put, sA, sB, sC]
                    refine takeQ (i := 7) (gt rfl) (by kernel_rfl) (fun _ _ _ h => h) (by rfl) (by intro wq _; go_simp <;> with_reducible rfl) (by assumption) ?_
                    try simp only [Act.put, sA, sB, sC]
                    refine takeQ (i := 8) (gt rfl) (by kernel_rfl) (fun _ _ _ h => h) (by rfl) (by intro wq _; go_simp <;> with_reducible rfl) (by assumption) ?_
                    try simp only [Act.put, sA, sB, sC]
                    refine wpAnyH_ready (rs := [9]) (by kernel_rfl) (by simp) (AllReadyH.cons (gt rfl) (fun K hK => ?_) AllReadyH.nil)
                    go_simp
                    have kP := Box2.new v47 N.size (.bool false) (.slice none 0 0) 26
                    have hb := below1 v47 (.cells #[.bool false, .slice none 0 0] 26)
                    have r_kP_hoz := row_ne_high hoz.toCame (Nat.le_refl _)
                    have r_kP_hot := row_ne_high hot.toCame (Nat.le_refl _)
                    have ne_kP_kQ := Nat.ne_of_gt kQ.lt
                    have ne_kQ_kP := ne_kP_kQ.symm
                    replace kQ := kQ.below hb
                    replace hoz := hoz.below hb
                    replace hot := hot.below hb
                    replace N := N.trans (hb.mono N.size)
                    clear hb
                    generalize v47.alloc (.cells #[.bool false, .slice none 0 0] 26) = v48 at *
                    refine hK.out _ _ N (fun hHeld => ?_)
                    clear hK K
                    try simp only [Act.put, sA, sB, sC]
                    refine wpAnyH_ready (rs := [11]) (by kernel_rfl) (by simp) (AllReadyH.cons (gt rfl) (fun K hK => ?_) AllReadyH.nil)
                    have z0 := kP.c0
                    have z1 := kP.c1
                    have zf := kP.fr
                    go_simp
                    clear z0 z1 zf
                    replace N := Box2.chain N kP (.bool gz) (.slice a5 zs.length c5)
                    replace kQ := kQ.old ne_kQ_kP (.bool gz) (.slice a5 zs.length c5)
                    replace hoz := hoz.put2 r_kP_hoz (.bool gz) (.slice a5 zs.length c5)
                    replace hot := hot.put2 r_kP_hot (.bool gz) (.slice a5 zs.length c5)
                    replace kP := kP.put (.bool gz) (.slice a5 zs.length c5)
                    refine hK.out _ _ N (fun hHeld => ?_)
                    clear hK K
                    try simp only [Act.put, sA, sB, sC]
                    refine wpAnyH_ready (rs := [12]) (by kernel_rfl) (by simp) (AllReadyH.cons (gt rfl) (fun K hK => ?_) AllReadyH.nil)
                    have z0 := kQ.c0
                    have z1 := kQ.c1
                    have zf := kQ.fr
                    go_simp
                    clear z0 z1 zf
                    replace N := Box2.chain N kQ (.bool gy) (.slice a6 ts.length c6)
                    replace kP := kP.old ne_kP_kQ (.bool gy) (.slice a6 ts.length c6)
                    replace hoz := hoz.put2 r_kQ_hoz (.bool gy) (.slice a6 ts.length c6)
                    replace hot := hot.put2 r_kQ_hot (.bool gy) (.slice a6 ts.length c6)
                    replace kQ := kQ.put (.bool gy) (.slice a6 ts.length c6)
                    refine hK.out _ _ N (fun hHeld => ?_)
                    clear hK K
                    try simp only [Act.put, sA, sB, sC]
                    refine takeQ (i := 13) (gt rfl) (by kernel_rfl) (fun _ _ _ h => h) (by rfl) (by intro wq _; go_simp <;> with_reducible rfl) (by assumption) ?_
                    try simp only [Act.put, sA, sB, sC]
                    refine wpAnyH_done (by kernel_rfl) ?_ _
                    go_wp2
                    go_meet
                    case rel => exact ⟨_, _, a5, c5, zs, a6, c6, ts, rfl, rfl, rfl, kP, kQ, hoz.base_le bs, hot.base_le bs, HZ, N⟩
                  · skip
                    go_simp
                    have kP := Box2.new v46 N.size (.bool false) (.slice none 0 0) 26
                    have hb := below1 v46 (.cells #[.bool false, .slice none 0 0] 26)
                    have ne_kP_kQ := Nat.ne_of_gt kQ.lt
                    have ne_kQ_kP := ne_kP_kQ.symm
                    replace kQ := kQ.below hb
                    replace ho3 := ho3.below hb
                    replace ho4 := ho4.below hb
                    replace N := N.trans (hb.mono N.size)
                    clear hb
                    generalize v46.alloc (.cells #[.bool false, .slice none 0 0] 26) = v51 at *
                    refine hK.out _ _ N (fun hHeld => ?_)
                    clear hK K
                    try simp only [Act.put, sA, sB, sC]
                    refine wpAnyH_ready (rs := [4]) (by kernel_rfl) (by simp) (AllReadyH.cons (gt rfl) (fun K hK => ?_) AllReadyH.nil)
                    go_simp
                    refine (specDivMod g g' aa ab ca cb xs ys _ ho3.toSees ho4.toSees).mono ?_
                    rintro e v52 ⟨vq, vr, rfl, hI, hb⟩
                    obtain ⟨a5, c5, zs, a6, c6, ts, rfl, rfl, hoz, hot, hnz, hnt, hvz, hvt, _⟩ := hI
                    have HZ : Hid (Lim zs ∧ Nrm zs ∧ val zs = mg (tk g xs / tk g' ys) ∧ Lim ts ∧ Nrm ts ∧ val ts = mg (rz (tk g xs) (tk g' ys))) := ⟨hoz.lim, hnz, hvz, hot.lim, hnt, hvt⟩
                    rw [HG.out, HY.out, HF.out]
                    have bs := Nat.le_trans sz N.size
                    clear hnz hnt hvz hvt
                    have r_kQ_hoz := row_ne_low hoz kQ.lt
                    have r_kQ_hot := row_ne_low hot kQ.lt
                    have r_kP_hoz := row_ne_low hoz kP.lt
                    have r_kP_hot := row_ne_low hot kP.lt
                    replace kQ := kQ.below hb
                    replace kP := kP.below hb
                    replace ho3 := ho3.below hb
                    replace ho4 := ho4.below hb
                    replace N := N.trans (hb.mono N.size)
                    clear hb
                    clear ho3 ho4
                    refine hK.out _ _ N (fun hHeld => ?_)
                    clear hK K
                    try simp only [Act.put, sA, sB, sC]
                    refine takeQ (i := 5) (gt rfl) (by kernel_rfl) (fun _ _ _ h => h) (by rfl) (by intro wq _; go_simp <;> with_reducible rfl) (by assumption) ?_
                    try simp only [Act.put, sA, sB, sC]
                    refine takeQ (i := 6) (gt rfl) (by kernel_rfl) (fun _ _ _ h => h) (by rfl) (by intro wq _; go_simp <;> with_reducible rfl) (by assumption) ?_
                    try simp only [Act.put, sA, sB, sC]
                    refine takeQ (i := 7) (gt rfl) (by kernel_rfl) (fun _ _ _ h => h) (by rfl) (by intro wq _; go_simp <;> with_reducible rfl) (by assumption) ?_
                    try simp only [Act.put, sA, sB, sC]
                    refine takeQ (i := 8) (gt rfl) (by kernel_rfl) (fun _ _ _ h => h) (by rfl) (by intro wq _; go_simp <;> with_reducible rfl) (by assumption) ?_
                    try simp only [Act.put, sA, sB, sC]
                    refine wpAnyH_ready (rs := [11]) (by kernel_rfl) (by simp) (AllReadyH.cons (gt rfl) (fun K hK => ?_) AllReadyH.nil)
                    have z0 := kP.c0
                    have z1 := kP.c1
                    have zf := kP.fr
                    go_simp
                    clear z0 z1 zf
                    replace N := Box2.chain N kP (.bool gz) (.slice a5 zs.length c5)
                    replace kQ := kQ.old ne_kQ_kP (.bool gz) (.slice a5 zs.length c5)
                    replace hoz := hoz.put2 r_kP_hoz (.bool gz) (.slice a5 zs.length c5)
                    replace hot := hot.put2 r_kP_hot (.bool gz) (.slice a5 zs.length c5)
                    replace kP := kP.put (.bool gz) (.slice a5 zs.length c5)
                    refine hK.out _ _ N (fun hHeld => ?_)
                    clear hK K
                    try simp only [Act.put, sA, sB, sC]
                    refine wpAnyH_ready (rs := [12]) (by kernel_rfl) (by simp) (AllReadyH.cons (gt rfl) (fun K hK => ?_) AllReadyH.nil)
                    have z0 := kQ.c0
                    have z1 := kQ.c1
                    have zf := kQ.fr
                    go_simp
                    clear z0 z1 zf
                    replace N := Box2.chain N kQ (.bool gy) (.slice a6 ts.length c6)
                    replace kP := kP.old ne_kP_kQ (.bool gy) (.slice a6 ts.length c6)
                    replace hoz := hoz.put2 r_kQ_hoz (.bool gy) (.slice a6 ts.length c6)
                    replace hot := hot.put2 r_kQ_hot (.bool gy) (.slice a6 ts.length c6)
                    replace kQ := kQ.put (.bool gy) (.slice a6 ts.length c6)
                    refine hK.out _ _ N (fun hHeld => ?_)
                    clear hK K
                    try simp only [Act.put, sA, sB, sC]
                    refine takeQ (i := 13) (gt rfl) (by kernel_rfl) (fun _ _ _ h => h) (by rfl) (by intro wq _; go_simp <;> with_reducible rfl) (by assumption) ?_
                    try simp only [Act.put, sA, sB, sC]
                    refine wpAnyH_done (by kernel_rfl) ?_ _
                    go_wp2
                    go_meet
                    case rel => exact ⟨_, _, a5, c5, zs, a6, c6, ts, rfl, rfl, rfl, kP, kQ, hoz.base_le bs, hot.base_le bs, HZ, N⟩
                · skip
                  go_simp
                  have kP := Box2.new v45 N.size (.bool false) (.slice none 0 0) 26
                  have hb := below1 v45 (.cells #[.bool false, .slice none 0 0] 26)
                  have ne_kP_kQ := Nat.ne_of_gt kQ.lt
                  have ne_kQ_kP := ne_kP_kQ.symm
                  replace kQ := kQ.below hb
                  replace ho3 := ho3.below hb
                  replace N := N.trans (hb.mono N.size)
                  clear hb
                  generalize v45.alloc (.cells #[.bool false, .slice none 0 0] 26) = v55 at *
                  refine hK.out _ _ N (fun hHeld => ?_)
                  clear hK K
                  try simp only [Act.put, sA, sB, sC]
                  refine wpAnyH_ready (rs := [3]) (by kernel_rfl) (by simp) (AllReadyH.cons (gt rfl) (fun K hK => ?_) AllReadyH.nil)
                  go_simp
                  refine (toN g' a' c' ys _ (hB.below N) ks).mono ?_
                  rintro e v56 ⟨ab, cb, rfl, ho4, hb⟩
                  replace kQ := kQ.below hb
                  replace kP := kP.below hb
                  replace ho3 := ho3.below hb
                  replace N := N.trans (hb.mono N.size)
                  clear hb
                  refine hK.out _ _ N (fun hHeld => ?_)
                  clear hK K
                  try simp only [Act.put, sA, sB, sC]
                  refine wpAnyH_ready (rs := [4]) (by kernel_rfl) (by simp) (AllReadyH.cons (gt rfl) (fun K hK => ?_) AllReadyH.nil)
                  go_simp
                  refine (specDivMod g g' aa ab ca cb xs ys _ ho3.toSees ho4.toSees).mono ?_
                  rintro e v57 ⟨vq, vr, rfl, hI, hb⟩
                  obtain ⟨a5, c5, zs, a6, c6, ts, rfl, rfl, hoz, hot, hnz, hnt, hvz, hvt, _⟩ := hI
                  have HZ : Hid (Lim zs ∧ Nrm zs ∧ val zs = mg (tk g xs / tk g' ys) ∧ Lim ts ∧ Nrm ts ∧ val ts = mg (rz (tk g xs) (tk g' ys))) := ⟨hoz.lim, hnz, hvz, hot.lim, hnt, hvt⟩
                  rw [HG.out, HY.out, HF.out]
                  have bs := Nat.le_trans sz N.size
                  clear hnz hnt hvz hvt
                  have r_kQ_hoz := row_ne_low hoz kQ.lt
                  have r_kQ_hot := row_ne_low hot kQ.lt
                  have r_kP_hoz := row_ne_low hoz kP.lt
                  have r_kP_hot := row_ne_low hot kP.lt
                  replace kQ := kQ.below hb
                  replace kP := kP.below hb
                  replace ho3 := ho3.below hb
                  replace ho4 := ho4.below hb
                  replace N := N.trans (hb.mono N.size)
                  clear hb
                  clear ho3 ho4
                  refine hK.out _ _ N (fun hHeld => ?_)
                  clear hK K
                  try simp only [Act.put, sA, sB, sC]
                  refine takeQ (i := 5) (gt rfl) (by kernel_rfl) (fun _ _ _ h => h) (by rfl) (by intro wq _; go_simp <;> with_reducible rfl) (by assumption) ?_
                  try simp only [Act.put, sA, sB, sC]
                  refine takeQ (i := 6) (gt rfl) (by kernel_rfl) (fun _ _ _ h => h) (by rfl) (by intro wq _; go_simp <;> with_reducible rfl) (by assumption) ?_
                  try simp only [Act.put, sA, sB, sC]
                  refine takeQ (i := 7) (gt rfl) (by kernel_rfl) (fun _ _ _ h => h) (by rfl) (by intro wq _; go_simp <;> with_reducible rfl) (by assumption) ?_
                  try simp only [Act.put, sA, sB, sC]
                  refine takeQ (i := 8) (gt rfl) (by kernel_rfl) (fun _ _ _ h => h) (by rfl) (by intro wq _; go_simp <;> with_reducible rfl) (by assumption) ?_
                  try simp only [Act.put, sA, sB, sC]
                  refine wpAnyH_ready (rs := [11]) (by kernel_rfl) (by simp) (AllReadyH.cons (gt rfl) (fun K hK => ?_) AllReadyH.nil)
                  have z0 := kP.c0
                  have z1 := kP.c1
                  have zf := kP.fr
                  go_simp
                  clear z0 z1 zf
                  replace N := Box2.chain N kP (.bool gz) (.slice a5 zs.length c5)
                  replace kQ := kQ.old ne_kQ_kP (.bool gz) (.slice a5 zs.length c5)
                  replace hoz := hoz.put2 r_kP_hoz (.bool gz) (.slice a5 zs.length c5)
                  replace hot := hot.put2 r_kP_hot (.bool gz) (.slice a5 zs.length c5)
                  replace kP := kP.put (.bool gz) (.slice a5 zs.length c5)
                  refine hK.out _ _ N (fun hHeld => ?_)
                  clear hK K
                  try simp only [Act.put, sA, sB, sC]
                  refine wpAnyH_ready (rs := [12]) (by kernel_rfl) (by simp) (AllReadyH.cons (gt rfl) (fun K hK => ?_) AllReadyH.nil)
                  have z0 := kQ.c0
                  have z1 := kQ.c1
                  have zf := kQ.fr
                  go_simp
                  clear z0 z1 zf
                  replace N := Box2.chain N kQ (.bool gy) (.slice a6 ts.length c6)
                  replace kP := kP.old ne_kP_kQ (.bool gy) (.slice a6 ts.length c6)
                  replace hoz := hoz.put2 r_kQ_hoz (.bool gy) (.slice a6 ts.length c6)
                  replace hot := hot.put2 r_kQ_hot (.bool gy) (.slice a6 ts.length c6)
                  replace kQ := kQ.put (.bool gy) (.slice a6 ts.length c6)
                  refine hK.out _ _ N (fun hHeld => ?_)
                  clear hK K
                  try simp only [Act.put, sA, sB, sC]
                  refine takeQ (i := 13) (gt rfl) (by kernel_rfl) (fun _ _ _ h => h) (by rfl) (by intro wq _; go_simp <;> with_reducible rfl) (by assumption) ?_
                  try simp only [Act.put, sA, sB, sC]
                  refine wpAnyH_done (by kernel_rfl) ?_ _
                  go_wp2
                  go_meet
                  case rel => exact ⟨_, _, a5, c5, zs, a6, c6, ts, rfl, rfl, rfl, kP, kQ, hoz.base_le bs, hot.base_le bs, HZ, N⟩
        · as_aux_lemma =>
            go_simp
            have kP := Box2.new v0 N.size (.bool false) (.slice none 0 0) 26
            have hb := below1 v0 (.cells #[.bool false, .slice none 0 0] 26)
            replace N := N.trans (hb.mono N.size)
            clear hb
            generalize v0.alloc (.cells #[.bool false, .slice none 0 0] 26) = v60 at *
            refine hK.out _ _ N (fun hHeld => ?_)
            clear hK K
            try simp only [Act.put, sA, sB, sC]
            refine wpAnyH_ready (rs := [1, 10]) (by kernel_rfl) (by simp) (AllReadyH.cons (gt rfl) (fun K hK => ?_) (AllReadyH.cons (gt rfl) (fun K hK => ?_) AllReadyH.nil))
            · skip
              go_simp
              refine (toN g a c xs _ (hA.below N) hs).mono ?_
              rintro e v61 ⟨aa, ca, rfl, ho3, hb⟩
              replace kP := kP.below hb
              replace N := N.trans (hb.mono N.size)
              clear hb
              refine hK.out _ _ N (fun hHeld => ?_)
              clear hK K
              try simp only [Act.put, sA, sB, sC]
              refine wpAnyH_ready (rs := [3, 10]) (by kernel_rfl) (by simp) (AllReadyH.cons (gt rfl) (fun K hK => ?_) (AllReadyH.cons (gt rfl) (fun K hK => ?_) AllReadyH.nil))
              · skip
                go_simp
                refine (toN g' a' c' ys _ (hB.below N) ks).mono ?_
                rintro e v62 ⟨ab, cb, rfl, ho4, hb⟩
                replace kP := kP.below hb
                replace ho3 := ho3.below hb
                replace N := N.trans (hb.mono N.size)
                clear hb
                refine hK.out _ _ N (fun hHeld => ?_)
                clear hK K
                try simp only [Act.put, sA, sB, sC]
                refine wpAnyH_ready (rs := [4, 10]) (by kernel_rfl) (by simp) (AllReadyH.cons (gt rfl) (fun K hK => ?_) (AllReadyH.cons (gt rfl) (fun K hK => ?_) AllReadyH.nil))
                · skip
                  go_simp
                  refine (specDivMod g g' aa ab ca cb xs ys _ ho3.toSees ho4.toSees).mono ?_
                  rintro e v63 ⟨vq, vr, rfl, hI, hb⟩
                  obtain ⟨a5, c5, zs, a6, c6, ts, rfl, rfl, hoz, hot, hnz, hnt, hvz, hvt, _⟩ := hI
                  have HZ : Hid (Lim zs ∧ Nrm zs ∧ val zs = mg (tk g xs / tk g' ys) ∧ Lim ts ∧ Nrm ts ∧ val ts = mg (rz (tk g xs) (tk g' ys))) := ⟨hoz.lim, hnz, hvz, hot.lim, hnt, hvt⟩
                  rw [HG.out, HY.out, HF.out]
                  have bs := Nat.le_trans sz N.size
                  clear hnz hnt hvz hvt
                  have r_kP_hoz := row_ne_low hoz kP.lt
                  have r_kP_hot := row_ne_low hot kP.lt
                  replace kP := kP.below hb
                  replace ho3 := ho3.below hb
                  replace ho4 := ho4.below hb
                  replace N := N.trans (hb.mono N.size)
                  clear hb
                  clear ho3 ho4
                  refine hK.out _ _ N (fun hHeld => ?_)
                  clear hK K
                  try simp only [Act.put, sA, sB, sC]
                  refine takeQ (i := 5) (gt rfl) (by kernel_rfl) (fun _ _ _ h => h) (by rfl) (by intro wq _; go_simp <;> with_reducible rfl) (by assumption) ?_
                  try simp only [Act.put, sA, sB, sC]
                  refine takeQ (i := 6) (gt rfl) (by kernel_rfl) (fun _ _ _ h => h) (by rfl) (by intro wq _; go_simp <;> with_reducible rfl) (by assumption) ?_
                  try simp only [Act.put, sA, sB, sC]
                  refine takeQ (i := 7) (gt rfl) (by kernel_rfl) (fun _ _ _ h => h) (by rfl) (by intro wq _; go_simp <;> with_reducible rfl) (by assumption) ?_
                  try simp only [Act.put, sA, sB, sC]
                  refine takeQ (i := 8) (gt rfl) (by kernel_rfl) (fun _ _ _ h => h) (by rfl) (by intro wq _; go_simp <;> with_reducible rfl) (by assumption) ?_
                  try simp only [Act.put, sA, sB, sC]
                  refine wpAnyH_ready (rs := [10]) (by kernel_rfl) (by simp) (AllReadyH.cons (gt rfl) (fun K hK => ?_) AllReadyH.nil)
                  go_simp
                  have kQ := Box2.new v63 N.size (.bool false) (.slice none 0 0) 26
                  have hb := below1 v63 (.cells #[.bool false, .slice none 0 0] 26)
                  have r_kQ_hoz := row_ne_high hoz.toCame (Nat.le_refl _)
                  have r_kQ_hot := row_ne_high hot.toCame (Nat.le_refl _)
                  have ne_kQ_kP := Nat.ne_of_gt kP.lt
                  have ne_kP_kQ := ne_kQ_kP.symm
                  replace kP := kP.below hb
                  replace hoz := hoz.below hb
                  replace hot := hot.below hb
                  replace N := N.trans (hb.mono N.size)
                  clear hb
                  generalize v63.alloc (.cells #[.bool false, .slice none 0 0] 26) = v64 at *
                  refine hK.out _ _ N (fun hHeld => ?_)
                  clear hK K
                  try simp only [Act.put, sA, sB, sC]
                  refine wpAnyH_ready (rs := [11]) (by kernel_rfl) (by simp) (AllReadyH.cons (gt rfl) (fun K hK => ?_) AllReadyH.nil)
                  have z0 := kP.c0
                  have z1 := kP.c1
                  have zf := kP.fr
                  go_simp
                  clear z0 z1 zf
                  replace N := Box2.chain N kP (.bool gz) (.slice a5 zs.length c5)
                  replace kQ := kQ.old ne_kQ_kP (.bool gz) (.slice a5 zs.length c5)
                  replace hoz := hoz.put2 r_kP_hoz (.bool gz) (.slice a5 zs.length c5)
                  replace hot := hot.put2 r_kP_hot (.bool gz) (.slice a5 zs.length c5)
                  replace kP := kP.put (.bool gz) (.slice a5 zs.length c5)
                  refine hK.out _ _ N (fun hHeld => ?_)
                  clear hK K
                  try simp only [Act.put, sA, sB, sC]
                  refine wpAnyH_ready (rs := [12]) (by kernel_rfl) (by simp) (AllReadyH.cons (gt rfl) (fun K hK => ?_) AllReadyH.nil)
                  have z0 := kQ.c0
                  have z1 := kQ.c1
                  have zf := kQ.fr
                  go_simp
                  clear z0 z1 zf
                  replace N := Box2.chain N kQ (.bool gy) (.slice a6 ts.length c6)
                  replace kP := kP.old ne_kP_kQ (.bool gy) (.slice a6 ts.length c6)
                  replace hoz := hoz.put2 r_kQ_hoz (.bool gy) (.slice a6 ts.length c6)
                  replace hot := hot.put2 r_kQ_hot (.bool gy) (.slice a6 ts.length c6)
                  replace kQ := kQ.put (.bool gy) (.slice a6 ts.length c6)
                  refine hK.out _ _ N (fun hHeld => ?_)
                  clear hK K
                  try simp only [Act.put, sA, sB, sC]
                  refine takeQ (i := 13) (gt rfl) (by kernel_rfl) (fun _ _ _ h => h) (by rfl) (by intro wq _; go_simp <;> with_reducible rfl) (by assumption) ?_
                  try simp only [Act.put, sA, sB, sC]
                  refine wpAnyH_done (by kernel_rfl) ?_ _
                  go_wp2
                  go_meet
                  case rel => exact ⟨_, _, a5, c5, zs, a6, c6, ts, rfl, rfl, rfl, kP, kQ, hoz.base_le bs, hot.base_le bs, HZ, N⟩
                · skip
                  go_simp
                  have kQ := Box2.new v62 N.size (.bool false) (.slice none 0 0) 26
                  have hb := below1 v62 (.cells #[.bool false, .slice none 0 0] 26)
                  have ne_kQ_kP := Nat.ne_of_gt kP.lt
                  have ne_kP_kQ := ne_kQ_kP.symm
                  replace kP := kP.below hb
                  replace ho3 := ho3.below hb
                  replace ho4 := ho4.below hb
                  replace N := N.trans (hb.mono N.size)
                  clear hb
                  generalize v62.alloc (.cells #[.bool false, .slice none 0 0] 26) = v67 at *
                  refine hK.out _ _ N (fun hHeld => ?_)
                  clear hK K
                  try simp only [Act.put, sA, sB, sC]
                  refine wpAnyH_ready (rs := [4]) (by kernel_rfl) (by simp) (AllReadyH.cons (gt rfl) (fun K hK => ?_) AllReadyH.nil)
                  go_simp
                  refine (specDivMod g g' aa ab ca cb xs ys _ ho3.toSees ho4.toSees).mono ?_
                  rintro e v68 ⟨vq, vr, rfl, hI, hb⟩
                  obtain ⟨a5, c5, zs, a6, c6, ts, rfl, rfl, hoz, hot, hnz, hnt, hvz, hvt, _⟩ := hI
                  have HZ : Hid (Lim zs ∧ Nrm zs ∧ val zs = mg (tk g xs / tk g' ys) ∧ Lim ts ∧ Nrm ts ∧ val ts = mg (rz (tk g xs) (tk g' ys))) := ⟨hoz.lim, hnz, hvz, hot.lim, hnt, hvt⟩
                  rw [HG.out, HY.out, HF.out]
                  have bs := Nat.le_trans sz N.size
                  clear hnz hnt hvz hvt
                  have r_kP_hoz := row_ne_low hoz kP.lt
                  have r_kP_hot := row_ne_low hot kP.lt
                  have r_kQ_hoz := row_ne_low hoz kQ.lt
                  have r_kQ_hot := row_ne_low hot kQ.lt
                  replace kP := kP.below hb
                  replace kQ := kQ.below hb
                  replace ho3 := ho3.below hb
                  replace ho4 := ho4.below hb
                  replace N := N.trans (hb.mono N.size)
                  clear hb
                  clear ho3 ho4
                  refine hK.out _ _ N (fun hHeld => ?_)
                  clear hK K
                  try simp only [Act.put, sA, sB, sC]
                  refine takeQ (i := 5) (gt rfl) (by kernel_rfl) (fun _ _ _ h => h) (by rfl) (by intro wq _; go_simp <;> with_reducible rfl) (by assumption) ?_
                  try simp only [Act.put, sA, sB, sC]
                  refine takeQ (i := 6) (gt rfl) (by kernel_rfl) (fun _ _ _ h => h) (by rfl) (by intro wq _; go_simp <;> with_reducible rfl) (by assumption) ?_
                  try simp only [Act.put, sA, sB, sC]
                  refine takeQ (i := 7) (gt rfl) (by kernel_rfl) (fun _ _ _ h => h) (by rfl) (by intro wq _; go_simp <;> with_reducible rfl) (by assumption) ?_
                  try simp only [Act.put, sA, sB, sC]
                  refine takeQ (i := 8) (gt rfl) (by kernel_rfl) (fun _ _ _ h => h) (by rfl) (by intro wq _; go_simp <;> with_reducible rfl) (by assumption) ?_
                  try simp only [Act.put, sA, sB, sC]
                  refine wpAnyH_ready (rs := [11]) (by kernel_rfl) (by simp) (AllReadyH.cons (gt rfl) (fun K hK => ?_) AllReadyH.nil)
                  have z0 := kP.c0
                  have z1 := kP.c1
                  have zf := kP.fr
                  go_simp
                  clear z0 z1 zf
                  replace N := Box2.chain N kP (.bool gz) (.slice a5 zs.length c5)
                  replace kQ := kQ.old ne_kQ_kP (.bool gz) (.slice a5 zs.length c5)
                  replace hoz := hoz.put2 r_kP_hoz (.bool gz) (.slice a5 zs.length c5)
                  replace hot := hot.put2 r_kP_hot (.bool gz) (.slice a5 zs.length c5)
                  replace kP := kP.put (.bool gz) (.slice a5 zs.length c5)
                  refine hK.out _ _ N (fun hHeld => ?_)
                  clear hK K
                  try simp only [Act.put, sA, sB, sC]
                  refine wpAnyH_ready (rs := [12]) (by kernel_rfl) (by simp) (AllReadyH.cons (gt rfl) (fun K hK => ?_) AllReadyH.nil)
                  have z0 := kQ.c0
                  have z1 := kQ.c1
                  have zf := kQ.fr
                  go_simp
                  clear z0 z1 zf
                  replace N := Box2.chain N kQ (.bool gy) (.slice a6 ts.length c6)
                  replace kP := kP.old ne_kP_kQ (.bool gy) (.slice a6 ts.length c6)
                  replace hoz := hoz.put2 r_kQ_hoz (.bool gy) (.slice a6 ts.length c6)
                  replace hot := hot.put2 r_kQ_hot (.bool gy) (.slice a6 ts.length c6)
                  replace kQ := kQ.put (.bool gy) (.slice a6 ts.length c6)
                  refine hK.out _ _ N (fun hHeld => ?_)
                  clear hK K
                  try simp only [Act.put, sA, sB, sC]
                  refine takeQ (i := 13) (gt rfl) (by kernel_rfl) (fun _ _ _ h => h) (by rfl) (by intro wq _; go_simp <;> with_reducible rfl) (by assumption) ?_
                  try simp only [Act.put, sA, sB, sC]
                  refine wpAnyH_done (by kernel_rfl) ?_ _
                  go_wp2
                  go_meet
                  case rel => exact ⟨_, _, a5, c5, zs, a6, c6, ts, rfl, rfl, rfl, kP, kQ, hoz.base_le bs, hot.base_le bs, HZ, N⟩
              · skip
                go_simp
                have kQ := Box2.new v61 N.size (.bool false) (.slice none 0 0) 26
                have hb := below1 v61 (.cells #[.bool false, .slice none 0 0] 26)
                have ne_kQ_kP := Nat.ne_of_gt kP.lt
                have ne_kP_kQ := ne_kQ_kP.symm
                replace kP := kP.below hb
                replace ho3 := ho3.below hb
                replace N := N.trans (hb.mono N.size)
                clear hb
                generalize v61.alloc (.cells #[.bool false, .slice none 0 0] 26) = v71 at *
                refine hK.out _ _ N (fun hHeld => ?_)
                clear hK K
                try simp only [Act.put, sA, sB, sC]
                refine wpAnyH_ready (rs := [3]) (by kernel_rfl) (by simp) (AllReadyH.cons (gt rfl) (fun K hK => ?_) AllReadyH.nil)
                go_simp
                refine (toN g' a' c' ys _ (hB.below N) ks).mono ?_
                rintro e v72 ⟨ab, cb, rfl, ho4, hb⟩
                replace kP := kP.below hb
                replace kQ := kQ.below hb
                replace ho3 := ho3.below hb
                replace N := N.trans (hb.mono N.size)
                clear hb
                refine hK.out _ _ N (fun hHeld => ?_)
                clear hK K
                try simp only [Act.put, sA, sB, sC]
                refine wpAnyH_ready (rs := [4]) (by kernel_rfl) (by simp) (AllReadyH.cons (gt rfl) (fun K hK => ?_) AllReadyH.nil)
                go_simp
                refine (specDivMod g g' aa ab ca cb xs ys _ ho3.toSees ho4.toSees).mono ?_
                rintro e v73 ⟨vq, vr, rfl, hI, hb⟩
                obtain ⟨a5, c5, zs, a6, c6, ts, rfl, rfl, hoz, hot, hnz, hnt, hvz, hvt, _⟩ := hI
                have HZ : Hid (Lim zs ∧ Nrm zs ∧ val zs = mg (tk g xs / tk g' ys) ∧ Lim ts ∧ Nrm ts ∧ val ts = mg (rz (tk g xs) (tk g' ys))) := ⟨hoz.lim, hnz, hvz, hot.lim, hnt, hvt⟩
                rw [HG.out, HY.out, HF.out]
                have bs := Nat.le_trans sz N.size
                clear hnz hnt hvz hvt
                have r_kP_hoz := row_ne_low hoz kP.lt
                have r_kP_hot := row_ne_low hot kP.lt
                have r_kQ_hoz := row_ne_low hoz kQ.lt
                have r_kQ_hot := row_ne_low hot kQ.lt
                replace kP := kP.below hb
                replace kQ := kQ.below hb
                replace ho3 := ho3.below hb
                replace ho4 := ho4.below hb
                replace N := N.trans (hb.mono N.size)
                clear hb
                clear ho3 ho4
                refine hK.out _ _ N (fun hHeld => ?_)
                clear hK K
                try simp only [Act.put, sA, sB, sC]
                refine takeQ (i := 5) (gt rfl) (by kernel_rfl) (fun _ _ _ h => h) (by rfl) (by intro wq _; go_simp <;> with_reducible rfl) (by assumption) ?_
                try simp only [Act.put, sA, sB, sC]
                refine takeQ (i := 6) (gt rfl) (by kernel_rfl) (fun _ _ _ h => h) (by rfl) (by intro wq _; go_simp <;> with_reducible rfl) (by assumption) ?_
                try simp only [Act.put, sA, sB, sC]
                refine takeQ (i := 7) (gt rfl) (by kernel_rfl) (fun _ _ _ h => h) (by rfl) (by intro wq _; go_simp <;> with_reducible rfl) (by assumption) ?_
                try simp only [Act.put, sA, sB, sC]
                refine takeQ (i := 8) (gt rfl) (by kernel_rfl) (fun _ _ _ h => h) (by rfl) (by intro wq _; go_simp <;> with_reducible rfl) (by assumption) ?_
                try simp only [Act.put, sA, sB, sC]
                refine wpAnyH_ready (rs := [11]) (by kernel_rfl) (by simp) (AllReadyH.cons (gt rfl) (fun K hK => ?_) AllReadyH.nil)
                have z0 := kP.c0
                have z1 := kP.c1
                have zf := kP.fr
                go_simp
                clear z0 z1 zf
                replace N := Box2.chain N kP (.bool gz) (.slice a5 zs.length c5)
                replace kQ := kQ.old ne_kQ_kP (.bool gz) (.slice a5 zs.length c5)
                replace hoz := hoz.put2 r_kP_hoz (.bool gz) (.slice a5 zs.length c5)
                replace hot := hot.put2 r_kP_hot (.bool gz) (.slice a5 zs.length c5)
                replace kP := kP.put (.bool gz) (.slice a5 zs.length c5)
                refine hK.out _ _ N (fun hHeld => ?_)
                clear hK K
                try simp only [Act.put, sA, sB, sC]
                refine wpAnyH_ready (rs := [12]) (by kernel_rfl) (by simp) (AllReadyH.cons (gt rfl) (fun K hK => ?_) AllReadyH.nil)
                have z0 := kQ.c0
                have z1 := kQ.c1
                have zf := kQ.fr
                go_simp
                clear z0 z1 zf
                replace N := Box2.chain N kQ (.bool gy) (.slice a6 ts.length c6)
                replace kP := kP.old ne_kP_kQ (.bool gy) (.slice a6 ts.length c6)
                replace hoz := hoz.put2 r_kQ_hoz (.bool gy) (.slice a6 ts.length c6)
                replace hot := hot.put2 r_kQ_hot (.bool gy) (.slice a6 ts.length c6)
                replace kQ := kQ.put (.bool gy) (.slice a6 ts.length c6)
                refine hK.out _ _ N (fun hHeld => ?_)
                clear hK K
                try simp only [Act.put, sA, sB, sC]
                refine takeQ (i := 13) (gt rfl) (by kernel_rfl) (fun _ _ _ h => h) (by rfl) (by intro wq _; go_simp <;> with_reducible rfl) (by assumption) ?_
                try simp only [Act.put, sA, sB, sC]
                refine wpAnyH_done (by kernel_rfl) ?_ _
                go_wp2
                go_meet
                case rel => exact ⟨_, _, a5, c5, zs, a6, c6, ts, rfl, rfl, rfl, kP, kQ, hoz.base_le bs, hot.base_le bs, HZ, N⟩
            · skip
              go_simp
              have kQ := Box2.new v60 N.size (.bool false) (.slice none 0 0) 26
              have hb := below1 v60 (.cells #[.bool false, .slice none 0 0] 26)
              have ne_kQ_kP := Nat.ne_of_gt kP.lt
              have ne_kP_kQ := ne_kQ_kP.symm
              replace kP := kP.below hb
              replace N := N.trans (hb.mono N.size)
              clear hb
              generalize v60.alloc (.cells #[.bool false, .slice none 0 0] 26) = v76 at *
              refine hK.out _ _ N (fun hHeld => ?_)
              clear hK K
              try simp only [Act.put, sA, sB, sC]
              refine wpAnyH_ready (rs := [1]) (by kernel_rfl) (by simp) (AllReadyH.cons (gt rfl) (fun K hK => ?_) AllReadyH.nil)
              go_simp
              refine (toN g a c xs _ (hA.below N) hs).mono ?_
              rintro e v77 ⟨aa, ca, rfl, ho3, hb⟩
              replace kP := kP.below hb
              replace kQ := kQ.below hb
              replace N := N.trans (hb.mono N.size)
              clear hb
              refine hK.out _ _ N (fun hHeld => ?_)
              clear hK K
              try simp only [Act.put, sA, sB, sC]
              refine wpAnyH_ready (rs := [3]) (by kernel_rfl) (by simp) (AllReadyH.cons (gt rfl) (fun K hK => ?_) AllReadyH.nil)
              go_simp
              refine (toN g' a' c' ys _ (hB.below N) ks).mono ?_
              rintro e v78 ⟨ab, cb, rfl, ho4, hb⟩
              replace kP := kP.below hb
              replace kQ := kQ.below hb
              replace ho3 := ho3.below hb
              replace N := N.trans (hb.mono N.size)
              clear hb
              refine hK.out _ _ N (fun hHeld => ?_)
              clear hK K
              try simp only [Act.put, sA, sB, sC]
              refine wpAnyH_ready (rs := [4]) (by kernel_rfl) (by simp) (AllReadyH.cons (gt rfl) (fun K hK => ?_) AllReadyH.nil)
              go_simp
              refine (specDivMod g g' aa ab ca cb xs ys _ ho3.toSees ho4.toSees).mono ?_
              rintro e v79 ⟨vq, vr, rfl, hI, hb⟩
              obtain ⟨a5, c5, zs, a6, c6, ts, rfl, rfl, hoz, hot, hnz, hnt, hvz, hvt, _⟩ := hI
              have HZ : Hid (Lim zs ∧ Nrm zs ∧ val zs = mg (tk g xs / tk g' ys) ∧ Lim ts ∧ Nrm ts ∧ val ts = mg (rz (tk g xs) (tk g' ys))) := ⟨hoz.lim, hnz, hvz, hot.lim, hnt, hvt⟩
              rw [HG.out, HY.out, HF.out]
              have bs := Nat.le_trans sz N.size
              clear hnz hnt hvz hvt
              have r_kP_hoz := row_ne_low hoz kP.lt
              have r_kP_hot := row_ne_low hot kP.lt
              have r_kQ_hoz := row_ne_low hoz kQ.lt
              have r_kQ_hot := row_ne_low hot kQ.lt
              replace kP := kP.below hb
              replace kQ := kQ.below hb
              replace ho3 := ho3.below hb
              replace ho4 := ho4.below hb
              replace N := N.trans (hb.mono N.size)
              clear hb
              clear ho3 ho4
              refine hK.out _ _ N (fun hHeld => ?_)
              clear hK K
              try simp only [Act.put, sA, sB, sC]
              refine takeQ (i := 5) (gt rfl) (by kernel_rfl) (fun _ _ _ h => h) (by rfl) (by intro wq _; go_simp <;> with_reducible rfl) (by assumption) ?_
              try simp only [Act.put, sA, sB, sC]
              refine takeQ (i := 6) (gt rfl) (by kernel_rfl) (fun _ _ _ h => h) (by rfl) (by intro wq _; go_simp <;> with_reducible rfl) (by assumption) ?_
              try simp only [Act.put, sA, sB, sC]
              refine takeQ (i := 7) (gt rfl) (by kernel_rfl) (fun _ _ _ h => h) (by rfl) (by intro wq _; go_simp <;> with_reducible rfl) (by assumption) ?_
              try simp only [Act.put, sA, sB, sC]
              refine takeQ (i := 8) (gt rfl) (by kernel_rfl) (fun _ _ _ h => h) (by rfl) (by intro wq _; go_simp <;> with_reducible rfl) (by assumption) ?_
              try simp only [Act.put, sA, sB, sC]
              refine wpAnyH_ready (rs := [11]) (by kernel_rfl) (by simp) (AllReadyH.cons (gt rfl) (fun K hK => ?_) AllReadyH.nil)
              have z0 := kP.c0
              have z1 := kP.c1
              have zf := kP.fr
              go_simp
              clear z0 z1 zf
              replace N := Box2.chain N kP (.bool gz) (.slice a5 zs.length c5)
              replace kQ := kQ.old ne_kQ_kP (.bool gz) (.slice a5 zs.length c5)
              replace hoz := hoz.put2 r_kP_hoz (.bool gz) (.slice a5 zs.length c5)
              replace hot := hot.put2 r_kP_hot (.bool gz) (.slice a5 zs.length c5)
              replace kP := kP.put (.bool gz) (.slice a5 zs.length c5)
              refine hK.out _ _ N (fun hHeld => ?_)
              clear hK K
              try simp only [Act.put, sA, sB, sC]
              refine wpAnyH_ready (rs := [12]) (by kernel_rfl) (by simp) (AllReadyH.cons (gt rfl) (fun K hK => ?_) AllReadyH.nil)
              have z0 := kQ.c0
              have z1 := kQ.c1
              have zf := kQ.fr
              go_simp
              clear z0 z1 zf
              replace N := Box2.chain N kQ (.bool gy) (.slice a6 ts.length c6)
              replace kP := kP.old ne_kP_kQ (.bool gy) (.slice a6 ts.length c6)
              replace hoz := hoz.put2 r_kQ_hoz (.bool gy) (.slice a6 ts.length c6)
              replace hot := hot.put2 r_kQ_hot (.bool gy) (.slice a6 ts.length c6)
              replace kQ := kQ.put (.bool gy) (.slice a6 ts.length c6)
              refine hK.out _ _ N (fun hHeld => ?_)
              clear hK K
              try simp only [Act.put, sA, sB, sC]
              refine takeQ (i := 13) (gt rfl) (by kernel_rfl) (fun _ _ _ h => h) (by rfl) (by intro wq _; go_simp <;> with_reducible rfl) (by assumption) ?_
              try simp only [Act.put, sA, sB, sC]
              refine wpAnyH_done (by kernel_rfl) ?_ _
              go_wp2
              go_meet
              case rel => exact ⟨_, _, a5, c5, zs, a6, c6, ts, rfl, rfl, rfl, kP, kQ, hoz.base_le bs, hot.base_le bs, HZ, N⟩
        · as_aux_lemma =>
            go_simp
            have kQ := Box2.new v0 N.size (.bool false) (.slice none 0 0) 26
            have hb := below1 v0 (.cells #[.bool false, .slice none 0 0] 26)
            replace N := N.trans (hb.mono N.size)
            clear hb
            generalize v0.alloc (.cells #[.bool false, .slice none 0 0] 26) = v82 at *
            refine hK.out _ _ N (fun hHeld => ?_)
            clear hK K
            try simp only [Act.put, sA, sB, sC]
            refine wpAnyH_ready (rs := [1, 9]) (by kernel_rfl) (by simp) (AllReadyH.cons (gt rfl) (fun K hK => ?_) (AllReadyH.cons (gt rfl) (fun K hK => ?_) AllReadyH.nil))
            · skip
              go_simp
              refine (toN g a c xs _ (hA.below N) hs).mono ?_
              rintro e v83 ⟨aa, ca, rfl, ho3, hb⟩
              replace kQ := kQ.below hb
              replace N := N.trans (hb.mono N.size)
              clear hb
              refine hK.out _ _ N (fun hHeld => ?_)
              clear hK K
              try simp only [Act.put, sA, sB, sC]
              refine wpAnyH_ready (rs := [3, 9]) (by kernel_rfl) (by simp) (AllReadyH.cons (gt rfl) (fun K hK => ?_) (AllReadyH.cons (gt rfl) (fun K hK => ?_) AllReadyH.nil))
              · skip
                go_simp
                refine (toN g' a' c' ys _ (hB.below N) ks).mono ?_
                rintro e v84 ⟨ab, cb, rfl, ho4, hb⟩
                replace kQ := kQ.below hb
                replace ho3 := ho3.below hb
                replace N := N.trans (hb.mono N.size)
                clear hb
                refine hK.out _ _ N (fun hHeld => ?_)
                clear hK K
                try simp only [Act.put, sA, sB, sC]
                refine wpAnyH_ready (rs := [4, 9]) (by kernel_rfl) (by simp) (AllReadyH.cons (gt rfl) (fun K hK => ?_) (AllReadyH.cons (gt rfl) (fun K hK => ?_) AllReadyH.nil))
                · skip
                  go_simp
                  refine (specDivMod g g' aa ab ca cb xs ys _ ho3.toSees ho4.toSees).mono ?_
                  rintro e v85 ⟨vq, vr, rfl, hI, hb⟩
                  obtain ⟨a5, c5, zs, a6, c6, ts, rfl, rfl, hoz, hot, hnz, hnt, hvz, hvt, _⟩ := hI
                  have HZ : Hid (Lim zs ∧ Nrm zs ∧ val zs = mg (tk g xs / tk g' ys) ∧ Lim ts ∧ Nrm ts ∧ val ts = mg (rz (tk g xs) (tk g' ys))) := ⟨hoz.lim, hnz, hvz, hot.lim, hnt, hvt⟩
                  rw [HG.out, HY.out, HF.out]
                  have bs := Nat.le_trans sz N.size
                  clear hnz hnt hvz hvt
                  have r_kQ_hoz := row_ne_low hoz kQ.lt
                  have r_kQ_hot := row_ne_low hot kQ.lt
                  replace kQ := kQ.below hb
                  replace ho3 := ho3.below hb
                  replace ho4 := ho4.below hb
                  replace N := N.trans (hb.mono N.size)
                  clear hb
                  clear ho3 ho4
                  refine hK.out _ _ N (fun hHeld => ?_)
                  clear hK K
                  try simp only [Act.put, sA, sB, sC]
                  refine takeQ (i := 5) (gt rfl) (by kernel_rfl) (fun _ _ _ h => h) (by rfl) (by intro wq _; go_simp <;> with_reducible rfl) (by assumption) ?_
                  try simp only [Act.put, sA, sB, sC]
                  refine takeQ (i := 6) (gt rfl) (by kernel_rfl) (fun _ _ _ h => h) (by rfl) (by intro wq _; go_simp <;> with_reducible rfl) (by assumption) ?_
                  try simp only [Act.put, sA, sB, sC]
                  refine takeQ (i := 7) (gt rfl) (by kernel_rfl) (fun _ _ _ h => h) (by rfl) (by intro wq _; go_simp <;> with_reducible rfl) (by assumption) ?_
                  try simp only [Act.put, sA, sB, sC]
                  refine takeQ (i := 8) (gt rfl) (by kernel_rfl) (fun _ _ _ h => h) (by rfl) (by intro wq _; go_simp <;> with_reducible rfl) (by assumption) ?_
                  try simp only [Act.put, sA, sB, sC]
                  refine wpAnyH_ready (rs := [9]) (by kernel_rfl) (by simp) (AllReadyH.cons (gt rfl) (fun K hK => ?_) AllReadyH.nil)
                  go_simp
                  have kP := Box2.new v85 N.size (.bool false) (.slice none 0 0) 26
                  have hb := below1 v85 (.cells #[.bool false, .slice none 0 0] 26)
                  have r_kP_hoz := row_ne_high hoz.toCame (Nat.le_refl _)
                  have r_kP_hot := row_ne_high hot.toCame (Nat.le_refl _)
                  have ne_kP_kQ := Nat.ne_of_gt kQ.lt
                  have ne_kQ_kP := ne_kP_kQ.symm
                  replace kQ := kQ.below hb
                  replace hoz := hoz.below hb
                  replace hot := hot.below hb
                  replace N := N.trans (hb.mono N.size)
                  clear hb
                  generalize v85.alloc (.cells #[.bool false, .slice none 0 0] 26) = v86 at *
                  refine hK.out _ _ N (fun hHeld => ?_)
                  clear hK K
                  try simp only [Act.put, sA, sB, sC]
                  refine wpAnyH_ready (rs := [11]) (by kernel_rfl) (by simp) (AllReadyH.cons (gt rfl) (fun K hK => ?_) AllReadyH.nil)
                  have z0 := kP.c0
                  have z1 := kP.c1
                  have zf := kP.fr
                  go_simp
                  clear z0 z1 zf
                  replace N := Box2.chain N kP (.bool gz) (.slice a5 zs.length c5)
                  replace kQ := kQ.old ne_kQ_kP (.bool gz) (.slice a5 zs.length c5)
                  replace hoz := hoz.put2 r_kP_hoz (.bool gz) (.slice a5 zs.length c5)
                  replace hot := hot.put2 r_kP_hot (.bool gz) (.slice a5 zs.length c5)
                  replace kP := kP.put (.bool gz) (.slice a5 zs.length c5)
                  refine hK.out _ _ N (fun hHeld => ?_)
                  clear hK K
                  try simp only [Act.put, sA, sB, sC]
                  refine wpAnyH_ready (rs := [12]) (by kernel_rfl) (by simp) (AllReadyH.cons (gt rfl) (fun K hK => ?_) AllReadyH.nil)
                  have z0 := kQ.c0
                  have z1 := kQ.c1
                  have zf := kQ.fr
                  go_simp
                  clear z0 z1 zf
                  replace N := Box2.chain N kQ (.bool gy) (.slice a6 ts.length c6)
                  replace kP := kP.old ne_kP_kQ (.bool gy) (.slice a6 ts.length c6)
                  replace hoz := hoz.put2 r_kQ_hoz (.bool gy) (.slice a6 ts.length c6)
                  replace hot := hot.put2 r_kQ_hot (.bool gy) (.slice a6 ts.length c6)
                  replace kQ := kQ.put (.bool gy) (.slice a6 ts.length c6)
                  refine hK.out _ _ N (fun hHeld => ?_)
                  clear hK K
                  try simp only [Act.put, sA, sB, sC]
                  refine takeQ (i := 13) (gt rfl) (by kernel_rfl) (fun _ _ _ h => h) (by rfl) (by intro wq _; go_simp <;> with_reducible rfl) (by assumption) ?_
                  try simp only [Act.put, sA, sB, sC]
                  refine wpAnyH_done (by kernel_rfl) ?_ _
                  go_wp2
                  go_meet
                  case rel => exact ⟨_, _, a5, c5, zs, a6, c6, ts, rfl, rfl, rfl, kP, kQ, hoz.base_le bs, hot.base_le bs, HZ, N⟩
                · skip
                  go_simp
                  have kP := Box2.new v84 N.size (.bool false) (.slice none 0 0) 26
                  have hb := below1 v84 (.cells #[.bool false, .slice none 0 0] 26)
                  have ne_kP_kQ := Nat.ne_of_gt kQ.lt
                  have ne_kQ_kP := ne_kP_kQ.symm
                  replace kQ := kQ.below hb
                  replace ho3 := ho3.below hb
                  replace ho4 := ho4.below hb
                  replace N := N.trans (hb.mono N.size)
                  clear hb
                  generalize v84.alloc (.cells #[.bool false, .slice none 0 0] 26) = v89 at *
                  refine hK.out _ _ N (fun hHeld => ?_)
                  clear hK K
                  try simp only [Act.put, sA, sB, sC]
                  refine wpAnyH_ready (rs := [4]) (by kernel_rfl) (by simp) (AllReadyH.cons (gt rfl) (fun K hK => ?_) AllReadyH.nil)
                  go_simp
                  refine (specDivMod g g' aa ab ca cb xs ys _ ho3.toSees ho4.toSees).mono ?_
                  rintro e v90 ⟨vq, vr, rfl, hI, hb⟩
                  obtain ⟨a5, c5, zs, a6, c6, ts, rfl, rfl, hoz, hot, hnz, hnt, hvz, hvt, _⟩ := hI
                  have HZ : Hid (Lim zs ∧ Nrm zs ∧ val zs = mg (tk g xs / tk g' ys) ∧ Lim ts ∧ Nrm ts ∧ val ts = mg (rz (tk g xs) (tk g' ys))) := ⟨hoz.lim, hnz, hvz, hot.lim, hnt, hvt⟩
                  rw [HG.out, HY.out, HF.out]
                  have bs := Nat.le_trans sz N.size
                  clear hnz hnt hvz hvt
                  have r_kQ_hoz := row_ne_low hoz kQ.lt
                  have r_kQ_hot := row_ne_low hot kQ.lt
                  have r_kP_hoz := row_ne_low hoz kP.lt
                  have r_kP_hot := row_ne_low hot kP.lt
                  replace kQ := kQ.below hb
                  replace kP := kP.below hb
                  replace ho3 := ho3.below hb
                  replace ho4 := ho4.below hb
                  replace N := N.trans (hb.mono N.size)
                  clear hb
                  clear ho3 ho4
                  refine hK.out _ _ N (fun hHeld => ?_)
                  clear hK K
                  try simp only [Act.put, sA, sB, sC]
                  refine takeQ (i := 5) (gt rfl) (by kernel_rfl) (fun _ _ _ h => h) (by rfl) (by intro wq _; go_simp <;> with_reducible rfl) (by assumption) ?_
                  try simp only [Act.put, sA, sB, sC]
                  refine takeQ (i := 6) (gt rfl) (by kernel_rfl) (fun _ _ _ h => h) (by rfl) (by intro wq _; go_simp <;> with_reducible rfl) (by assumption) ?_
                  try simp only [Act.put, sA, sB, sC]
                  refine takeQ (i := 7) (gt rfl) (by kernel_rfl) (fun _ _ _ h => h) (by rfl) (by intro wq _; go_simp <;> with_reducible rfl) (by assumption) ?_
                  try simp only [Act.put, sA, sB, sC]
                  refine takeQ (i := 8) (gt rfl) (by kernel_rfl) (fun _ _ _ h => h) (by rfl) (by intro wq _; go_simp <;> with_reducible rfl) (by assumption) ?_
                  try simp only [Act.put, sA, sB, sC]
                  refine wpAnyH_ready (rs := [11]) (by kernel_rfl) (by simp) (AllReadyH.cons (gt rfl) (fun K hK => ?_) AllReadyH.nil)
                  have z0 := kP.c0
                  have z1 := kP.c1
                  have zf := kP.fr
                  go_simp
                  clear z0 z1 zf
                  replace N := Box2.chain N kP (.bool gz) (.slice a5 zs.length c5)
                  replace kQ := kQ.old ne_kQ_kP (.bool gz) (.slice a5 zs.length c5)
                  replace hoz := hoz.put2 r_kP_hoz (.bool gz) (.slice a5 zs.length c5)
                  replace hot := hot.put2 r_kP_hot (.bool gz) (.slice a5 zs.length c5)
                  replace kP := kP.put (.bool gz) (.slice a5 zs.length c5)
                  refine hK.out _ _ N (fun hHeld => ?_)
                  clear hK K
                  try simp only [Act.put, sA, sB, sC]
                  refine wpAnyH_ready (rs := [12]) (by kernel_rfl) (by simp) (AllReadyH.cons (gt rfl) (fun K hK => ?_) AllReadyH.nil)
                  have z0 := kQ.c0
                  have z1 := kQ.c1
                  have zf := kQ.fr
                  go_simp
                  clear z0 z1 zf
                  replace N := Box2.chain N kQ (.bool gy) (.slice a6 ts.length c6)
                  replace kP := kP.old ne_kP_kQ (.bool gy) (.slice a6 ts.length c6)
                  replace hoz := hoz.put2 r_kQ_hoz (.bool gy) (.slice a6 ts.length c6)
                  replace hot := hot.put2 r_kQ_hot (.bool gy) (.slice a6 ts.length c6)
                  replace kQ := kQ.put (.bool gy) (.slice a6 ts.length c6)
                  refine hK.out _ _ N (fun hHeld => ?_)
                  clear hK K
                  try simp only [Act.put, sA, sB, sC]
                  refine takeQ (i := 13) (gt rfl) (by kernel_rfl) (fun _ _ _ h => h) (by rfl) (by intro wq _; go_simp <;> with_reducible rfl) (by assumption) ?_
                  try simp only [Act.put, sA, sB, sC]
                  refine wpAnyH_done (by kernel_rfl) ?_ _
                  go_wp2
                  go_meet
                  case rel => exact ⟨_, _, a5, c5, zs, a6, c6, ts, rfl, rfl, rfl, kP, kQ, hoz.base_le bs, hot.base_le bs, HZ, N⟩
              · skip
                go_simp
                have kP := Box2.new v83 N.size (.bool false) (.slice none 0 0) 26
                have hb := below1 v83 (.cells #[.bool false, .slice none 0 0] 26)
                have ne_kP_kQ := Nat.ne_of_gt kQ.lt
                have ne_kQ_kP := ne_kP_kQ.symm
                replace kQ := kQ.below hb
                replace ho3 := ho3.below hb
                replace N := N.trans (hb.mono N.size)
                clear hb
                generalize v83.alloc (.cells #[.bool false, .slice none 0 0] 26) = v93 at *
                refine hK.out _ _ N (fun hHeld => ?_)
                clear hK K
                try simp only [Act.put, sA, sB, sC]
                refine wpAnyH_ready (rs := [3]) (by kernel_rfl) (by simp) (AllReadyH.cons (gt rfl) (fun K hK => ?_) AllReadyH.nil)
                go_simp
                refine (toN g' a' c' ys _ (hB.below N) ks).mono ?_
                rintro e v94 ⟨ab, cb, rfl, ho4, hb⟩
                replace kQ := kQ.below hb
                replace kP := kP.below hb
                replace ho3 := ho3.below hb
                replace N := N.trans (hb.mono N.size)
                clear hb
                refine hK.out _ _ N (fun hHeld => ?_)
                clear hK K
                try simp only [Act.put, sA, sB, sC]
                refine wpAnyH_ready (rs := [4]) (by kernel_rfl) (by simp) (AllReadyH.cons (gt rfl) (fun K hK => ?_) AllReadyH.nil)
                go_simp
                refine (specDivMod g g' aa ab ca cb xs ys _ ho3.toSees ho4.toSees).mono ?_
                rintro e v95 ⟨vq, vr, rfl, hI, hb⟩
                obtain ⟨a5, c5, zs, a6, c6, ts, rfl, rfl, hoz, hot, hnz, hnt, hvz, hvt, _⟩ := hI
                have HZ : Hid (Lim zs ∧ Nrm zs ∧ val zs = mg (tk g xs / tk g' ys) ∧ Lim ts ∧ Nrm ts ∧ val ts = mg (rz (tk g xs) (tk g' ys))) := ⟨hoz.lim, hnz, hvz, hot.lim, hnt, hvt⟩
                rw [HG.out, HY.out, HF.out]
                have bs := Nat.le_trans sz N.size
                clear hnz hnt hvz hvt
                have r_kQ_hoz := row_ne_low hoz kQ.lt
                have r_kQ_hot := row_ne_low hot kQ.lt
                have r_kP_hoz := row_ne_low hoz kP.lt
                have r_kP_hot := row_ne_low hot kP.lt
                replace kQ := kQ.below hb
                replace kP := kP.below hb
                replace ho3 := ho3.below hb
                replace ho4 := ho4.below hb
                replace N := N.trans (hb.mono N.size)
                clear hb
                clear ho3 ho4
                refine hK.out _ _ N (fun hHeld => ?_)
                clear hK K
                try simp only [Act.put, sA, sB, sC]
                refine takeQ (i := 5) (gt rfl) (by kernel_rfl) (fun _ _ _ h => h) (by rfl) (by intro wq _; go_simp <;> with_reducible rfl) (by assumption) ?_
                try simp only [Act.put, sA, sB, sC]
                refine takeQ (i := 6) (gt rfl) (by kernel_rfl) (fun _ _ _ h => h) (by rfl) (by intro wq _; go_simp <;> with_reducible rfl) (by assumption) ?_
                try simp only [Act.put, sA, sB, sC]
                refine takeQ (i := 7) (gt rfl) (by kernel_rfl) (fun _ _ _ h => h) (by rfl) (by intro wq _; go_simp <;> with_reducible rfl) (by assumption) ?_
                try simp only [Act.put, sA, sB, sC]
                refine takeQ (i := 8) (gt rfl) (by kernel_rfl) (fun _ _ _ h => h) (by rfl) (by intro wq _; go_simp <;> with_reducible rfl) (by assumption) ?_
                try simp only [Act.put, sA, sB, sC]
                refine wpAnyH_ready (rs := [11]) (by kernel_rfl) (by simp) (AllReadyH.cons (gt rfl) (fun K hK => ?_) AllReadyH.nil)
                have z0 := kP.c0
                have z1 := kP.c1
                have zf := kP.fr
                go_simp
                clear z0 z1 zf
                replace N := Box2.chain N kP (.bool gz) (.slice a5 zs.length c5)
                replace kQ := kQ.old ne_kQ_kP (.bool gz) (.slice a5 zs.length c5)
                replace hoz := hoz.put2 r_kP_hoz (.bool gz) (.slice a5 zs.length c5)
                replace hot := hot.put2 r_kP_hot (.bool gz) (.slice a5 zs.length c5)
                replace kP := kP.put (.bool gz) (.slice a5 zs.length c5)
                refine hK.out _ _ N (fun hHeld => ?_)
                clear hK K
                try simp only [Act.put, sA, sB, sC]
                refine wpAnyH_ready (rs := [12]) (by kernel_rfl) (by simp) (AllReadyH.cons (gt rfl) (fun K hK => ?_) AllReadyH.nil)
                have z0 := kQ.c0
                have z1 := kQ.c1
                have zf := kQ.fr
                go_simp
                clear z0 z1 zf
                replace N := Box2.chain N kQ (.bool gy) (.slice a6 ts.length c6)
                replace kP := kP.old ne_kP_kQ (.bool gy) (.slice a6 ts.length c6)
                replace hoz := hoz.put2 r_kQ_hoz (.bool gy) (.slice a6 ts.length c6)
                replace hot := hot.put2 r_kQ_hot (.bool gy) (.slice a6 ts.length c6)
                replace kQ := kQ.put (.bool gy) (.slice a6 ts.length c6)
                refine hK.out _ _ N (fun hHeld => ?_)
                clear hK K
                try simp only [Act.put, sA, sB, sC]
                refine takeQ (i := 13) (gt rfl) (by kernel_rfl) (fun _ _ _ h => h) (by rfl) (by intro wq _; go_simp <;> with_reducible rfl) (by assumption) ?_
                try simp only [Act.put, sA, sB, sC]
                refine wpAnyH_done (by kernel_rfl) ?_ _
                go_wp2
                go_meet
                case rel => exact ⟨_, _, a5, c5, zs, a6, c6, ts, rfl, rfl, rfl, kP, kQ, hoz.base_le bs, hot.base_le bs, HZ, N⟩
            · skip
              go_simp
              have kP := Box2.new v82 N.size (.bool false) (.slice none 0 0) 26
              have hb := below1 v82 (.cells #[.bool false, .slice none 0 0] 26)
              have ne_kP_kQ := Nat.ne_of_gt kQ.lt
              have ne_kQ_kP := ne_kP_kQ.symm
              replace kQ := kQ.below hb
              replace N := N.trans (hb.mono N.size)
              clear hb
              generalize v82.alloc (.cells #[.bool false, .slice none 0 0] 26) = v98 at *
              refine hK.out _ _ N (fun hHeld => ?_)
              clear hK K
              try simp only [Act.put, sA, sB, sC]
              refine wpAnyH_ready (rs := [1]) (by kernel_rfl) (by simp) (AllReadyH.cons (gt rfl) (fun K hK => ?_) AllReadyH.nil)
              go_simp
              refine (toN g a c xs _ (hA.below N) hs).mono ?_
              rintro e v99 ⟨aa, ca, rfl, ho3, hb⟩
              replace kQ := kQ.below hb
              replace kP := kP.below hb
              replace N := N.trans (hb.mono N.size)
              clear hb
              refine hK.out _ _ N (fun hHeld => ?_)
              clear hK K
              try simp only [Act.put, sA, sB, sC]
              refine wpAnyH_ready (rs := [3]) (by kernel_rfl) (by simp) (AllReadyH.cons (gt rfl) (fun K hK => ?_) AllReadyH.nil)
              go_simp
              refine (toN g' a' c' ys _ (hB.below N) ks).mono ?_
              rintro e v100 ⟨ab, cb, rfl, ho4, hb⟩
              replace kQ := kQ.below hb
              replace kP := kP.below hb
              replace ho3 := ho3.below hb
              replace N := N.trans (hb.mono N.size)
              clear hb
              refine hK.out _ _ N (fun hHeld => ?_)
              clear hK K
              try simp only [Act.put, sA, sB, sC]
              refine wpAnyH_ready (rs := [4]) (by kernel_rfl) (by simp) (AllReadyH.cons (gt rfl) (fun K hK => ?_) AllReadyH.nil)
              go_simp
              refine (specDivMod g g' aa ab ca cb xs ys _ ho3.toSees ho4.toSees).mono ?_
              rintro e v101 ⟨vq, vr, rfl, hI, hb⟩
              obtain ⟨a5, c5, zs, a6, c6, ts, rfl, rfl, hoz, hot, hnz, hnt, hvz, hvt, _⟩ := hI
              have HZ : Hid (Lim zs ∧ Nrm zs ∧ val zs = mg (tk g xs / tk g' ys) ∧ Lim ts ∧ Nrm ts ∧ val ts = mg (rz (tk g xs) (tk g' ys))) := ⟨hoz.lim, hnz, hvz, hot.lim, hnt, hvt⟩
              rw [HG.out, HY.out, HF.out]
              have bs := Nat.le_trans sz N.size
              clear hnz hnt hvz hvt
              have r_kQ_hoz := row_ne_low hoz kQ.lt
              have r_kQ_hot := row_ne_low hot kQ.lt
              have r_kP_hoz := row_ne_low hoz kP.lt
              have r_kP_hot := row_ne_low hot kP.lt
              replace kQ := kQ.below hb
              replace kP := kP.below hb
              replace ho3 := ho3.below hb
              replace ho4 := ho4.below hb
              replace N := N.trans (hb.mono N.size)
              clear hb
              clear ho3 ho4
              refine hK.out _ _ N (fun hHeld => ?_)
              clear hK K
              try simp only [Act.put, sA, sB, sC]
              refine takeQ (i := 5) (gt rfl) (by kernel_rfl) (fun _ _ _ h => h) (by rfl) (by intro wq _; go_simp <;> with_reducible rfl) (by assumption) ?_
              try simp only [Act.put, sA, sB, sC]
              refine takeQ (i := 6) (gt rfl) (by kernel_rfl) (fun _ _ _ h => h) (by rfl) (by intro wq _; go_simp <;> with_reducible rfl) (by assumption) ?_
              try simp only [Act.put, sA, sB, sC]
              refine takeQ (i := 7) (gt rfl) (by kernel_rfl) (fun _ _ _ h => h) (by rfl) (by intro wq _; go_simp <;> with_reducible rfl) (by assumption) ?_
              try simp only [Act.put, sA, sB, sC]
              refine takeQ (i := 8) (gt rfl) (by kernel_rfl) (fun _ _ _ h => h) (by rfl) (by intro wq _; go_simp <;> with_reducible rfl) (by assumption) ?_
              try simp only [Act.put, sA, sB, sC]
              refine wpAnyH_ready (rs := [11]) (by kernel_rfl) (by simp) (AllReadyH.cons (gt rfl) (fun K hK => ?_) AllReadyH.nil)
              have z0 := kP.c0
              have z1 := kP.c1
              have zf := kP.fr
              go_simp
              clear z0 z1 zf
              replace N := Box2.chain N kP (.bool gz) (.slice a5 zs.length c5)
              replace kQ := kQ.old ne_kQ_kP (.bool gz) (.slice a5 zs.length c5)
              replace hoz := hoz.put2 r_kP_hoz (.bool gz) (.slice a5 zs.length c5)
              replace hot := hot.put2 r_kP_hot (.bool gz) (.slice a5 zs.length c5)
              replace kP := kP.put (.bool gz) (.slice a5 zs.length c5)
              refine hK.out _ _ N (fun hHeld => ?_)
              clear hK K
              try simp only [Act.put, sA, sB, sC]
              refine wpAnyH_ready (rs := [12]) (by kernel_rfl) (by simp) (AllReadyH.cons (gt rfl) (fun K hK => ?_) AllReadyH.nil)
              have z0 := kQ.c0
              have z1 := kQ.c1
              have zf := kQ.fr
              go_simp
              clear z0 z1 zf
              replace N := Box2.chain N kQ (.bool gy) (.slice a6 ts.length c6)
              replace kP := kP.old ne_kP_kQ (.bool gy) (.slice a6 ts.length c6)
              replace hoz := hoz.put2 r_kQ_hoz (.bool gy) (.slice a6 ts.length c6)
              replace hot := hot.put2 r_kQ_hot (.bool gy) (.slice a6 ts.length c6)
              replace kQ := kQ.put (.bool gy) (.slice a6 ts.length c6)
              refine hK.out _ _ N (fun hHeld => ?_)
              clear hK K
              try simp only [Act.put, sA, sB, sC]
              refine takeQ (i := 13) (gt rfl) (by kernel_rfl) (fun _ _ _ h => h) (by rfl) (by intro wq _; go_simp <;> with_reducible rfl) (by assumption) ?_
              try simp only [Act.put, sA, sB, sC]
              refine wpAnyH_done (by kernel_rfl) ?_ _
              go_wp2
              go_meet
              case rel => exact ⟨_, _, a5, c5, zs, a6, c6, ts, rfl, rfl, rfl, kP, kQ, hoz.base_le bs, hot.base_le bs, HZ, N⟩
      obtain ⟨p, p', a3, c3, zs, a4, c4, ts, rfl, rfl, rfl, KP, KQ, ho0, ho1, HV, hb⟩ := hcut
      obtain ⟨kW0, kW1, _, _⟩ := KP
      obtain ⟨kV0, kV1, _, _⟩ := KQ
      replace kA0 := bat hb kA0
      replace kA1 := bat hb kA1
      replace kB0 := bat hb kB0
      replace kB1 := bat hb kB1
      replace hA := hA.below hb
      replace hB := hB.below hb
      replace B := B.trans (hb.mono B.size)
      clear hb
      obtain ⟨hl2, hl3⟩ : zs.length ≤ 25 ∧ ts.length ≤ 25 := HB.out zs ts HV.out
      clear HB
      go_wp2_with fail
      refine (toN g a c xs _ hA hs).mono ?_
      rintro e w4 ⟨ax, cx, rfl, hox, hb⟩
      have ap_hA_hox := apart_later hA hox
      have ap_hB_hox := apart_later hB hox
      have ap_ho0_hox := apart_later ho0.toCame hox
      have ap_ho1_hox := apart_later ho1.toCame hox
      have r_kA_hox := row_ne_low hox (World.block_lt_of_cell? _ _ kA0)
      have r_kB_hox := row_ne_low hox (World.block_lt_of_cell? _ _ kB0)
      have r_kW_hox := row_ne_low hox (World.block_lt_of_cell? _ _ kW0)
      have r_kV_hox := row_ne_low hox (World.block_lt_of_cell? _ _ kV0)
      have sB_hox := B.size
      have S_hox := hb.size
      replace kA0 := bat hb kA0
      replace kA1 := bat hb kA1
      replace kB0 := bat hb kB0
      replace kB1 := bat hb kB1
      replace kW0 := bat hb kW0
      replace kW1 := bat hb kW1
      replace kV0 := bat hb kV0
      replace kV1 := bat hb kV1
      replace hA := hA.below hb
      replace hB := hB.below hb
      replace ho0 := ho0.below hb
      replace ho1 := ho1.below hb
      replace B := B.trans (hb.mono B.size)
      clear hb
      have l_kA := World.block_lt_of_cell? _ _ kA0
      have l_kB := World.block_lt_of_cell? _ _ kB0
      have l_kW := World.block_lt_of_cell? _ _ kW0
      have l_kV := World.block_lt_of_cell? _ _ kV0
      go_wp2_with fail
      clear l_kA l_kB l_kW l_kV
      obtain ⟨kX0, kX1⟩ := var_new w4 g ax xs.length cx 26
      have r_kX_hox := row_ne_high hox.toCame (Nat.le_refl _)
      have hb := below1 w4 (.cells #[.bool g, .slice ax xs.length cx] 26)
      replace kA0 := bat hb kA0
      replace kA1 := bat hb kA1
      replace kB0 := bat hb kB0
      replace kB1 := bat hb kB1
      replace kW0 := bat hb kW0
      replace kW1 := bat hb kW1
      replace kV0 := bat hb kV0
      replace kV1 := bat hb kV1
      replace hA := hA.below hb
      replace hB := hB.below hb
      replace ho0 := ho0.below hb
      replace ho1 := ho1.below hb
      replace hox := hox.below hb
      replace S_hox := Nat.le_trans S_hox hb.size
      replace B := B.trans (hb.mono B.size)
      clear hb
      generalize w4.alloc (.cells #[.bool g, .slice ax xs.length cx] 26) = W4 at *
      refine (toN g' a' c' ys _ hB ks).mono ?_
      rintro e w5 ⟨ay, cy, rfl, hoy, hb⟩
      have ap_hA_hoy := apart_later hA hoy
      have ap_hB_hoy := apart_later hB hoy
      have ap_ho0_hoy := apart_later ho0.toCame hoy
      have ap_ho1_hoy := apart_later ho1.toCame hoy
      have ap_hox_hoy := apart_later hox.toCame hoy
      have r_kA_hoy := row_ne_low hoy (World.block_lt_of_cell? _ _ kA0)
      have r_kB_hoy := row_ne_low hoy (World.block_lt_of_cell? _ _ kB0)
      have r_kW_hoy := row_ne_low hoy (World.block_lt_of_cell? _ _ kW0)
      have r_kV_hoy := row_ne_low hoy (World.block_lt_of_cell? _ _ kV0)
      have r_kX_hoy := row_ne_low hoy (World.block_lt_of_cell? _ _ kX0)
      have sB_hoy := B.size
      have S_hoy := hb.size
      have ap_hoy_hox := apart_before hox.toCame hoy
      replace kA0 := bat hb kA0
      replace kA1 := bat hb kA1
      replace kB0 := bat hb kB0
      replace kB1 := bat hb kB1
      replace kW0 := bat hb kW0
      replace kW1 := bat hb kW1
      replace kV0 := bat hb kV0
      replace kV1 := bat hb kV1
      replace kX0 := bat hb kX0
      replace kX1 := bat hb kX1
      replace hA := hA.below hb
      replace hB := hB.below hb
      replace ho0 := ho0.below hb
      replace ho1 := ho1.below hb
      replace hox := hox.below hb
      replace S_hox := Nat.le_trans S_hox hb.size
      replace B := B.trans (hb.mono B.size)
      clear hb
      have l_kA := World.block_lt_of_cell? _ _ kA0
      have l_kB := World.block_lt_of_cell? _ _ kB0
      have l_kW := World.block_lt_of_cell? _ _ kW0
      have l_kV := World.block_lt_of_cell? _ _ kV0
      have l_kX := World.block_lt_of_cell? _ _ kX0
      go_wp2_with fail
      clear l_kA l_kB l_kW l_kV l_kX
      obtain ⟨kY0, kY1⟩ := var_new w5 g' ay ys.length cy 26
      have r_kY_hox := row_ne_high hox.toCame (Nat.le_refl _)
      have r_kY_hoy := row_ne_high hoy.toCame (Nat.le_refl _)
      have hb := below1 w5 (.cells #[.bool g', .slice ay ys.length cy] 26)
      replace kA0 := bat hb kA0
      replace kA1 := bat hb kA1
      replace kB0 := bat hb kB0
      replace kB1 := bat hb kB1
      replace kW0 := bat hb kW0
      replace kW1 := bat hb kW1
      replace kV0 := bat hb kV0
      replace kV1 := bat hb kV1
      replace kX0 := bat hb kX0
      replace kX1 := bat hb kX1
      replace hA := hA.below hb
      replace hB := hB.below hb
      replace ho0 := ho0.below hb
      replace ho1 := ho1.below hb
      replace hox := hox.below hb
      replace hoy := hoy.below hb
      replace S_hox := Nat.le_trans S_hox hb.size
      replace S_hoy := Nat.le_trans S_hoy hb.size
      replace B := B.trans (hb.mono B.size)
      clear hb
      generalize w5.alloc (.cells #[.bool g', .slice ay ys.length cy] 26) = W5 at *
      refine (implDivMod g g' ax ay cx cy xs ys _ hox.toSees hoy.toSees).mono ?_
      rintro e w6 ⟨vq, vr, rfl, hI1, hb⟩
      obtain ⟨a7, c7, a8, c8, rfl, rfl, hog, hoh, apg⟩ := hI1.as HV.out
      rw [HG.out, HY.out, HF.out]
      clear hI1
      have ap_hA_hog := apart_later hA hog
      have ap_hB_hog := apart_later hB hog
      have ap_ho0_hog := apart_later ho0.toCame hog
      have ap_ho1_hog := apart_later ho1.toCame hog
      have ap_hox_hog := apart_later hox.toCame hog
      have ap_hoy_hog := apart_later hoy.toCame hog
      have r_kA_hog := row_ne_low hog (World.block_lt_of_cell? _ _ kA0)
      have r_kB_hog := row_ne_low hog (World.block_lt_of_cell? _ _ kB0)
      have r_kW_hog := row_ne_low hog (World.block_lt_of_cell? _ _ kW0)
      have r_kV_hog := row_ne_low hog (World.block_lt_of_cell? _ _ kV0)
      have r_kX_hog := row_ne_low hog (World.block_lt_of_cell? _ _ kX0)
      have r_kY_hog := row_ne_low hog (World.block_lt_of_cell? _ _ kY0)
      have sB_hog := B.size
      have S_hog := hb.size
      have ap_hog_hox := apart_before hox.toCame hog
      have ap_hog_hoy := apart_before hoy.toCame hog
      have ap_hA_hoh := apart_later hA hoh
      have ap_hB_hoh := apart_later hB hoh
      have ap_ho0_hoh := apart_later ho0.toCame hoh
      have ap_ho1_hoh := apart_later ho1.toCame hoh
      have ap_hox_hoh := apart_later hox.toCame hoh
      have ap_hoy_hoh := apart_later hoy.toCame hoh
      have r_kA_hoh := row_ne_low hoh (World.block_lt_of_cell? _ _ kA0)
      have r_kB_hoh := row_ne_low hoh (World.block_lt_of_cell? _ _ kB0)
      have r_kW_hoh := row_ne_low hoh (World.block_lt_of_cell? _ _ kW0)
      have r_kV_hoh := row_ne_low hoh (World.block_lt_of_cell? _ _ kV0)
      have r_kX_hoh := row_ne_low hoh (World.block_lt_of_cell? _ _ kX0)
      have r_kY_hoh := row_ne_low hoh (World.block_lt_of_cell? _ _ kY0)
      have sB_hoh := B.size
      have S_hoh := hb.size
      have ap_hoh_hox := apart_before hox.toCame hoh
      have ap_hoh_hoy := apart_before hoy.toCame hoh
      have ap_hog_hoh := apg
      have ap_hoh_hog := Apart.back hog.toCame apg
      have ap_hog'_hoh := Apart.marks (k := 1) apg
      clear apg
      replace kA0 := bat hb kA0
      replace kA1 := bat hb kA1
      replace kB0 := bat hb kB0
      replace kB1 := bat hb kB1
      replace kW0 := bat hb kW0
      replace kW1 := bat hb kW1
      replace kV0 := bat hb kV0
      replace kV1 := bat hb kV1
      replace kX0 := bat hb kX0
      replace kX1 := bat hb kX1
      replace kY0 := bat hb kY0
      replace kY1 := bat hb kY1
      replace hA := hA.below hb
      replace hB := hB.below hb
      replace ho0 := ho0.below hb
      replace ho1 := ho1.below hb
      replace hox := hox.below hb
      replace hoy := hoy.below hb
      replace S_hox := Nat.le_trans S_hox hb.size
      replace S_hoy := Nat.le_trans S_hoy hb.size
      replace B := B.trans (hb.mono B.size)
      clear hb
      have l_kA := World.block_lt_of_cell? _ _ kA0
      have l_kB := World.block_lt_of_cell? _ _ kB0
      have l_kW := World.block_lt_of_cell? _ _ kW0
      have l_kV := World.block_lt_of_cell? _ _ kV0
      have l_kX := World.block_lt_of_cell? _ _ kX0
      have l_kY := World.block_lt_of_cell? _ _ kY0
      go_wp2_with fail
      clear l_kA l_kB l_kW l_kV l_kX l_kY
      obtain ⟨kG0, kG1⟩ := var_new w6 gz a7 zs.length c7 26
      obtain ⟨kH0, kH1⟩ := var_new (w6.alloc (.cells #[.bool gz, .slice a7 zs.length c7] 26)) gy a8 ts.length c8 26
      rw [World.size_alloc] at kH0 kH1
      have hbb := below1 (w6.alloc (.cells #[.bool gz, .slice a7 zs.length c7] 26)) (.cells #[.bool gy, .slice a8 ts.length c8] 26)
      replace kG0 := bat hbb kG0
      replace kG1 := bat hbb kG1
      clear hbb
      have r_kG_hox := row_ne_high hox.toCame (Nat.le_refl _)
      have r_kH_hox := row_ne_high hox.toCame (Nat.le_succ _)
      have r_kG_hoy := row_ne_high hoy.toCame (Nat.le_refl _)
      have r_kH_hoy := row_ne_high hoy.toCame (Nat.le_succ _)
      have r_kG_hog := row_ne_high hog.toCame (Nat.le_refl _)
      have r_kH_hog := row_ne_high hog.toCame (Nat.le_succ _)
      have r_kG_hoh := row_ne_high hoh.toCame (Nat.le_refl _)
      have r_kH_hoh := row_ne_high hoh.toCame (Nat.le_succ _)
      have hb := below2 w6 (.cells #[.bool gz, .slice a7 zs.length c7] 26) (.cells #[.bool gy, .slice a8 ts.length c8] 26)
      replace kA0 := bat hb kA0
      replace kA1 := bat hb kA1
      replace kB0 := bat hb kB0
      replace kB1 := bat hb kB1
      replace kW0 := bat hb kW0
      replace kW1 := bat hb kW1
      replace kV0 := bat hb kV0
      replace kV1 := bat hb kV1
      replace kX0 := bat hb kX0
      replace kX1 := bat hb kX1
      replace kY0 := bat hb kY0
      replace kY1 := bat hb kY1
      replace hA := hA.below hb
      replace hB := hB.below hb
      replace ho0 := ho0.below hb
      replace ho1 := ho1.below hb
      replace hox := hox.below hb
      replace hoy := hoy.below hb
      replace hog := hog.below hb
      replace hoh := hoh.below hb
      replace S_hox := Nat.le_trans S_hox hb.size
      replace S_hoy := Nat.le_trans S_hoy hb.size
      replace S_hog := Nat.le_trans S_hog hb.size
      replace S_hoh := Nat.le_trans S_hoh hb.size
      replace B := B.trans (hb.mono B.size)
      clear hb
      generalize (w6.alloc (.cells #[.bool gz, .slice a7 zs.length c7] 26)).alloc (.cells #[.bool gy, .slice a8 ts.length c8] 26) = W6 at *
      refine (eqN gz a7 a3 c7 c3 zs _ hog.toSees ho0.toSees).mono ?_
      rintro e w7 ⟨rfl, hb⟩
      replace kA0 := bat hb kA0
      replace kA1 := bat hb kA1
      replace kB0 := bat hb kB0
      replace kB1 := bat hb kB1
      replace kW0 := bat hb kW0
      replace kW1 := bat hb kW1
      replace kV0 := bat hb kV0
      replace kV1 := bat hb kV1
      replace kX0 := bat hb kX0
      replace kX1 := bat hb kX1
      replace kY0 := bat hb kY0
      replace kY1 := bat hb kY1
      replace kG0 := bat hb kG0
      replace kG1 := bat hb kG1
      replace kH0 := bat hb kH0
      replace kH1 := bat hb kH1
      replace hA := hA.below hb
      replace hB := hB.below hb
      replace ho0 := ho0.below hb
      replace ho1 := ho1.below hb
      replace hox := hox.below hb
      replace hoy := hoy.below hb
      replace hog := hog.below hb
      replace hoh := hoh.below hb
      replace S_hox := Nat.le_trans S_hox hb.size
      replace S_hoy := Nat.le_trans S_hoy hb.size
      replace S_hog := Nat.le_trans S_hog hb.size
      replace S_hoh := Nat.le_trans S_hoh hb.size
      replace B := B.trans (hb.mono B.size)
      clear hb
      go_wp2_with fail
      refine (eqN gy a8 a4 c8 c4 ts _ hoh.toSees ho1.toSees).mono ?_
      rintro e w71 ⟨rfl, hb⟩
      replace kA0 := bat hb kA0
      replace kA1 := bat hb kA1
      replace kB0 := bat hb kB0
      replace kB1 := bat hb kB1
      replace kW0 := bat hb kW0
      replace kW1 := bat hb kW1
      replace kV0 := bat hb kV0
      replace kV1 := bat hb kV1
      replace kX0 := bat hb kX0
      replace kX1 := bat hb kX1
      replace kY0 := bat hb kY0
      replace kY1 := bat hb kY1
      replace kG0 := bat hb kG0
      replace kG1 := bat hb kG1
      replace kH0 := bat hb kH0
      replace kH1 := bat hb kH1
      replace hA := hA.below hb
      replace hB := hB.below hb
      replace ho0 := ho0.below hb
      replace ho1 := ho1.below hb
      replace hox := hox.below hb
      replace hoy := hoy.below hb
      replace hog := hog.below hb
      replace hoh := hoh.below hb
      replace S_hox := Nat.le_trans S_hox hb.size
      replace S_hoy := Nat.le_trans S_hoy hb.size
      replace S_hog := Nat.le_trans S_hog hb.size
      replace S_hoh := Nat.le_trans S_hoh hb.size
      replace B := B.trans (hb.mono B.size)
      clear hb
      go_wp2_with fail
      go_region_held3 (fun w' => w'.cell? ⟨w4.heap.size, 0, none⟩ = some (.bool g) ∧ w'.cell? ⟨w4.heap.size, 1, none⟩ = some (.slice ax xs.length cx) ∧ w'.cell? ⟨w.heap.size, 0, none⟩ = some (.bool g) ∧ w'.cell? ⟨w.heap.size, 1, none⟩ = some (.slice a xs.length c))
        (first | exact ⟨kX0, kX1, kA0, kA1⟩ | exact m1 | exact m2 | (simp [*]))
        (first
        | (go_at_call 11; refine (toN g a c xs _ ?_ hs).mono ?_; exact hA.below (Below.refl _ _).drew; rintro e w8 ⟨aq, cq, rfl, hoq, hbq⟩; have m1 : w8.cell? ⟨w4.heap.size, 0, none⟩ = some (.bool g) ∧ w8.cell? ⟨w4.heap.size, 1, none⟩ = some (.slice ax xs.length cx) ∧ w8.cell? ⟨w.heap.size, 0, none⟩ = some (.bool g) ∧ w8.cell? ⟨w.heap.size, 1, none⟩ = some (.slice a xs.length c) := ⟨bat hbq kX0, bat hbq kX1, bat hbq kA0, bat hbq kA1⟩)
        | (go_at_call 13; refine (eqN g ax aq cx cq xs _ ?_ hoq.toSees).mono ?_; exact hox.toSees.below ((Below.refl _ _).drew.trans hbq); rintro e w9 ⟨rfl, hbr⟩; have m2 : w9.cell? ⟨w4.heap.size, 0, none⟩ = some (.bool g) ∧ w9.cell? ⟨w4.heap.size, 1, none⟩ = some (.slice ax xs.length cx) ∧ w9.cell? ⟨w.heap.size, 0, none⟩ = some (.bool g) ∧ w9.cell? ⟨w.heap.size, 1, none⟩ = some (.slice a xs.length c) := ⟨bat hbr m1.1, bat hbr m1.2.1, bat hbr m1.2.2.1, bat hbr m1.2.2.2⟩))
      have hb := (Below.refl _ _).drew.trans (hbq.trans (hbr.mono hbq.size))
      clear hbq hbr hoq m1 m2
      replace kA0 := bat hb kA0
      replace kA1 := bat hb kA1
      replace kB0 := bat hb kB0
      replace kB1 := bat hb kB1
      replace kW0 := bat hb kW0
      replace kW1 := bat hb kW1
      replace kV0 := bat hb kV0
      replace kV1 := bat hb kV1
      replace kX0 := bat hb kX0
      replace kX1 := bat hb kX1
      replace kY0 := bat hb kY0
      replace kY1 := bat hb kY1
      replace kG0 := bat hb kG0
      replace kG1 := bat hb kG1
      replace kH0 := bat hb kH0
      replace kH1 := bat hb kH1
      replace hA := hA.below hb
      replace hB := hB.below hb
      replace ho0 := ho0.below hb
      replace ho1 := ho1.below hb
      replace hox := hox.below hb
      replace hoy := hoy.below hb
      replace hog := hog.below hb
      replace hoh := hoh.below hb
      replace S_hox := Nat.le_trans S_hox hb.size
      replace S_hoy := Nat.le_trans S_hoy hb.size
      replace S_hog := Nat.le_trans S_hog hb.size
      replace S_hoh := Nat.le_trans S_hoh hb.size
      replace B := B.trans (hb.mono B.size)
      clear hb
      go_wp2_with fail
      go_region_held3 (fun w' => w'.cell? ⟨w5.heap.size, 0, none⟩ = some (.bool g') ∧ w'.cell? ⟨w5.heap.size, 1, none⟩ = some (.slice ay ys.length cy) ∧ w'.cell? ⟨w.heap.size + 1, 0, none⟩ = some (.bool g') ∧ w'.cell? ⟨w.heap.size + 1, 1, none⟩ = some (.slice a' ys.length c'))
        (first | exact ⟨kY0, kY1, kB0, kB1⟩ | exact m1 | exact m2 | (simp [*]))
        (first
        | (go_at_call 11; refine (toN g' a' c' ys _ ?_ ks).mono ?_; exact hB.below (Below.refl _ _).drew; rintro e w10 ⟨aq, cq, rfl, hoq, hbq⟩; have m1 : w10.cell? ⟨w5.heap.size, 0, none⟩ = some (.bool g') ∧ w10.cell? ⟨w5.heap.size, 1, none⟩ = some (.slice ay ys.length cy) ∧ w10.cell? ⟨w.heap.size + 1, 0, none⟩ = some (.bool g') ∧ w10.cell? ⟨w.heap.size + 1, 1, none⟩ = some (.slice a' ys.length c') := ⟨bat hbq kY0, bat hbq kY1, bat hbq kB0, bat hbq kB1⟩)
        | (go_at_call 13; refine (eqN g' ay aq cy cq ys _ ?_ hoq.toSees).mono ?_; exact hoy.toSees.below ((Below.refl _ _).drew.trans hbq); rintro e w11 ⟨rfl, hbr⟩; have m2 : w11.cell? ⟨w5.heap.size, 0, none⟩ = some (.bool g') ∧ w11.cell? ⟨w5.heap.size, 1, none⟩ = some (.slice ay ys.length cy) ∧ w11.cell? ⟨w.heap.size + 1, 0, none⟩ = some (.bool g') ∧ w11.cell? ⟨w.heap.size + 1, 1, none⟩ = some (.slice a' ys.length c') := ⟨bat hbr m1.1, bat hbr m1.2.1, bat hbr m1.2.2.1, bat hbr m1.2.2.2⟩))
      have hb := (Below.refl _ _).drew.trans (hbq.trans (hbr.mono hbq.size))
      clear hbq hbr hoq m1 m2
      replace kA0 := bat hb kA0
      replace kA1 := bat hb kA1
      replace kB0 := bat hb kB0
      replace kB1 := bat hb kB1
      replace kW0 := bat hb kW0
      replace kW1 := bat hb kW1
      replace kV0 := bat hb kV0
      replace kV1 := bat hb kV1
      replace kX0 := bat hb kX0
      replace kX1 := bat hb kX1
      replace kY0 := bat hb kY0
      replace kY1 := bat hb kY1
      replace kG0 := bat hb kG0
      replace kG1 := bat hb kG1
      replace kH0 := bat hb kH0
      replace kH1 := bat hb kH1
      replace hA := hA.below hb
      replace hB := hB.below hb
      replace ho0 := ho0.below hb
      replace ho1 := ho1.below hb
      replace hox := hox.below hb
      replace hoy := hoy.below hb
      replace hog := hog.below hb
      replace hoh := hoh.below hb
      replace S_hox := Nat.le_trans S_hox hb.size
      replace S_hoy := Nat.le_trans S_hoy hb.size
      replace S_hog := Nat.le_trans S_hog hb.size
      replace S_hoh := Nat.le_trans S_hoh hb.size
      replace B := B.trans (hb.mono B.size)
      clear hb
      go_wp2_with fail
      refine (markN _ g ax cx xs 1 _ hox (by decide) (by omega)).mono ?_
      rintro e w12 ⟨rfl, hox', hg⟩
      replace B := B.trans ((below_of_grown hox hg S_hox).mono sB_hox)
      replace kA0 := hg.cell kA0 r_kA_hox
      replace kA1 := hg.cell kA1 r_kA_hox
      replace kB0 := hg.cell kB0 r_kB_hox
      replace kB1 := hg.cell kB1 r_kB_hox
      replace kW0 := hg.cell kW0 r_kW_hox
      replace kW1 := hg.cell kW1 r_kW_hox
      replace kV0 := hg.cell kV0 r_kV_hox
      replace kV1 := hg.cell kV1 r_kV_hox
      replace kX0 := hg.cell kX0 r_kX_hox
      replace kX1 := hg.cell kX1 r_kX_hox
      replace kY0 := hg.cell kY0 r_kY_hox
      replace kY1 := hg.cell kY1 r_kY_hox
      replace kG0 := hg.cell kG0 r_kG_hox
      replace kG1 := hg.cell kG1 r_kG_hox
      replace kH0 := hg.cell kH0 r_kH_hox
      replace kH1 := hg.cell kH1 r_kH_hox
      replace hA := hA.kept hg ap_hA_hox
      replace hB := hB.kept hg ap_hB_hox
      replace ho0 := ho0.kept hg ap_ho0_hox
      replace ho1 := ho1.kept hg ap_ho1_hox
      replace hoy := hoy.kept hg ap_hoy_hox
      replace hog := hog.kept hg ap_hog_hox
      replace hoh := hoh.kept hg ap_hoh_hox
      replace S_hox := Nat.le_trans S_hox hg.size
      replace S_hoy := Nat.le_trans S_hoy hg.size
      replace S_hog := Nat.le_trans S_hog hg.size
      replace S_hoh := Nat.le_trans S_hoh hg.size
      clear hg hox
      clear r_kA_hox r_kB_hox r_kW_hox r_kV_hox r_kX_hox r_kY_hox r_kG_hox r_kH_hox ap_hA_hox ap_hB_hox ap_ho0_hox ap_ho1_hox ap_hoy_hox ap_hog_hox ap_hoh_hox S_hox sB_hox
      clear hox'
      clear kX0 kX1
      go_wp2_with fail
      refine (markN _ g' ay cy ys (1 + xs.length) _ hoy (by omega) (by omega)).mono ?_
      rintro e w13 ⟨rfl, hoy', hg⟩
      replace B := B.trans ((below_of_grown hoy hg S_hoy).mono sB_hoy)
      replace kA0 := hg.cell kA0 r_kA_hoy
      replace kA1 := hg.cell kA1 r_kA_hoy
      replace kB0 := hg.cell kB0 r_kB_hoy
      replace kB1 := hg.cell kB1 r_kB_hoy
      replace kW0 := hg.cell kW0 r_kW_hoy
      replace kW1 := hg.cell kW1 r_kW_hoy
      replace kV0 := hg.cell kV0 r_kV_hoy
      replace kV1 := hg.cell kV1 r_kV_hoy
      replace kY0 := hg.cell kY0 r_kY_hoy
      replace kY1 := hg.cell kY1 r_kY_hoy
      replace kG0 := hg.cell kG0 r_kG_hoy
      replace kG1 := hg.cell kG1 r_kG_hoy
      replace kH0 := hg.cell kH0 r_kH_hoy
      replace kH1 := hg.cell kH1 r_kH_hoy
      replace hA := hA.kept hg ap_hA_hoy
      replace hB := hB.kept hg ap_hB_hoy
      replace ho0 := ho0.kept hg ap_ho0_hoy
      replace ho1 := ho1.kept hg ap_ho1_hoy
      replace hog := hog.kept hg ap_hog_hoy
      replace hoh := hoh.kept hg ap_hoh_hoy
      replace S_hoy := Nat.le_trans S_hoy hg.size
      replace S_hog := Nat.le_trans S_hog hg.size
      replace S_hoh := Nat.le_trans S_hoh hg.size
      clear hg hoy
      clear r_kA_hoy r_kB_hoy r_kW_hoy r_kV_hoy r_kY_hoy r_kG_hoy r_kH_hoy ap_hA_hoy ap_hB_hoy ap_ho0_hoy ap_ho1_hoy ap_hog_hoy ap_hoh_hoy S_hoy sB_hoy
      clear hoy'
      clear kY0 kY1
      have hkk : decide ((1 : Int) + xs.length + ys.length < 0) = false := by simp; omega
      go_wp2_with fail
      clear hkk
      refine (eqN gz a7 a3 c7 c3 zs _ hog.toSees ho0.toSees).mono ?_
      rintro e w14 ⟨rfl, hb⟩
      replace kA0 := bat hb kA0
      replace kA1 := bat hb kA1
      replace kB0 := bat hb kB0
      replace kB1 := bat hb kB1
      replace kW0 := bat hb kW0
      replace kW1 := bat hb kW1
      replace kV0 := bat hb kV0
      replace kV1 := bat hb kV1
      replace kG0 := bat hb kG0
      replace kG1 := bat hb kG1
      replace kH0 := bat hb kH0
      replace kH1 := bat hb kH1
      replace hA := hA.below hb
      replace hB := hB.below hb
      replace ho0 := ho0.below hb
      replace ho1 := ho1.below hb
      replace hog := hog.below hb
      replace hoh := hoh.below hb
      replace S_hog := Nat.le_trans S_hog hb.size
      replace S_hoh := Nat.le_trans S_hoh hb.size
      replace B := B.trans (hb.mono B.size)
      clear hb
      go_wp2_with fail
      refine (eqN gy a8 a4 c8 c4 ts _ hoh.toSees ho1.toSees).mono ?_
      rintro e w141 ⟨rfl, hb⟩
      replace kA0 := bat hb kA0
      replace kA1 := bat hb kA1
      replace kB0 := bat hb kB0
      replace kB1 := bat hb kB1
      replace kW0 := bat hb kW0
      replace kW1 := bat hb kW1
      replace kV0 := bat hb kV0
      replace kV1 := bat hb kV1
      replace kG0 := bat hb kG0
      replace kG1 := bat hb kG1
      replace kH0 := bat hb kH0
      replace kH1 := bat hb kH1
      replace hA := hA.below hb
      replace hB := hB.below hb
      replace ho0 := ho0.below hb
      replace ho1 := ho1.below hb
      replace hog := hog.below hb
      replace hoh := hoh.below hb
      replace S_hog := Nat.le_trans S_hog hb.size
      replace S_hoh := Nat.le_trans S_hoh hb.size
      replace B := B.trans (hb.mono B.size)
      clear hb
      go_wp2_with fail
      refine (markN _ gz a7 c7 zs 1 _ hog (by decide) (by omega)).mono ?_
      rintro e w15 ⟨rfl, hog', hg⟩
      replace B := B.trans ((below_of_grown hog hg S_hog).mono sB_hog)
      replace kA0 := hg.cell kA0 r_kA_hog
      replace kA1 := hg.cell kA1 r_kA_hog
      replace kB0 := hg.cell kB0 r_kB_hog
      replace kB1 := hg.cell kB1 r_kB_hog
      replace kW0 := hg.cell kW0 r_kW_hog
      replace kW1 := hg.cell kW1 r_kW_hog
      replace kV0 := hg.cell kV0 r_kV_hog
      replace kV1 := hg.cell kV1 r_kV_hog
      replace kG0 := hg.cell kG0 r_kG_hog
      replace kG1 := hg.cell kG1 r_kG_hog
      replace kH0 := hg.cell kH0 r_kH_hog
      replace kH1 := hg.cell kH1 r_kH_hog
      replace hA := hA.kept hg ap_hA_hog
      replace hB := hB.kept hg ap_hB_hog
      replace ho0 := ho0.kept hg ap_ho0_hog
      replace ho1 := ho1.kept hg ap_ho1_hog
      replace hoh := hoh.kept hg ap_hoh_hog
      replace S_hog := Nat.le_trans S_hog hg.size
      replace S_hoh := Nat.le_trans S_hoh hg.size
      clear hg hog
      clear r_kA_hog r_kB_hog r_kW_hog r_kV_hog r_kG_hog r_kH_hog ap_hA_hog ap_hB_hog ap_ho0_hog ap_ho1_hog ap_hoh_hog S_hog sB_hog
      go_wp2_with fail
      refine (markN _ gy a8 c8 ts (1 + zs.length) _ hoh (by omega) (by omega)).mono ?_
      rintro e w151 ⟨rfl, hoh', hg⟩
      replace B := B.trans ((below_of_grown hoh hg S_hoh).mono sB_hoh)
      replace kA0 := hg.cell kA0 r_kA_hoh
      replace kA1 := hg.cell kA1 r_kA_hoh
      replace kB0 := hg.cell kB0 r_kB_hoh
      replace kB1 := hg.cell kB1 r_kB_hoh
      replace kW0 := hg.cell kW0 r_kW_hoh
      replace kW1 := hg.cell kW1 r_kW_hoh
      replace kV0 := hg.cell kV0 r_kV_hoh
      replace kV1 := hg.cell kV1 r_kV_hoh
      replace kG0 := hg.cell kG0 r_kG_hoh
      replace kG1 := hg.cell kG1 r_kG_hoh
      replace kH0 := hg.cell kH0 r_kH_hoh
      replace kH1 := hg.cell kH1 r_kH_hoh
      replace hA := hA.kept hg ap_hA_hoh
      replace hB := hB.kept hg ap_hB_hoh
      replace ho0 := ho0.kept hg ap_ho0_hoh
      replace ho1 := ho1.kept hg ap_ho1_hoh
      replace hog' := hog'.kept hg ap_hog'_hoh
      replace S_hoh := Nat.le_trans S_hoh hg.size
      clear hg hoh
      clear r_kA_hoh r_kB_hoh r_kW_hoh r_kV_hoh r_kG_hoh r_kH_hoh ap_hA_hoh ap_hB_hoh ap_ho0_hoh ap_ho1_hoh ap_hog'_hoh S_hoh sB_hoh
      go_wp2_with fail
      refine (heldN gz a7 c7 zs.length 1 _ hog'.toSees (by decide) (by omega)).mono ?_
      rintro e w16 ⟨rfl, hb⟩
      replace kA0 := bat hb kA0
      replace kA1 := bat hb kA1
      replace kB0 := bat hb kB0
      replace kB1 := bat hb kB1
      replace kW0 := bat hb kW0
      replace kW1 := bat hb kW1
      replace kV0 := bat hb kV0
      replace kV1 := bat hb kV1
      replace kG0 := bat hb kG0
      replace kG1 := bat hb kG1
      replace kH0 := bat hb kH0
      replace kH1 := bat hb kH1
      replace hA := hA.below hb
      replace hB := hB.below hb
      replace ho0 := ho0.below hb
      replace ho1 := ho1.below hb
      replace hog' := hog'.below hb
      replace hoh' := hoh'.below hb
      replace B := B.trans (hb.mono B.size)
      clear hb
      have hk1 : decide ((1 : Int) + zs.length < 0) = false := by simp; omega
      go_wp2_with fail
      clear hk1
      refine (heldN gy a8 c8 ts.length (1 + zs.length) _ hoh'.toSees (by omega) (by omega)).mono ?_
      rintro e w17 ⟨rfl, hb⟩
      replace kA0 := bat hb kA0
      replace kA1 := bat hb kA1
      replace kB0 := bat hb kB0
      replace kB1 := bat hb kB1
      replace kW0 := bat hb kW0
      replace kW1 := bat hb kW1
      replace kV0 := bat hb kV0
      replace kV1 := bat hb kV1
      replace kG0 := bat hb kG0
      replace kG1 := bat hb kG1
      replace kH0 := bat hb kH0
      replace kH1 := bat hb kH1
      replace hA := hA.below hb
      replace hB := hB.below hb
      replace ho0 := ho0.below hb
      replace ho1 := ho1.below hb
      replace hog' := hog'.below hb
      replace hoh' := hoh'.below hb
      replace B := B.trans (hb.mono B.size)
      clear hb
      have hk2 : decide ((1 : Int) + zs.length + ts.length < 0) = false := by simp; omega
      go_wp2_with fail
      clear hk2
      have HV' := HV
      clear HV
      go_cut [17, 18, 19] (fun s6 s7 s8 W => ∃ p p' a3 c3 zs a4 c4 ts, s6 = .pointer (some ⟨p, 0, none⟩) ∧ s7 = .pointer (some ⟨p', 0, none⟩) ∧ s8 = .bool bz ∧ Box2 w17.heap.size W p (.bool gz) (.slice a3 zs.length c3) ∧ Box2 w17.heap.size W p' (.bool gy) (.slice a4 ts.length c4) ∧ Own w.heap.size W a3 c3 zs ∧ Own w.heap.size W a4 c4 ts ∧ Hid (Lim zs ∧ Nrm zs ∧ val zs = mg (tk g xs / tk g' ys) ∧ Lim ts ∧ Nrm ts ∧ val ts = mg (rz (tk g xs) (tk g' ys))) ∧ Below w17.heap.size w17 W)
      case first =>
        have sz := B.size
        refine wp_region_held_drew (S := Below w17.heap.size w17) (by kernel_rfl) ((Below.refl _ _).drew) (fun hHeld => ?_)
        have N : Below w17.heap.size w17 w17.drew := hHeld
        revert hHeld N
        generalize w17.drew = v0
        intro hHeld N
        refine takeQ (i := 0) (gt rfl) (by kernel_rfl) (fun _ _ _ h => h) (by rfl) (by intro wq hSw; have q0 := bat hSw kA0; have q1 := bat hSw kA1; have q2 := bat hSw kB0; have q3 := bat hSw kB1; go_simp <;> with_reducible rfl) (by assumption) ?_
        try simp only [Act.put, sA, sB, sC]
        refine takeQ (i := 2) (gt rfl) (by kernel_rfl) (fun _ _ _ h => h) (by rfl) (by intro wq hSw; have q0 := bat hSw kA0; have q1 := bat hSw kA1; have q2 := bat hSw kB0; have q3 := bat hSw kB1; go_simp <;> with_reducible rfl) (by assumption) ?_
        try simp only [Act.put, sA, sB, sC]
        refine wpAnyH_ready (rs := [1, 9, 10]) (by kernel_rfl) (by simp) (AllReadyH.cons (gt rfl) (fun K hK => ?_) (AllReadyH.cons (gt rfl) (fun K hK => ?_) (AllReadyH.cons (gt rfl) (fun K hK => ?_) AllReadyH.nil)))
        · as_aux_lemma =>
            go_simp
            refine (toN g a c xs _ (hA.below N) hs).mono ?_
            rintro e v1 ⟨aa, ca, rfl, ho3, hb⟩
            replace N := N.trans (hb.mono N.size)
            clear hb
            refine hK.out _ _ N (fun hHeld => ?_)
            clear hK K
            try simp only [Act.put, sA, sB, sC]
            refine wpAnyH_ready (rs := [3, 9, 10]) (by kernel_rfl) (by simp) (AllReadyH.cons (gt rfl) (fun K hK => ?_) (AllReadyH.cons (gt rfl) (fun K hK => ?_) (AllReadyH.cons (gt rfl) (fun K hK => ?_) AllReadyH.nil)))
            · as_aux_lemma =>
                go_simp
                refine (toN g' a' c' ys _ (hB.below N) ks).mono ?_
                rintro e v2 ⟨ab, cb, rfl, ho4, hb⟩
                replace ho3 := ho3.below hb
                replace N := N.trans (hb.mono N.size)
                clear hb
                refine hK.out _ _ N (fun hHeld => ?_)
                clear hK K
                try simp only [Act.put, sA, sB, sC]
                refine wpAnyH_ready (rs := [4, 9, 10]) (by kernel_rfl) (by simp) (AllReadyH.cons (gt rfl) (fun K hK => ?_) (AllReadyH.cons (gt rfl) (fun K hK => ?_) (AllReadyH.cons (gt rfl) (fun K hK => ?_) AllReadyH.nil)))
                · as_aux_lemma =>
                    go_simp
                    refine (implDivMod g g' aa ab ca cb xs ys _ ho3.toSees ho4.toSees).mono ?_
                    rintro e v3 ⟨vq, vr, rfl, hI, hb⟩
                    obtain ⟨a5, c5, zs, a6, c6, ts, rfl, rfl, hoz, hot, hnz, hnt, hvz, hvt, _⟩ := hI
                    have HZ : Hid (Lim zs ∧ Nrm zs ∧ val zs = mg (tk g xs / tk g' ys) ∧ Lim ts ∧ Nrm ts ∧ val ts = mg (rz (tk g xs) (tk g' ys))) := ⟨hoz.lim, hnz, hvz, hot.lim, hnt, hvt⟩
                    rw [HG.out, HY.out, HF.out]
                    have bs := Nat.le_trans sz N.size
                    clear hnz hnt hvz hvt
                    replace ho3 := ho3.below hb
                    replace ho4 := ho4.below hb
                    replace N := N.trans (hb.mono N.size)
                    clear hb
                    clear ho3 ho4
                    refine hK.out _ _ N (fun hHeld => ?_)
                    clear hK K
                    try simp only [Act.put, sA, sB, sC]
                    refine takeQ (i := 5) (gt rfl) (by kernel_rfl) (fun _ _ _ h => h) (by rfl) (by intro wq _; go_simp <;> with_reducible rfl) (by assumption) ?_
                    try simp only [Act.put, sA, sB, sC]
                    refine takeQ (i := 6) (gt rfl) (by kernel_rfl) (fun _ _ _ h => h) (by rfl) (by intro wq _; go_simp <;> with_reducible rfl) (by assumption) ?_
                    try simp only [Act.put, sA, sB, sC]
                    refine takeQ (i := 7) (gt rfl) (by kernel_rfl) (fun _ _ _ h => h) (by rfl) (by intro wq _; go_simp <;> with_reducible rfl) (by assumption) ?_
                    try simp only [Act.put, sA, sB, sC]
                    refine takeQ (i := 8) (gt rfl) (by kernel_rfl) (fun _ _ _ h => h) (by rfl) (by intro wq _; go_simp <;> with_reducible rfl) (by assumption) ?_
                    try simp only [Act.put, sA, sB, sC]
                    refine wpAnyH_ready (rs := [9, 10]) (by kernel_rfl) (by simp) (AllReadyH.cons (gt rfl) (fun K hK => ?_) (AllReadyH.cons (gt rfl) (fun K hK => ?_) AllReadyH.nil))
                    · skip
                      go_simp
                      have kP := Box2.new v3 N.size (.bool false) (.slice none 0 0) 26
                      have hb := below1 v3 (.cells #[.bool false, .slice none 0 0] 26)
                      have r_kP_hoz := row_ne_high hoz.toCame (Nat.le_refl _)
                      have r_kP_hot := row_ne_high hot.toCame (Nat.le_refl _)
                      replace hoz := hoz.below hb
                      replace hot := hot.below hb
                      replace N := N.trans (hb.mono N.size)
                      clear hb
                      generalize v3.alloc (.cells #[.bool false, .slice none 0 0] 26) = v4 at *
                      refine hK.out _ _ N (fun hHeld => ?_)
                      clear hK K
                      try simp only [Act.put, sA, sB, sC]
                      refine wpAnyH_ready (rs := [10]) (by kernel_rfl) (by simp) (AllReadyH.cons (gt rfl) (fun K hK => ?_) AllReadyH.nil)
                      go_simp
                      have kQ := Box2.new v4 N.size (.bool false) (.slice none 0 0) 26
                      have hb := below1 v4 (.cells #[.bool false, .slice none 0 0] 26)
                      have r_kQ_hoz := row_ne_high hoz.toCame (Nat.le_refl _)
                      have r_kQ_hot := row_ne_high hot.toCame (Nat.le_refl _)
                      have ne_kQ_kP := Nat.ne_of_gt kP.lt
                      have ne_kP_kQ := ne_kQ_kP.symm
                      replace kP := kP.below hb
                      replace hoz := hoz.below hb
                      replace hot := hot.below hb
                      replace N := N.trans (hb.mono N.size)
                      clear hb
                      generalize v4.alloc (.cells #[.bool false, .slice none 0 0] 26) = v5 at *
                      refine hK.out _ _ N (fun hHeld => ?_)
                      clear hK K
                      try simp only [Act.put, sA, sB, sC]
                      refine wpAnyH_ready (rs := [11]) (by kernel_rfl) (by simp) (AllReadyH.cons (gt rfl) (fun K hK => ?_) AllReadyH.nil)
                      have z0 := kP.c0
                      have z1 := kP.c1
                      have zf := kP.fr
                      go_simp
                      clear z0 z1 zf
                      replace N := Box2.chain N kP (.bool gz) (.slice a5 zs.length c5)
                      replace kQ := kQ.old ne_kQ_kP (.bool gz) (.slice a5 zs.length c5)
                      replace hoz := hoz.put2 r_kP_hoz (.bool gz) (.slice a5 zs.length c5)
                      replace hot := hot.put2 r_kP_hot (.bool gz) (.slice a5 zs.length c5)
                      replace kP := kP.put (.bool gz) (.slice a5 zs.length c5)
                      refine hK.out _ _ N (fun hHeld => ?_)
                      clear hK K
                      try simp only [Act.put, sA, sB, sC]
                      refine wpAnyH_ready (rs := [12]) (by kernel_rfl) (by simp) (AllReadyH.cons (gt rfl) (fun K hK => ?_) AllReadyH.nil)
                      have z0 := kQ.c0
                      have z1 := kQ.c1
                      have zf := kQ.fr
                      go_simp
                      clear z0 z1 zf
                      replace N := Box2.chain N kQ (.bool gy) (.slice a6 ts.length c6)
                      replace kP := kP.old ne_kP_kQ (.bool gy) (.slice a6 ts.length c6)
                      replace hoz := hoz.put2 r_kQ_hoz (.bool gy) (.slice a6 ts.length c6)
                      replace hot := hot.put2 r_kQ_hot (.bool gy) (.slice a6 ts.length c6)
                      replace kQ := kQ.put (.bool gy) (.slice a6 ts.length c6)
                      refine hK.out _ _ N (fun hHeld => ?_)
                      clear hK K
                      try simp only [Act.put, sA, sB, sC]
                      refine takeQ (i := 13) (gt rfl) (by kernel_rfl) (fun _ _ _ h => h) (by rfl) (by intro wq _; go_simp <;> with_reducible rfl) (by assumption) ?_
                      try simp only [Act.put, sA, sB, sC]
                      refine wpAnyH_done (by kernel_rfl) ?_ _
                      go_wp2
                      go_meet
                      case rel => exact ⟨_, _, a5, c5, zs, a6, c6, ts, rfl, rfl, rfl, kP, kQ, hoz.base_le bs, hot.base_le bs, HZ, N⟩
                    · skip
                      go_simp
                      have kQ := Box2.new v3 N.size (.bool false) (.slice none 0 0) 26
                      have hb := below1 v3 (.cells #[.bool false, .slice none 0 0] 26)
                      have r_kQ_hoz := row_ne_high hoz.toCame (Nat.le_refl _)
                      have r_kQ_hot := row_ne_high hot.toCame (Nat.le_refl _)
                      replace hoz := hoz.below hb
                      replace hot := hot.below hb
                      replace N := N.trans (hb.mono N.size)
                      clear hb
                      generalize v3.alloc (.cells #[.bool false, .slice none 0 0] 26) = v8 at *
                      refine hK.out _ _ N (fun hHeld => ?_)
                      clear hK K
                      try simp only [Act.put, sA, sB, sC]
                      refine wpAnyH_ready (rs := [9]) (by kernel_rfl) (by simp) (AllReadyH.cons (gt rfl) (fun K hK => ?_) AllReadyH.nil)
                      go_simp
                      have kP := Box2.new v8 N.size (.bool false) (.slice none 0 0) 26
                      have hb := below1 v8 (.cells #[.bool false, .slice none 0 0] 26)
                      have r_kP_hoz := row_ne_high hoz.toCame (Nat.le_refl _)
                      have r_kP_hot := row_ne_high hot.toCame (Nat.le_refl _)
                      have ne_kP_kQ := Nat.ne_of_gt kQ.lt
                      have ne_kQ_kP := ne_kP_kQ.symm
                      replace kQ := kQ.below hb
                      replace hoz := hoz.below hb
                      replace hot := hot.below hb
                      replace N := N.trans (hb.mono N.size)
                      clear hb
                      generalize v8.alloc (.cells #[.bool false, .slice none 0 0] 26) = v9 at *
                      refine hK.out _ _ N (fun hHeld => ?_)
                      clear hK K
                      try simp only [Act.put, sA, sB, sC]
                      refine wpAnyH_ready (rs := [11]) (by kernel_rfl) (by simp) (AllReadyH.cons (gt rfl) (fun K hK => ?_) AllReadyH.nil)
                      have z0 := kP.c0
                      have z1 := kP.c1
                      have zf := kP.fr
                      go_simp
                      clear z0 z1 zf
                      replace N := Box2.chain N kP (.bool gz) (.slice a5 zs.length c5)
                      replace kQ := kQ.old ne_kQ_kP (.bool gz) (.slice a5 zs.length c5)
                      replace hoz := hoz.put2 r_kP_hoz (.bool gz) (.slice a5 zs.length c5)
                      replace hot := hot.put2 r_kP_hot (.bool gz) (.slice a5 zs.length c5)
                      replace kP := kP.put (.bool gz) (.slice a5 zs.length c5)
                      refine hK.out _ _ N (fun hHeld => ?_)
                      clear hK K
                      try simp only [Act.put, sA, sB, sC]
                      refine wpAnyH_ready (rs := [12]) (by kernel_rfl) (by simp) (AllReadyH.cons (gt rfl) (fun K hK => ?_) AllReadyH.nil)
                      have z0 := kQ.c0
                      have z1 := kQ.c1
                      have zf := kQ.fr
                      go_simp
                      clear z0 z1 zf
                      replace N := Box2.chain N kQ (.bool gy) (.slice a6 ts.length c6)
                      replace kP := kP.old ne_kP_kQ (.bool gy) (.slice a6 ts.length c6)
                      replace hoz := hoz.put2 r_kQ_hoz (.bool gy) (.slice a6 ts.length c6)
                      replace hot := hot.put2 r_kQ_hot (.bool gy) (.slice a6 ts.length c6)
                      replace kQ := kQ.put (.bool gy) (.slice a6 ts.length c6)
                      refine hK.out _ _ N (fun hHeld => ?_)
                      clear hK K
                      try simp only [Act.put, sA, sB, sC]
                      refine takeQ (i := 13) (gt rfl) (by kernel_rfl) (fun _ _ _ h => h) (by rfl) (by intro wq _; go_simp <;> with_reducible rfl) (by assumption) ?_
                      try simp only [Act.put, sA, sB, sC]
                      refine wpAnyH_done (by kernel_rfl) ?_ _
                      go_wp2
                      go_meet
                      case rel => exact ⟨_, _, a5, c5, zs, a6, c6, ts, rfl, rfl, rfl, kP, kQ, hoz.base_le bs, hot.base_le bs, HZ, N⟩
                · as_aux_lemma =>
                    go_simp
                    have kP := Box2.new v2 N.size (.bool false) (.slice none 0 0) 26
                    have hb := below1 v2 (.cells #[.bool false, .slice none 0 0] 26)
                    replace ho3 := ho3.below hb
                    replace ho4 := ho4.below hb
                    replace N := N.trans (hb.mono N.size)
                    clear hb
                    generalize v2.alloc (.cells #[.bool false, .slice none 0 0] 26) = v12 at *
                    refine hK.out _ _ N (fun hHeld => ?_)
                    clear hK K
                    try simp only [Act.put, sA, sB, sC]
                    refine wpAnyH_ready (rs := [4, 10]) (by kernel_rfl) (by simp) (AllReadyH.cons (gt rfl) (fun K hK => ?_) (AllReadyH.cons (gt rfl) (fun K hK => ?_) AllReadyH.nil))
                    · skip
                      go_simp
                      refine (implDivMod g g' aa ab ca cb xs ys _ ho3.toSees ho4.toSees).mono ?_
                      rintro e v13 ⟨vq, vr, rfl, hI, hb⟩
                      obtain ⟨a5, c5, zs, a6, c6, ts, rfl, rfl, hoz, hot, hnz, hnt, hvz, hvt, _⟩ := hI
                      have HZ : Hid (Lim zs ∧ Nrm zs ∧ val zs = mg (tk g xs / tk g' ys) ∧ Lim ts ∧ Nrm ts ∧ val ts = mg (rz (tk g xs) (tk g' ys))) := ⟨hoz.lim, hnz, hvz, hot.lim, hnt, hvt⟩
                      rw [HG.out, HY.out, HF.out]
                      have bs := Nat.le_trans sz N.size
                      clear hnz hnt hvz hvt
                      have r_kP_hoz := row_ne_low hoz kP.lt
                      have r_kP_hot := row_ne_low hot kP.lt
                      replace kP := kP.below hb
                      replace ho3 := ho3.below hb
                      replace ho4 := ho4.below hb
                      replace N := N.trans (hb.mono N.size)
                      clear hb
                      clear ho3 ho4
                      refine hK.out _ _ N (fun hHeld => ?_)
                      clear hK K
                      try simp only [Act.put, sA, sB, sC]
                      refine takeQ (i := 5) (gt rfl) (by kernel_rfl) (fun _ _ _ h => h) (by rfl) (by intro wq _; go_simp <;> with_reducible rfl) (by assumption) ?_
                      try simp only [Act.put, sA, sB, sC]
                      refine takeQ (i := 6) (gt rfl) (by kernel_rfl) (fun _ _ _ h => h) (by rfl) (by intro wq _; go_simp <;> with_reducible rfl) (by assumption) ?_
                      try simp only [Act.put, sA, sB, sC]
                      refine takeQ (i := 7) (gt rfl) (by kernel_rfl) (fun _ _ _ h => h) (by rfl) (by intro wq _; go_simp <;> with_reducible rfl) (by assumption) ?_
                      try simp only [Act.put, sA, sB, sC]
                      refine takeQ (i := 8) (gt rfl) (by kernel_rfl) (fun _ _ _ h => h) (by rfl) (by intro wq _; go_simp <;> with_reducible rfl) (by assumption) ?_
                      try simp only [Act.put, sA, sB, sC]
                      refine wpAnyH_ready (rs := [10]) (by kernel_rfl) (by simp) (AllReadyH.cons (gt rfl) (fun K hK => ?_) AllReadyH.nil)
                      go_simp
                      have kQ := Box2.new v13 N.size (.bool false) (.slice none 0 0) 26
                      have hb := below1 v13 (.cells #[.bool false, .slice none 0 0] 26)
                      have r_kQ_hoz := row_ne_high hoz.toCame (Nat.le_refl _)
                      have r_kQ_hot := row_ne_high hot.toCame (Nat.le_refl _)
                      have ne_kQ_kP := Nat.ne_of_gt kP.lt
                      have ne_kP_kQ := ne_kQ_kP.symm
                      replace kP := kP.below hb
                      replace hoz := hoz.below hb
                      replace hot := hot.below hb
                      replace N := N.trans (hb.mono N.size)
                      clear hb
                      generalize v13.alloc (.cells #[.bool false, .slice none 0 0] 26) = v14 at *
                      refine hK.out _ _ N (fun hHeld => ?_)
                      clear hK K
                      try simp only [Act.put, sA, sB, sC]
                      refine wpAnyH_ready (rs := [11]) (by kernel_rfl) (by simp) (AllReadyH.cons (gt rfl) (fun K hK => ?_) AllReadyH.nil)
                      have z0 := kP.c0
                      have z1 := kP.c1
                      have zf := kP.fr
                      go_simp
                      clear z0 z1 zf
                      replace N := Box2.chain N kP (.bool gz) (.slice a5 zs.length c5)
                      replace kQ := kQ.old ne_kQ_kP (.bool gz) (.slice a5 zs.length c5)
                      replace hoz := hoz.put2 r_kP_hoz (.bool gz) (.slice a5 zs.length c5)
                      replace hot := hot.put2 r_kP_hot (.bool gz) (.slice a5 zs.length c5)
                      replace kP := kP.put (.bool gz) (.slice a5 zs.length c5)
                      refine hK.out _ _ N (fun hHeld => ?_)
                      clear hK K
                      try simp only [Act.put, sA, sB, sC]
                      refine wpAnyH_ready (rs := [12]) (by kernel_rfl) (by simp) (AllReadyH.cons (gt rfl) (fun K hK => ?_) AllReadyH.nil)
                      have z0 := kQ.c0
                      have z1 := kQ.c1
                      have zf := kQ.fr
                      go_simp
                      clear z0 z1 zf
                      replace N := Box2.chain N kQ (.bool gy) (.slice a6 ts.length c6)
                      replace kP := kP.old ne_kP_kQ (.bool gy) (.slice a6 ts.length c6)
                      replace hoz := hoz.put2 r_kQ_hoz (.bool gy) (.slice a6 ts.length c6)
                      replace hot := hot.put2 r_kQ_hot (.bool gy) (.slice a6 ts.length c6)
                      replace kQ := kQ.put (.bool gy) (.slice a6 ts.length c6)
                      refine hK.out _ _ N (fun hHeld => ?_)
                      clear hK K
                      try simp only [Act.put, sA, sB, sC]
                      refine takeQ (i := 13) (gt rfl) (by kernel_rfl) (fun _ _ _ h => h) (by rfl) (by intro wq _; go_simp <;> with_reducible rfl) (by assumption) ?_
                      try simp only [Act.put, sA, sB, sC]
                      refine wpAnyH_done (by kernel_rfl) ?_ _
                      go_wp2
                      go_meet
                      case rel => exact ⟨_, _, a5, c5, zs, a6, c6, ts, rfl, rfl, rfl, kP, kQ, hoz.base_le bs, hot.base_le bs, HZ, N⟩
                    · skip
                      go_simp
                      have kQ := Box2.new v12 N.size (.bool false) (.slice none 0 0) 26
                      have hb := below1 v12 (.cells #[.bool false, .slice none 0 0] 26)
                      have ne_kQ_kP := Nat.ne_of_gt kP.lt
                      have ne_kP_kQ := ne_kQ_kP.symm
                      replace kP := kP.below hb
                      replace ho3 := ho3.below hb
                      replace ho4 := ho4.below hb
                      replace N := N.trans (hb.mono N.size)
                      clear hb
                      generalize v12.alloc (.cells #[.bool false, .slice none 0 0] 26) = v17 at *
                      refine hK.out _ _ N (fun hHeld => ?_)
                      clear hK K
                      try simp only [Act.put, sA, sB, sC]
                      refine wpAnyH_ready (rs := [4]) (by kernel_rfl) (by simp) (AllReadyH.cons (gt rfl) (fun K hK => ?_) AllReadyH.nil)
                      go_simp
                      refine (implDivMod g g' aa ab ca cb xs ys _ ho3.toSees ho4.toSees).mono ?_
                      rintro e v18 ⟨vq, vr, rfl, hI, hb⟩
                      obtain ⟨a5, c5, zs, a6, c6, ts, rfl, rfl, hoz, hot, hnz, hnt, hvz, hvt, _⟩ := hI
                      have HZ : Hid (Lim zs ∧ Nrm zs ∧ val zs = mg (tk g xs / tk g' ys) ∧ Lim ts ∧ Nrm ts ∧ val ts = mg (rz (tk g xs) (tk g' ys))) := ⟨hoz.lim, hnz, hvz, hot.lim, hnt, hvt⟩
                      rw [HG.out, HY.out, HF.out]
                      have bs := Nat.le_trans sz N.size
                      clear hnz hnt hvz hvt
                      have r_kP_hoz := row_ne_low hoz kP.lt
                      have r_kP_hot := row_ne_low hot kP.lt
                      have r_kQ_hoz := row_ne_low hoz kQ.lt
                      have r_kQ_hot := row_ne_low hot kQ.lt
                      replace kP := kP.below hb
                      replace kQ := kQ.below hb
                      replace ho3 := ho3.below hb
                      replace ho4 := ho4.below hb
                      replace N := N.trans (hb.mono N.size)
                      clear hb
                      clear ho3 ho4
                      refine hK.out _ _ N (fun hHeld => ?_)
                      clear hK K
                      try simp only [Act.put, sA, sB, sC]
                      refine takeQ (i := 5) (gt rfl) (by kernel_rfl) (fun _ _ _ h => h) (by rfl) (by intro wq _; go_simp <;> with_reducible rfl) (by assumption) ?_
                      try simp only [Act.put, sA, sB, sC]
                      refine takeQ (i := 6) (gt rfl) (by kernel_rfl) (fun _ _ _ h => h) (by rfl) (by intro wq _; go_simp <;> with_reducible rfl) (by assumption) ?_
                      try simp only [Act.put, sA, sB, sC]
                      refine takeQ (i := 7) (gt rfl) (by kernel_rfl) (fun _ _ _ h => h) (by rfl) (by intro wq _; go_simp <;> with_reducible rfl) (by assumption) ?_
                      try simp only [Act.put, sA, sB, sC]
                      refine takeQ (i := 8) (gt rfl) (by kernel_rfl) (fun _ _ _ h => h) (by rfl) (by intro wq _; go_simp <;> with_reducible rfl) (by assumption) ?_
                      try simp only [Act.put, sA, sB, sC]
                      refine wpAnyH_ready (rs := [11]) (by kernel_rfl) (by simp) (AllReadyH.cons (gt rfl) (fun K hK => ?_) AllReadyH.nil)
                      have z0 := kP.c0
                      have z1 := kP.c1
                      have zf := kP.fr
                      go_simp
                      clear z0 z1 zf
                      replace N := Box2.chain N kP (.bool gz) (.slice a5 zs.length c5)
                      replace kQ := kQ.old ne_kQ_kP (.bool gz) (.slice a5 zs.length c5)
                      replace hoz := hoz.put2 r_kP_hoz (.bool gz) (.slice a5 zs.length c5)
                      replace hot := hot.put2 r_kP_hot (.bool gz) (.slice a5 zs.length c5)
                      replace kP := kP.put (.bool gz) (.slice a5 zs.length c5)
                      refine hK.out _ _ N (fun hHeld => ?_)
                      clear hK K
                      try simp only [Act.put, sA, sB, sC]
                      refine wpAnyH_ready (rs := [12]) (by kernel_rfl) (by simp) (AllReadyH.cons (gt rfl) (fun K hK => ?_) AllReadyH.nil)
                      have z0 := kQ.c0
                      have z1 := kQ.c1
                      have zf := kQ.fr
                      go_simp
                      clear z0 z1 zf
                      replace N := Box2.chain N kQ (.bool gy) (.slice a6 ts.length c6)
                      replace kP := kP.old ne_kP_kQ (.bool gy) (.slice a6 ts.length c6)
                      replace hoz := hoz.put2 r_kQ_hoz (.bool gy) (.slice a6 ts.length c6)
                      replace hot := hot.put2 r_kQ_hot (.bool gy) (.slice a6 ts.length c6)
                      replace kQ := kQ.put (.bool gy) (.slice a6 ts.length c6)
                      refine hK.out _ _ N (fun hHeld => ?_)
                      clear hK K
                      try simp only [Act.put, sA, sB, sC]
                      refine takeQ (i := 13) (gt rfl) (by kernel_rfl) (fun _ _ _ h => h) (by rfl) (by intro wq _; go_simp <;> with_reducible rfl) (by assumption) ?_
                      try simp only [Act.put, sA, sB, sC]
                      refine wpAnyH_done (by kernel_rfl) ?_ _
                      go_wp2
                      go_meet
                      case rel => exact ⟨_, _, a5, c5, zs, a6, c6, ts, rfl, rfl, rfl, kP, kQ, hoz.base_le bs, hot.base_le bs, HZ, N⟩
                · as_aux_lemma =>
                    go_simp
                    have kQ := Box2.new v2 N.size (.bool false) (.slice none 0 0) 26
                    have hb := below1 v2 (.cells #[.bool false, .slice none 0 0] 26)
                    replace ho3 := ho3.below hb
                    replace ho4 := ho4.below hb
                    replace N := N.trans (hb.mono N.size)
                    clear hb
                    generalize v2.alloc (.cells #[.bool false, .slice none 0 0] 26) = v21 at *
                    refine hK.out _ _ N (fun hHeld => ?_)
                    clear hK K
                    try simp only [Act.put, sA, sB, sC]
                    refine wpAnyH_ready (rs := [4, 9]) (by kernel_rfl) (by simp) (AllReadyH.cons (gt rfl) (fun K hK => ?_) (AllReadyH.cons (gt rfl) (fun K hK => ?_) AllReadyH.nil))
                    · skip
                      go_simp
                      refine (implDivMod g g' aa ab ca cb xs ys _ ho3.toSees ho4.toSees).mono ?_
                      rintro e v22 ⟨vq, vr, rfl, hI, hb⟩
                      obtain ⟨a5, c5, zs, a6, c6, ts, rfl, rfl, hoz, hot, hnz, hnt, hvz, hvt, _⟩ := hI
                      have HZ : Hid (Lim zs ∧ Nrm zs ∧ val zs = mg (tk g xs / tk g' ys) ∧ Lim ts ∧ Nrm ts ∧ val ts = mg (rz (tk g xs) (tk g' ys))) := ⟨hoz.lim, hnz, hvz, hot.lim, hnt, hvt⟩
                      rw [HG.out, HY.out, HF.out]
                      have bs := Nat.le_trans sz N.size
                      clear hnz hnt hvz hvt
                      have r_kQ_hoz := row_ne_low hoz kQ.lt
                      have r_kQ_hot := row_ne_low hot kQ.lt
                      replace kQ := kQ.below hb
                      replace ho3 := ho3.below hb
                      replace ho4 := ho4.below hb
                      replace N := N.trans (hb.mono N.size)
                      clear hb
                      clear ho3 ho4
                      refine hK.out _ _ N (fun hHeld => ?_)
                      clear hK K
                      try simp only [Act.put, sA, sB, sC]
                      refine takeQ (i := 5) (gt rfl) (by kernel_rfl) (fun _ _ _ h => h) (by rfl) (by intro wq _; go_simp <;> with_reducible rfl) (by assumption) ?_
                      try simp only [Act.put, sA, sB, sC]
                      refine takeQ (i := 6) (gt rfl) (by kernel_rfl) (fun _ _ _ h => h) (by rfl) (by intro wq _; go_simp <;> with_reducible rfl) (by assumption) ?_
                      try simp only [Act.put, sA, sB, sC]
                      refine takeQ (i := 7) (gt rfl) (by kernel_rfl) (fun _ _ _ h => h) (by rfl) (by intro wq _; go_simp <;> with_reducible rfl) (by assumption) ?_
                      try simp only [Act.put, sA, sB, sC]
                      refine takeQ (i := 8) (gt rfl) (by kernel_rfl) (fun _ _ _ h => h) (by rfl) (by intro wq _; go_simp <;> with_reducible rfl) (by assumption) ?_
                      try simp only [Act.put, sA, sB, sC]
                      refine wpAnyH_ready (rs := [9]) (by kernel_rfl) (by simp) (AllReadyH.cons (gt rfl) (fun K hK => ?_) AllReadyH.nil)
                      go_simp
                      have kP := Box2.new v22 N.size (.bool false) (.slice none 0 0) 26
                      have hb := below1 v22 (.cells #[.bool false, .slice none 0 0] 26)
                      have r_kP_hoz := row_ne_high hoz.toCame (Nat.le_refl _)
                      have r_kP_hot := row_ne_high hot.toCame (Nat.le_refl _)
                      have ne_kP_kQ := Nat.ne_of_gt kQ.lt
                      have ne_kQ_kP := ne_kP_kQ.symm
                      replace kQ := kQ.below hb
                      replace hoz := hoz.below hb
                      replace hot := hot.below hb
                      replace N := N.trans (hb.mono N.size)
                      clear hb
                      generalize v22.alloc (.cells #[.bool false, .slice none 0 0] 26) = v23 at *
                      refine hK.out _ _ N (fun hHeld => ?_)
                      clear hK K
                      try simp only [Act.put, sA, sB, sC]
                      refine wpAnyH_ready (rs := [11]) (by kernel_rfl) (by simp) (AllReadyH.cons (gt rfl) (fun K hK => ?_) AllReadyH.nil)
                      have z0 := kP.c0
                      have z1 := kP.c1
                      have zf := kP.fr
                      go_simp
                      clear z0 z1 zf
                      replace N := Box2.chain N kP (.bool gz) (.slice a5 zs.length c5)
                      replace kQ := kQ.old ne_kQ_kP (.bool gz) (.slice a5 zs.length c5)
                      replace hoz := hoz.put2 r_kP_hoz (.bool gz) (.slice a5 zs.length c5)
                      replace hot := hot.put2 r_kP_hot (.bool gz) (.slice a5 zs.length c5)
                      replace kP := kP.put (.bool gz) (.slice a5 zs.length c5)
                      refine hK.out _ _ N (fun hHeld => ?_)
                      clear hK K
                      try simp only [Act.put, sA, sB, sC]
                      refine wpAnyH_ready (rs := [12]) (by kernel_rfl) (by simp) (AllReadyH.cons (gt rfl) (fun K hK => ?_) AllReadyH.nil)
                      have z0 := kQ.c0
                      have z1 := kQ.c1
                      have zf := kQ.fr
                      go_simp
                      clear z0 z1 zf
                      replace N := Box2.chain N kQ (.bool gy) (.slice a6 ts.length c6)
                      replace kP := kP.old ne_kP_kQ (.bool gy) (.slice a6 ts.length c6)
                      replace hoz := hoz.put2 r_kQ_hoz (.bool gy) (.slice a6 ts.length c6)
                      replace hot := hot.put2 r_kQ_hot (.bool gy) (.slice a6 ts.length c6)
                      replace kQ := kQ.put (.bool gy) (.slice a6 ts.length c6)
                      refine hK.out _ _ N (fun hHeld => ?_)
                      clear hK K
                      try simp only [Act.put, sA, sB, sC]
                      refine takeQ (i := 13) (gt rfl) (by kernel_rfl) (fun _ _ _ h => h) (by rfl) (by intro wq _; go_simp <;> with_reducible rfl) (by assumption) ?_
                      try simp only [Act.put, sA, sB, sC]
                      refine wpAnyH_done (by kernel_rfl) ?_ _
                      go_wp2
                      go_meet
                      case rel => exact ⟨_, _, a5, c5, zs, a6, c6, ts, rfl, rfl, rfl, kP, kQ, hoz.base_le bs, hot.base_le bs, HZ, N⟩
                    · skip
                      go_simp
                      have kP := Box2.new v21 N.size (.bool false) (.slice none 0 0) 26
                      have hb := below1 v21 (.cells #[.bool false, .slice none 0 0] 26)
                      have ne_kP_kQ := Nat.ne_of_gt kQ.lt
                      have ne_kQ_kP := ne_kP_kQ.symm
                      replace kQ := kQ.below hb
                      replace ho3 := ho3.below hb
                      replace ho4 := ho4.below hb
                      replace N := N.trans (hb.mono N.size)
                      clear hb
                      generalize v21.alloc (.cells #[.bool false, .slice none 0 0] 26) = v26 at *
                      refine hK.out _ _ N (fun hHeld => ?_)
                      clear hK K
                      try simp only [Act.put, sA, sB, sC]
                      refine wpAnyH_ready (rs := [4]) (by kernel_rfl) (by simp) (AllReadyH.cons (gt rfl) (fun K hK => ?_) AllReadyH.nil)
                      go_simp
                      refine (implDivMod g g' aa ab ca cb xs ys _ ho3.toSees ho4.toSees).mono ?_
                      rintro e v27 ⟨vq, vr, rfl, hI, hb⟩
                      obtain ⟨a5, c5, zs, a6, c6, ts, rfl, rfl, hoz, hot, hnz, hnt, hvz, hvt, _⟩ := hI
                      have HZ : Hid (Lim zs ∧ Nrm zs ∧ val zs = mg (tk g xs / tk g' ys) ∧ Lim ts ∧ Nrm ts ∧ val ts = mg (rz (tk g xs) (tk g' ys))) := ⟨hoz.lim, hnz, hvz, hot.lim, hnt, hvt⟩
                      rw [HG.out, HY.out, HF.out]
                      have bs := Nat.le_trans sz N.size
                      clear hnz hnt hvz hvt
                      have r_kQ_hoz := row_ne_low hoz kQ.lt
                      have r_kQ_hot := row_ne_low hot kQ.lt
                      have r_kP_hoz := row_ne_low hoz kP.lt
                      have r_kP_hot := row_ne_low hot kP.lt
                      replace kQ := kQ.below hb
                      replace kP := kP.below hb
                      replace ho3 := ho3.below hb
                      replace ho4 := ho4.below hb
                      replace N := N.trans (hb.mono N.size)
                      clear hb
                      clear ho3 ho4
                      refine hK.out _ _ N (fun hHeld => ?_)
                      clear hK K
                      try simp only [Act.put, sA, sB, sC]
                      refine takeQ (i := 5) (gt rfl) (by kernel_rfl) (fun _ _ _ h => h) (by rfl) (by intro wq _; go_simp <;> with_reducible rfl) (by assumption) ?_
                      try simp only [Act.put, sA, sB, sC]
                      refine takeQ (i := 6) (gt rfl) (by kernel_rfl) (fun _ _ _ h => h) (by rfl) (by intro wq _; go_simp <;> with_reducible rfl) (by assumption) ?_
                      try simp only [Act.put, sA, sB, sC]
                      refine takeQ (i := 7) (gt rfl) (by kernel_rfl) (fun _ _ _ h => h) (by rfl) (by intro wq _; go_simp <;> with_reducible rfl) (by assumption) ?_
                      try simp only [Act.put, sA, sB, sC]
                      refine takeQ (i := 8) (gt rfl) (by kernel_rfl) (fun _ _ _ h => h) (by rfl) (by intro wq _; go_simp <;> with_reducible rfl) (by assumption) ?_
                      try simp only [Act.put, sA, sB, sC]
                      refine wpAnyH_ready (rs := [11]) (by kernel_rfl) (by simp) (AllReadyH.cons (gt rfl) (fun K hK => ?_) AllReadyH.nil)
                      have z0 := kP.c0
                      have z1 := kP.c1
                      have zf := kP.fr
                      go_simp
                      clear z0 z1 zf
                      replace N := Box2.chain N kP (.bool gz) (.slice a5 zs.length c5)
                      replace kQ := kQ.old ne_kQ_kP (.bool gz) (.slice a5 zs.length c5)
                      replace hoz := hoz.put2 r_kP_hoz (.bool gz) (.slice a5 zs.length c5)
                      replace hot := hot.put2 r_kP_hot (.bool gz) (.slice a5 zs.length c5)
                      replace kP := kP.put (.bool gz) (.slice a5 zs.length c5)
                      refine hK.out _ _ N (fun hHeld => ?_)
                      clear hK K
                      try simp only [Act.put, sA, sB, sC]
                      refine wpAnyH_ready (rs := [12]) (by kernel_rfl) (by simp) (AllReadyH.cons (gt rfl) (fun K hK => ?_) AllReadyH.nil)
                      have z0 := kQ.c0
                      have z1 := kQ.c1
                      have zf := kQ.fr
                      go_simp
                      clear z0 z1 zf
                      replace N := Box2.chain N kQ (.bool gy) (.slice a6 ts.length c6)
                      replace kP := kP.old ne_kP_kQ (.bool gy) (.slice a6 ts.length c6)
                      replace hoz := hoz.put2 r_kQ_hoz (.bool gy) (.slice a6 ts.length c6)
                      replace hot := hot.put2 r_kQ_hot (.bool gy) (.slice a6 ts.length c6)
                      replace kQ := kQ.put (.bool gy) (.slice a6 ts.length c6)
                      refine hK.out _ _ N (fun hHeld => ?_)
                      clear hK K
                      try simp only [Act.put, sA, sB, sC]
                      refine takeQ (i := 13) (gt rfl) (by kernel_rfl) (fun _ _ _ h => h) (by rfl) (by intro wq _; go_simp <;> with_reducible rfl) (by assumption) ?_
                      try simp only [Act.put, sA, sB, sC]
                      refine wpAnyH_done (by kernel_rfl) ?_ _
                      go_wp2
                      go_meet
                      case rel => exact ⟨_, _, a5, c5, zs, a6, c6, ts, rfl, rfl, rfl, kP, kQ, hoz.base_le bs, hot.base_le bs, HZ, N⟩
            · as_aux_lemma =>
                go_simp
                have kP := Box2.new v1 N.size (.bool false) (.slice none 0 0) 26
                have hb := below1 v1 (.cells #[.bool false, .slice none 0 0] 26)
                replace ho3 := ho3.below hb
                replace N := N.trans (hb.mono N.size)
                clear hb
                generalize v1.alloc (.cells #[.bool false, .slice none 0 0] 26) = v30 at *
                refine hK.out _ _ N (fun hHeld => ?_)
                clear hK K
                try simp only [Act.put, sA, sB, sC]
                refine wpAnyH_ready (rs := [3, 10]) (by kernel_rfl) (by simp) (AllReadyH.cons (gt rfl) (fun K hK => ?_) (AllReadyH.cons (gt rfl) (fun K hK => ?_) AllReadyH.nil))
                · skip
                  go_simp
                  refine (toN g' a' c' ys _ (hB.below N) ks).mono ?_
                  rintro e v31 ⟨ab, cb, rfl, ho4, hb⟩
                  replace kP := kP.below hb
                  replace ho3 := ho3.below hb
                  replace N := N.trans (hb.mono N.size)
                  clear hb
                  refine hK.out _ _ N (fun hHeld => ?_)
                  clear hK K
                  try simp only [Act.put, sA, sB, sC]
                  refine wpAnyH_ready (rs := [4, 10]) (by kernel_rfl) (by simp) (AllReadyH.cons (gt rfl) (fun K hK => ?_) (AllReadyH.cons (gt rfl) (fun K hK => ?_) AllReadyH.nil))
                  · skip
                    go_simp
                    refine (implDivMod g g' aa ab ca cb xs ys _ ho3.toSees ho4.toSees).mono ?_
                    rintro e v32 ⟨vq, vr, rfl, hI, hb⟩
                    obtain ⟨a5, c5, zs, a6, c6, ts, rfl, rfl, hoz, hot, hnz, hnt, hvz, hvt, _⟩ := hI
                    have HZ : Hid (Lim zs ∧ Nrm zs ∧ val zs = mg (tk g xs / tk g' ys) ∧ Lim ts ∧ Nrm ts ∧ val ts = mg (rz (tk g xs) (tk g' ys))) := ⟨hoz.lim, hnz, hvz, hot.lim, hnt, hvt⟩
                    rw [HG.out, HY.out, HF.out]
                    have bs := Nat.le_trans sz N.size
                    clear hnz hnt hvz hvt
                    have r_kP_hoz := row_ne_low hoz kP.lt
                    have r_kP_hot := row_ne_low hot kP.lt
                    replace kP := kP.below hb
                    replace ho3 := ho3.below hb
                    replace ho4 := ho4.below hb
                    replace N := N.trans (hb.mono N.size)
                    clear hb
                    clear ho3 ho4
                    refine hK.out _ _ N (fun hHeld => ?_)
                    clear hK K
                    try simp only [Act.put, sA, sB, sC]
                    refine takeQ (i := 5) (gt rfl) (by kernel_rfl) (fun _ _ _ h => h) (by rfl) (by intro wq _; go_simp <;> with_reducible rfl) (by assumption) ?_
                    try simp only [Act.put, sA, sB, sC]
                    refine takeQ (i := 6) (gt rfl) (by kernel_rfl) (fun _ _ _ h => h) (by rfl) (by intro wq _; go_simp <;> with_reducible rfl) (by assumption) ?_
                    try simp only [Act.put, sA, sB, sC]
                    refine takeQ (i := 7) (gt rfl) (by kernel_rfl) (fun _ _ _ h => h) (by rfl) (by intro wq _; go_simp <;> with_reducible rfl) (by assumption) ?_
                    try simp only [Act.put, sA, sB, sC]
                    refine takeQ (i := 8) (gt rfl) (by kernel_rfl) (fun _ _ _ h => h) (by rfl) (by intro wq _; go_simp <;> with_reducible rfl) (by assumption) ?_
                    try simp only [Act.put, sA, sB, sC]
                    refine wpAnyH_ready (rs := [10]) (by kernel_rfl) (by simp) (AllReadyH.cons (gt rfl) (fun K hK => ?_) AllReadyH.nil)
                    go_simp
                    have kQ := Box2.new v32 N.size (.bool false) (.slice none 0 0) 26
                    have hb := below1 v32 (.cells #[.bool false, .slice none 0 0] 26)
                    have r_kQ_hoz := row_ne_high hoz.toCame (Nat.le_refl _)
                    have r_kQ_hot := row_ne_high hot.toCame (Nat.le_refl _)
                    have ne_kQ_kP := Nat.ne_of_gt kP.lt
                    have ne_kP_kQ := ne_kQ_kP.symm
                    replace kP := kP.below hb
                    replace hoz := hoz.below hb
                    replace hot := hot.below hb
                    replace N := N.trans (hb.mono N.size)
                    clear hb
                    generalize v32.alloc (.cells #[.bool false, .slice none 0 0] 26) = v33 at *
                    refine hK.out _ _ N (fun hHeld => ?_)
                    clear hK K
                    try simp only [Act.put, sA, sB, sC]
                    refine wpAnyH_ready (rs := [11]) (by kernel_rfl) (by simp) (AllReadyH.cons (gt rfl) (fun K hK => ?_) AllReadyH.nil)
                    have z0 := kP.c0
                    have z1 := kP.c1
                    have zf := kP.fr
                    go_simp
                    clear z0 z1 zf
                    replace N := Box2.chain N kP (.bool gz) (.slice a5 zs.length c5)
                    replace kQ := kQ.old ne_kQ_kP (.bool gz) (.slice a5 zs.length c5)
                    replace hoz := hoz.put2 r_kP_hoz (.bool gz) (.slice a5 zs.length c5)
                    replace hot := hot.put2 r_kP_hot (.bool gz) (.slice a5 zs.length c5)
                    replace kP := kP.put (.bool gz) (.slice a5 zs.length c5)
                    refine hK.out _ _ N (fun hHeld => ?_)
                    clear hK K
                    try simp only [Act.put, sA, sB, sC]
                    refine wpAnyH_ready (rs := [12]) (by kernel_rfl) (by simp) (AllReadyH.cons (gt rfl) (fun K hK => ?_) AllReadyH.nil)
                    have z0 := kQ.c0
                    have z1 := kQ.c1
                    have zf := kQ.fr
                    go_simp
                    clear z0 z1 zf
                    replace N := Box2.chain N kQ (.bool gy) (.slice a6 ts.length c6)
                    replace kP := kP.old ne_kP_kQ (.bool gy) (.slice a6 ts.length c6)
                    replace hoz := hoz.put2 r_kQ_hoz (.bool gy) (.slice a6 ts.length c6)
                    replace hot := hot.put2 r_kQ_hot (.bool gy) (.slice a6 ts.length c6)
                    replace kQ := kQ.put (.bool gy) (.slice a6 ts.length c6)
                    refine hK.out _ _ N (fun hHeld => ?_)
                    clear hK K
                    try simp only [Act.put, sA, sB, sC]
                    refine takeQ (i := 13) (gt rfl) (by kernel_rfl) (fun _ _ _ h => h) (by rfl) (by intro wq _; go_simp <;> with_reducible rfl) (by assumption) ?_
                    try simp only [Act.put, sA, sB, sC]
                    refine wpAnyH_done (by kernel_rfl) ?_ _
                    go_wp2
                    go_meet
                    case rel => exact ⟨_, _, a5, c5, zs, a6, c6, ts, rfl, rfl, rfl, kP, kQ, hoz.base_le bs, hot.base_le bs, HZ, N⟩
                  · skip
                    go_simp
                    have kQ := Box2.new v31 N.size (.bool false) (.slice none 0 0) 26
                    have hb := below1 v31 (.cells #[.bool false, .slice none 0 0] 26)
                    have ne_kQ_kP := Nat.ne_of_gt kP.lt
                    have ne_kP_kQ := ne_kQ_kP.symm
                    replace kP := kP.below hb
                    replace ho3 := ho3.below hb
                    replace ho4 := ho4.below hb
                    replace N := N.trans (hb.mono N.size)
                    clear hb
                    generalize v31.alloc (.cells #[.bool false, .slice none 0 0] 26) = v36 at *
                    refine hK.out _ _ N (fun hHeld => ?_)
                    clear hK K
                    try simp only [Act.put, sA, sB, sC]
                    refine wpAnyH_ready (rs := [4]) (by kernel_rfl) (by simp) (AllReadyH.cons (gt rfl) (fun K hK => ?_) AllReadyH.nil)
                    go_simp
                    refine (implDivMod g g' aa ab ca cb xs ys _ ho3.toSees ho4.toSees).mono ?_
                    rintro e v37 ⟨vq, vr, rfl, hI, hb⟩
                    obtain ⟨a5, c5, zs, a6, c6, ts, rfl, rfl, hoz, hot, hnz, hnt, hvz, hvt, _⟩ := hI
                    have HZ : Hid (Lim zs ∧ Nrm zs ∧ val zs = mg (tk g xs / tk g' ys) ∧ Lim ts ∧ Nrm ts ∧ val ts = mg (rz (tk g xs) (tk g' ys))) := ⟨hoz.lim, hnz, hvz, hot.lim, hnt, hvt⟩
                    rw [HG.out, HY.out, HF.out]
                    have bs := Nat.le_trans sz N.size
                    clear hnz hnt hvz hvt
                    have r_kP_hoz := row_ne_low hoz kP.lt
                    have r_kP_hot := row_ne_low hot kP.lt
                    have r_kQ_hoz := row_ne_low hoz kQ.lt
                    have r_kQ_hot := row_ne_low hot kQ.lt
                    replace kP := kP.below hb
                    replace kQ := kQ.below hb
                    replace ho3 := ho3.below hb
                    replace ho4 := ho4.below hb
                    replace N := N.trans (hb.mono N.size)
                    clear hb
                    clear ho3 ho4
                    refine hK.out _ _ N (fun hHeld => ?_)
                    clear hK K
                    try simp only [Act.put, sA, sB, sC]
                    refine takeQ (i := 5) (gt rfl) (by kernel_rfl) (fun _ _ _ h => h) (by rfl) (by intro wq _; go_simp <;> with_reducible rfl) (by assumption) ?_
                    try simp only [Act.put, sA, sB, sC]
                    refine takeQ (i := 6) (gt rfl) (by kernel_rfl) (fun _ _ _ h => h) (by rfl) (by intro wq _; go_simp <;> with_reducible rfl) (by assumption) ?_
                    try simp only [Act.put, sA, sB, sC]
                    refine takeQ (i := 7) (gt rfl) (by kernel_rfl) (fun _ _ _ h => h) (by rfl) (by intro wq _; go_simp <;> with_reducible rfl) (by assumption) ?_
                    try simp only [Act.put, sA, sB, sC]
                    refine takeQ (i := 8) (gt rfl) (by kernel_rfl) (fun _ _ _ h => h) (by rfl) (by intro wq _; go_simp <;> with_reducible rfl) (by assumption) ?_
                    try simp only [Act.put, sA, sB, sC]
                    refine wpAnyH_ready (rs := [11]) (by kernel_rfl) (by simp) (AllReadyH.cons (gt rfl) (fun K hK => ?_) AllReadyH.nil)
                    have z0 := kP.c0
                    have z1 := kP.c1
                    have zf := kP.fr
                    go_simp
                    clear z0 z1 zf
                    replace N := Box2.chain N kP (.bool gz) (.slice a5 zs.length c5)
                    replace kQ := kQ.old ne_kQ_kP (.bool gz) (.slice a5 zs.length c5)
                    replace hoz := hoz.put2 r_kP_hoz (.bool gz) (.slice a5 zs.length c5)
                    replace hot := hot.put2 r_kP_hot (.bool gz) (.slice a5 zs.length c5)
                    replace kP := kP.put (.bool gz) (.slice a5 zs.length c5)
                    refine hK.out _ _ N (fun hHeld => ?_)
                    clear hK K
                    try simp only [Act.put, sA, sB, sC]
                    refine wpAnyH_ready (rs := [12]) (by kernel_rfl) (by simp) (AllReadyH.cons (gt rfl) (fun K hK => ?_) AllReadyH.nil)
                    have z0 := kQ.c0
                    have z1 := kQ.c1
                    have zf := kQ.fr
                    go_simp
                    clear z0 z1 zf
                    replace N := Box2.chain N kQ (.bool gy) (.slice a6 ts.length c6)
                    replace kP := kP.old ne_kP_kQ (.bool gy) (.slice a6 ts.length c6)
                    replace hoz := hoz.put2 r_kQ_hoz (.bool gy) (.slice a6 ts.length c6)
                    replace hot := hot.put2 r_kQ_hot (.bool gy) (.slice a6 ts.length c6)
                    replace kQ := kQ.put (.bool gy) (.slice a6 ts.length c6)
                    refine hK.out _ _ N (fun hHeld => ?_)
                    clear hK K
                    try simp only [Act.put, sA, sB, sC]
                    refine takeQ (i := 13) (gt rfl) (by kernel_rfl) (fun _ _ _ h => h) (by rfl) (by intro wq _; go_simp <;> with_reducible rfl) (by assumption) ?_
                    try simp only [Act.put, sA, sB, sC]
                    refine wpAnyH_done (by kernel_rfl) ?_ _
                    go_wp2
                    go_meet
                    case rel => exact ⟨_, _, a5, c5, zs, a6, c6, ts, rfl, rfl, rfl, kP, kQ, hoz.base_le bs, hot.base_le bs, HZ, N⟩
                · skip
                  go_simp
                  have kQ := Box2.new v30 N.size (.bool false) (.slice none 0 0) 26
                  have hb := below1 v30 (.cells #[.bool false, .slice none 0 0] 26)
                  have ne_kQ_kP := Nat.ne_of_gt kP.lt
                  have ne_kP_kQ := ne_kQ_kP.symm
                  replace kP := kP.below hb
                  replace ho3 := ho3.below hb
                  replace N := N.trans (hb.mono N.size)
                  clear hb
                  generalize v30.alloc (.cells #[.bool false, .slice none 0 0] 26) = v40 at *
                  refine hK.out _ _ N (fun hHeld => ?_)
                  clear hK K
                  try simp only [Act.put, sA, sB, sC]
                  refine wpAnyH_ready (rs := [3]) (by kernel_rfl) (by simp) (AllReadyH.cons (gt rfl) (fun K hK => ?_) AllReadyH.nil)
                  go_simp
                  refine (toN g' a' c' ys _ (hB.below N) ks).mono ?_
                  rintro e v41 ⟨ab, cb, rfl, ho4, hb⟩
                  replace kP := kP.below hb
                  replace kQ := kQ.below hb
                  replace ho3 := ho3.below hb
                  replace N := N.trans (hb.mono N.size)
                  clear hb
                  refine hK.out _ _ N (fun hHeld => ?_)
                  clear hK K
                  try simp only [Act.put, sA, sB, sC]
                  refine wpAnyH_ready (rs := [4]) (by kernel_rfl) (by simp) (AllReadyH.cons (gt rfl) (fun K hK => ?_) AllReadyH.nil)
                  go_simp
                  refine (implDivMod g g' aa ab ca cb xs ys _ ho3.toSees ho4.toSees).mono ?_
                  rintro e v42 ⟨vq, vr, rfl, hI, hb⟩
                  obtain ⟨a5, c5, zs, a6, c6, ts, rfl, rfl, hoz, hot, hnz, hnt, hvz, hvt, _⟩ := hI
                  have HZ : Hid (Lim zs ∧ Nrm zs ∧ val zs = mg (tk g xs / tk g' ys) ∧ Lim ts ∧ Nrm ts ∧ val ts = mg (rz (tk g xs) (tk g' ys))) := ⟨hoz.lim, hnz, hvz, hot.lim, hnt, hvt⟩
                  rw [HG.out, HY.out, HF.out]
                  have bs := Nat.le_trans sz N.size
                  clear hnz hnt hvz hvt
                  have r_kP_hoz := row_ne_low hoz kP.lt
                  have r_kP_hot := row_ne_low hot kP.lt
                  have r_kQ_hoz := row_ne_low hoz kQ.lt
                  have r_kQ_hot := row_ne_low hot kQ.lt
                  replace kP := kP.below hb
                  replace kQ := kQ.below hb
                  replace ho3 := ho3.below hb
                  replace ho4 := ho4.below hb
                  replace N := N.trans (hb.mono N.size)
                  clear hb
                  clear ho3 ho4
                  refine hK.out _ _ N (fun hHeld => ?_)
                  clear hK K
                  try simp only [Act.put, sA, sB, sC]
                  refine takeQ (i := 5) (gt rfl) (by kernel_rfl) (fun _ _ _ h => h) (by rfl) (by intro wq _; go_simp <;> with_reducible rfl) (by assumption) ?_
                  try simp only [Act.put, sA, sB, sC]
                  refine takeQ (i := 6) (gt rfl) (by kernel_rfl) (fun _ _ _ h => h) (by rfl) (by intro wq _; go_simp <;> with_reducible rfl) (by assumption) ?_
                  try simp only [Act.put, sA, sB, sC]
                  refine takeQ (i := 7) (gt rfl) (by kernel_rfl) (fun _ _ _ h => h) (by rfl) (by intro wq _; go_simp <;> with_reducible rfl) (by assumption) ?_
                  try simp only [Act.put, sA, sB, sC]
                  refine takeQ (i := 8) (gt rfl) (by kernel_rfl) (fun _ _ _ h => h) (by rfl) (by intro wq _; go_simp <;> with_reducible rfl) (by assumption) ?_
                  try simp only [Act.put, sA, sB, sC]
                  refine wpAnyH_ready (rs := [11]) (by kernel_rfl) (by simp) (AllReadyH.cons (gt rfl) (fun K hK => ?_) AllReadyH.nil)
                  have z0 := kP.c0
                  have z1 := kP.c1
                  have zf := kP.fr
                  go_simp
                  clear z0 z1 zf
                  replace N := Box2.chain N kP (.bool gz) (.slice a5 zs.length c5)
                  replace kQ := kQ.old ne_kQ_kP (.bool gz) (.slice a5 zs.length c5)
                  replace hoz := hoz.put2 r_kP_hoz (.bool gz) (.slice a5 zs.length c5)
                  replace hot := hot.put2 r_kP_hot (.bool gz) (.slice a5 zs.length c5)
                  replace kP := kP.put (.bool gz) (.slice a5 zs.length c5)
                  refine hK.out _ _ N (fun hHeld => ?_)
                  clear hK K
                  try simp only [Act.put, sA, sB, sC]
                  refine wpAnyH_ready (rs := [12]) (by kernel_rfl) (by simp) (AllReadyH.cons (gt rfl) (fun K hK => ?_) AllReadyH.nil)
                  have z0 := kQ.c0
                  have z1 := kQ.c1
                  have zf := kQ.fr
                  go_simp
                  clear z0 z1 zf
                  replace N := Box2.chain N kQ (.bool gy) (.slice a6 ts.length c6)
                  replace kP := kP.old ne_kP_kQ (.bool gy) (.slice a6 ts.length c6)
                  replace hoz := hoz.put2 r_kQ_hoz (.bool gy) (.slice a6 ts.length c6)
                  replace hot := hot.put2 r_kQ_hot (.bool gy) (.slice a6 ts.length c6)
                  replace kQ := kQ.put (.bool gy) (.slice a6 ts.length c6)
                  refine hK.out _ _ N (fun hHeld => ?_)
                  clear hK K
                  try simp only [Act.put, sA, sB, sC]
                  refine takeQ (i := 13) (gt rfl) (by kernel_rfl) (fun _ _ _ h => h) (by rfl) (by intro wq _; go_simp <;> with_reducible rfl) (by assumption) ?_
                  try simp only [Act.put, sA, sB, sC]
                  refine wpAnyH_done (by kernel_rfl) ?_ _
                  go_wp2
                  go_meet
                  case rel => exact ⟨_, _, a5, c5, zs, a6, c6, ts, rfl, rfl, rfl, kP, kQ, hoz.base_le bs, hot.base_le bs, HZ, N⟩
            · as_aux_lemma =>
                go_simp
                have kQ := Box2.new v1 N.size (.bool false) (.slice none 0 0) 26
                have hb := below1 v1 (.cells #[.bool false, .slice none 0 0] 26)
                replace ho3 := ho3.below hb
                replace N := N.trans (hb.mono N.size)
                clear hb
                generalize v1.alloc (.cells #[.bool false, .slice none 0 0] 26) = v45 at *
                refine hK.out _ _ N (fun hHeld => ?_)
                clear hK K
                try simp only [Act.put, sA, sB, sC]
                refine wpAnyH_ready (rs := [3, 9]) (by kernel_rfl) (by simp) (AllReadyH.cons (gt rfl) (fun K hK => ?_) (AllReadyH.cons (gt rfl) (fun K hK => ?_) AllReadyH.nil))
                · skip
                  go_simp
                  refine (toN g' a' c' ys _ (hB.below N) ks).mono ?_
                  rintro e v46 ⟨ab, cb, rfl, ho4, hb⟩
                  replace kQ := kQ.below hb
                  replace ho3 := ho3.below hb
                  replace N := N.trans (hb.mono N.size)
                  clear hb
                  refine hK.out _ _ N (fun hHeld => ?_)
                  clear hK K
                  try simp only [Act.put, sA, sB, sC]
                  refine wpAnyH_ready (rs := [4, 9]) (by kernel_rfl) (by simp) (AllReadyH.cons (gt rfl) (fun K hK => ?_) (AllReadyH.cons (gt rfl) (fun K hK => ?_) AllReadyH.nil))
                  · skip
                    go_simp
                    refine (implDivMod g g' aa ab ca cb xs ys _ ho3.toSees ho4.toSees).mono ?_
                    rintro e v47 ⟨vq, vr, rfl, hI, hb⟩
                    obtain ⟨a5, c5, zs, a6, c6, ts, rfl, rfl, hoz, hot, hnz, hnt, hvz, hvt, _⟩ := hI
                    have HZ : Hid (Lim zs ∧ Nrm zs ∧ val zs = mg (tk g xs / tk g' ys) ∧ Lim ts ∧ Nrm ts ∧ val ts = mg (rz (tk g xs) (tk g' ys))) := ⟨hoz.lim, hnz, hvz, hot.lim, hnt, hvt⟩
                    rw [HG.out, HY.out, HF.out]
                    have bs := Nat.le_trans sz N.size
                    clear hnz hnt hvz hvt
                    have r_kQ_hoz := row_ne_low hoz kQ.lt
                    have r_kQ_hot := row_ne_low hot kQ.lt
                    replace kQ := kQ.below hb
                    replace ho3 := ho3.below hb
                    replace ho4 := ho4.below hb
                    replace N := N.trans (hb.mono N.size)
                    clear hb
                    clear ho3 ho4
                    refine hK.out _ _ N (fun hHeld => ?_)
                    clear hK K
                    try simp only [Act.put, sA, sB, sC]
                    refine takeQ (i := 5) (gt rfl) (by kernel_rfl) (fun _ _ _ h => h) (by rfl) (by intro wq _; go_simp <;> with_reducible rfl) (by assumption) ?_
                    try simp only [Act.put, sA, sB, sC]
                    refine takeQ (i := 6) (gt rfl) (by kernel_rfl) (fun _ _ _ h => h) (by rfl) (by intro wq _; go_simp <;> with_reducible rfl) (by assumption) ?_
                    try simp only [Act.put, sA, sB, sC]
                    refine takeQ (i := 7) (gt rfl) (by kernel_rfl) (fun _ _ _ h => h) (by rfl) (by intro wq _; go_simp <;> with_reducible rfl) (by assumption) ?_
                    try simp only [Act.put, sA, sB, sC]
                    refine takeQ (i := 8) (gt rfl) (by kernel_rfl) (fun _ _ _ h => h) (by rfl) (by intro wq _; go_simp <;> with_reducible rfl) (by assumption) ?_
                    try simp only [Act.put, sA, sB, sC]
                    refine wpAnyH_ready (rs := [9]) (by kernel_rfl) (by simp) (AllReadyH.cons (gt rfl) (fun K hK => ?_) AllReadyH.nil)
                    go_simp
                    have kP := Box2.new v47 N.size (.bool false) (.slice none 0 0) 26
                    have hb := below1 v47 (.cells #[.bool false, .slice none 0 0] 26)
                    have r_kP_hoz := row_ne_high hoz.toCame (Nat.le_refl _)
                    have r_kP_hot := row_ne_high hot.toCame (Nat.le_refl _)
                    have ne_kP_kQ := Nat.ne_of_gt kQ.lt
                    have ne_kQ_kP := ne_kP_kQ.symm
                    replace kQ := kQ.below hb
                    replace hoz := hoz.below hb
                    replace hot := hot.below hb
                    replace N := N.trans (hb.mono N.size)
                    clear hb
                    generalize v47.alloc (.cells #[.bool false, .slice none 0 0] 26) = v48 at *
                    refine hK.out _ _ N (fun hHeld => ?_)
                    clear hK K
                    try simp only [Act.put, sA, sB, sC]
                    refine wpAnyH_ready (rs := [11]) (by kernel_rfl) (by simp) (AllReadyH.cons (gt rfl) (fun K hK => ?_) AllReadyH.nil)
                    have z0 := kP.c0
                    have z1 := kP.c1
                    have zf := kP.fr
                    go_simp
                    clear z0 z1 zf
                    replace N := Box2.chain N kP (.bool gz) (.slice a5 zs.length c5)
                    replace kQ := kQ.old ne_kQ_kP (.bool gz) (.slice a5 zs.length c5)
                    replace hoz := hoz.put2 r_kP_hoz (.bool gz) (.slice a5 zs.length c5)
                    replace hot := hot.put2 r_kP_hot (.bool gz) (.slice a5 zs.length c5)
                    replace kP := kP.put (.bool gz) (.slice a5 zs.length c5)
                    refine hK.out _ _ N (fun hHeld => ?_)
                    clear hK K
                    try simp only [Act.put, sA, sB, sC]
                    refine wpAnyH_ready (rs := [12]) (by kernel_rfl) (by simp) (AllReadyH.cons (gt rfl) (fun K hK => ?_) AllReadyH.nil)
                    have z0 := kQ.c0
                    have z1 := kQ.c1
                    have zf := kQ.fr
                    go_simp
                    clear z0 z1 zf
                    replace N := Box2.chain N kQ (.bool gy) (.slice a6 ts.length c6)
                    replace kP := kP.old ne_kP_kQ (.bool gy) (.slice a6 ts.length c6)
                    replace hoz := hoz.put2 r_kQ_hoz (.bool gy) (.slice a6 ts.length c6)
                    replace hot := hot.put2 r_kQ_hot (.bool gy) (.slice a6 ts.length c6)
                    replace kQ := kQ.put (.bool gy) (.slice a6 ts.length c6)
                    refine hK.out _ _ N (fun hHeld => ?_)
                    clear hK K
                    try simp only [Act.put, sA, sB, sC]
                    refine takeQ (i := 13) (gt rfl) (by kernel_rfl) (fun _ _ _ h => h) (by rfl) (by intro wq _; go_simp <;> with_reducible rfl) (by assumption) ?_
                    try simp only [Act.put, sA, sB, sC]
                    refine wpAnyH_done (by kernel_rfl) ?_ _
                    go_wp2
                    go_meet
                    case rel => exact ⟨_, _, a5, c5, zs, a6, c6, ts, rfl, rfl, rfl, kP, kQ, hoz.base_le bs, hot.base_le bs, HZ, N⟩
                  · skip
                    go_simp
                    have kP := Box2.new v46 N.size (.bool false) (.slice none 0 0) 26
                    have hb := below1 v46 (.cells #[.bool false, .slice none 0 0] 26)
                    have ne_kP_kQ := Nat.ne_of_gt kQ.lt
                    have ne_kQ_kP := ne_kP_kQ.symm
                    replace kQ := kQ.below hb
                    replace ho3 := ho3.below hb
                    replace ho4 := ho4.below hb
                    replace N := N.trans (hb.mono N.size)
                    clear hb
                    generalize v46.alloc (.cells #[.bool false, .slice none 0 0] 26) = v51 at *
                    refine hK.out _ _ N (fun hHeld => ?_)
                    clear hK K
                    try simp only [Act.put, sA, sB, sC]
                    refine wpAnyH_ready (rs := [4]) (by kernel_rfl) (by simp) (AllReadyH.cons (gt rfl) (fun K hK => ?_) AllReadyH.nil)
                    go_simp
                    refine (implDivMod g g' aa ab ca cb xs ys _ ho3.toSees ho4.toSees).mono ?_
                    rintro e v52 ⟨vq, vr, rfl, hI, hb⟩
                    obtain ⟨a5, c5, zs, a6, c6, ts, rfl, rfl, hoz, hot, hnz, hnt, hvz, hvt, _⟩ := hI
                    have HZ : Hid (Lim zs ∧ Nrm zs ∧ val zs = mg (tk g xs / tk g' ys) ∧ Lim ts ∧ Nrm ts ∧ val ts = mg (rz (tk g xs) (tk g' ys))) := ⟨hoz.lim, hnz, hvz, hot.lim, hnt, hvt⟩
                    rw [HG.out, HY.out, HF.out]
                    have bs := Nat.le_trans sz N.size
                    clear hnz hnt hvz hvt
                    have r_kQ_hoz := row_ne_low hoz kQ.lt
                    have r_kQ_hot := row_ne_low hot kQ.lt
                    have r_kP_hoz := row_ne_low hoz kP.lt
                    have r_kP_hot := row_ne_low hot kP.lt
                    replace kQ := kQ.below hb
                    replace kP := kP.below hb
                    replace ho3 := ho3.below hb
                    replace ho4 := ho4.below hb
                    replace N := N.trans (hb.mono N.size)
                    clear hb
                    clear ho3 ho4
                    refine hK.out _ _ N (fun hHeld => ?_)
                    clear hK K
                    try simp only [Act.put, sA, sB, sC]
                    refine takeQ (i := 5) (gt rfl) (by kernel_rfl) (fun _ _ _ h => h) (by rfl) (by intro wq _; go_simp <;> with_reducible rfl) (by assumption) ?_
                    try simp only [Act.put, sA, sB, sC]
                    refine takeQ (i := 6) (gt rfl) (by kernel_rfl) (fun _ _ _ h => h) (by rfl) (by intro wq _; go_simp <;> with_reducible rfl) (by assumption) ?_
                    try simp only [Act.put, sA, sB, sC]
                    refine takeQ (i := 7) (gt rfl) (by kernel_rfl) (fun _ _ _ h => h) (by rfl) (by intro wq _; go_simp <;> with_reducible rfl) (by assumption) ?_
                    try simp only [Act.put, sA, sB, sC]
                    refine takeQ (i := 8) (gt rfl) (by kernel_rfl) (fun _ _ _ h => h) (by rfl) (by intro wq _; go_simp <;> with_reducible rfl) (by assumption) ?_
                    try simp only [Act.put, sA, sB, sC]
                    refine wpAnyH_ready (rs := [11]) (by kernel_rfl) (by simp) (AllReadyH.cons (gt rfl) (fun K hK => ?_) AllReadyH.nil)
                    have z0 := kP.c0
                    have z1 := kP.c1
                    have zf := kP.fr
                    go_simp
                    clear z0 z1 zf
                    replace N := Box2.chain N kP (.bool gz) (.slice a5 zs.length c5)
                    replace kQ := kQ.old ne_kQ_kP (.bool gz) (.slice a5 zs.length c5)
                    replace hoz := hoz.put2 r_kP_hoz (.bool gz) (.slice a5 zs.length c5)
                    replace hot := hot.put2 r_kP_hot (.bool gz) (.slice a5 zs.length c5)
                    replace kP := kP.put (.bool gz) (.slice a5 zs.length c5)
                    refine hK.out _ _ N (fun hHeld => ?_)
                    clear hK K
                    try simp only [Act.put, sA, sB, sC]
                    refine wpAnyH_ready (rs := [12]) (by kernel_rfl) (by simp) (AllReadyH.cons (gt rfl) (fun K hK => ?_) AllReadyH.nil)
                    have z0 := kQ.c0
                    have z1 := kQ.c1
                    have zf := kQ.fr
                    go_simp
                    clear z0 z1 zf
                    replace N := Box2.chain N kQ (.bool gy) (.slice a6 ts.length c6)
                    replace kP := kP.old ne_kP_kQ (.bool gy) (.slice a6 ts.length c6)
                    replace hoz := hoz.put2 r_kQ_hoz (.bool gy) (.slice a6 ts.length c6)
                    replace hot := hot.put2 r_kQ_hot (.bool gy) (.slice a6 ts.length c6)
                    replace kQ := kQ.put (.bool gy) (.slice a6 ts.length c6)
                    refine hK.out _ _ N (fun hHeld => ?_)
                    clear hK K
                    try simp only [Act.put, sA, sB, sC]
                    refine takeQ (i := 13) (gt rfl) (by kernel_rfl) (fun _ _ _ h => h) (by rfl) (by intro wq _; go_simp <;> with_reducible rfl) (by assumption) ?_
                    try simp only [Act.put, sA, sB, sC]
                    refine wpAnyH_done (by kernel_rfl) ?_ _
                    go_wp2
                    go_meet
                    case rel => exact ⟨_, _, a5, c5, zs, a6, c6, ts, rfl, rfl, rfl, kP, kQ, hoz.base_le bs, hot.base_le bs, HZ, N⟩
                · skip
                  go_simp
                  have kP := Box2.new v45 N.size (.bool false) (.slice none 0 0) 26
                  have hb := below1 v45 (.cells #[.bool false, .slice none 0 0] 26)
                  have ne_kP_kQ := Nat.ne_of_gt kQ.lt
                  have ne_kQ_kP := ne_kP_kQ.symm
                  replace kQ := kQ.below hb
                  replace ho3 := ho3.below hb
                  replace N := N.trans (hb.mono N.size)
                  clear hb
                  generalize v45.alloc (.cells #[.bool false, .slice none 0 0] 26) = v55 at *
                  refine hK.out _ _ N (fun hHeld => ?_)
                  clear hK K
                  try simp only [Act.put, sA, sB, sC]
                  refine wpAnyH_ready (rs := [3]) (by kernel_rfl) (by simp) (AllReadyH.cons (gt rfl) (fun K hK => ?_) AllReadyH.nil)
                  go_simp
                  refine (toN g' a' c' ys _ (hB.below N) ks).mono ?_
                  rintro e v56 ⟨ab, cb, rfl, ho4, hb⟩
                  replace kQ := kQ.below hb
                  replace kP := kP.below hb
                  replace ho3 := ho3.below hb
                  replace N := N.trans (hb.mono N.size)
                  clear hb
                  refine hK.out _ _ N (fun hHeld => ?_)
                  clear hK K
                  try simp only [Act.put, sA, sB, sC]
                  refine wpAnyH_ready (rs := [4]) (by kernel_rfl) (by simp) (AllReadyH.cons (gt rfl) (fun K hK => ?_) AllReadyH.nil)
                  go_simp
                  refine (implDivMod g g' aa ab ca cb xs ys _ ho3.toSees ho4.toSees).mono ?_
                  rintro e v57 ⟨vq, vr, rfl, hI, hb⟩
                  obtain ⟨a5, c5, zs, a6, c6, ts, rfl, rfl, hoz, hot, hnz, hnt, hvz, hvt, _⟩ := hI
                  have HZ : Hid (Lim zs ∧ Nrm zs ∧ val zs = mg (tk g xs / tk g' ys) ∧ Lim ts ∧ Nrm ts ∧ val ts = mg (rz (tk g xs) (tk g' ys))) := ⟨hoz.lim, hnz, hvz, hot.lim, hnt, hvt⟩
                  rw [HG.out, HY.out, HF.out]
                  have bs := Nat.le_trans sz N.size
                  clear hnz hnt hvz hvt
                  have r_kQ_hoz := row_ne_low hoz kQ.lt
                  have r_kQ_hot := row_ne_low hot kQ.lt
                  have r_kP_hoz := row_ne_low hoz kP.lt
                  have r_kP_hot := row_ne_low hot kP.lt
                  replace kQ := kQ.below hb
                  replace kP := kP.below hb
                  replace ho3 := ho3.below hb
                  replace ho4 := ho4.below hb
                  replace N := N.trans (hb.mono N.size)
                  clear hb
                  clear ho3 ho4
                  refine hK.out _ _ N (fun hHeld => ?_)
                  clear hK K
                  try simp only [Act.put, sA, sB, sC]
                  refine takeQ (i := 5) (gt rfl) (by kernel_rfl) (fun _ _ _ h => h) (by rfl) (by intro wq _; go_simp <;> with_reducible rfl) (by assumption) ?_
                  try simp only [Act.put, sA, sB, sC]
                  refine takeQ (i := 6) (gt rfl) (by kernel_rfl) (fun _ _ _ h => h) (by rfl) (by intro wq _; go_simp <;> with_reducible rfl) (by assumption) ?_
                  try simp only [Act.put, sA, sB, sC]
                  refine takeQ (i := 7) (gt rfl) (by kernel_rfl) (fun _ _ _ h => h) (by rfl) (by intro wq _; go_simp <;> with_reducible rfl) (by assumption) ?_
                  try simp only [Act.put, sA, sB, sC]
                  refine takeQ (i := 8) (gt rfl) (by kernel_rfl) (fun _ _ _ h => h) (by rfl) (by intro wq _; go_simp <;> with_reducible rfl) (by assumption) ?_
                  try simp only [Act.put, sA, sB, sC]
                  refine wpAnyH_ready (rs := [11]) (by kernel_rfl) (by simp) (AllReadyH.cons (gt rfl) (fun K hK => ?_) AllReadyH.nil)
                  have z0 := kP.c0
                  have z1 := kP.c1
                  have zf := kP.fr
                  go_simp
                  clear z0 z1 zf
                  replace N := Box2.chain N kP (.bool gz) (.slice a5 zs.length c5)
                  replace kQ := kQ.old ne_kQ_kP (.bool gz) (.slice a5 zs.length c5)
                  replace hoz := hoz.put2 r_kP_hoz (.bool gz) (.slice a5 zs.length c5)
                  replace hot := hot.put2 r_kP_hot (.bool gz) (.slice a5 zs.length c5)
                  replace kP := kP.put (.bool gz) (.slice a5 zs.length c5)
                  refine hK.out _ _ N (fun hHeld => ?_)
                  clear hK K
                  try simp only [Act.put, sA, sB, sC]
                  refine wpAnyH_ready (rs := [12]) (by kernel_rfl) (by simp) (AllReadyH.cons (gt rfl) (fun K hK => ?_) AllReadyH.nil)
                  have z0 := kQ.c0
                  have z1 := kQ.c1
                  have zf := kQ.fr
                  go_simp
                  clear z0 z1 zf
                  replace N := Box2.chain N kQ (.bool gy) (.slice a6 ts.length c6)
                  replace kP := kP.old ne_kP_kQ (.bool gy) (.slice a6 ts.length c6)
                  replace hoz := hoz.put2 r_kQ_hoz (.bool gy) (.slice a6 ts.length c6)
                  replace hot := hot.put2 r_kQ_hot (.bool gy) (.slice a6 ts.length c6)
                  replace kQ := kQ.put (.bool gy) (.slice a6 ts.length c6)
                  refine hK.out _ _ N (fun hHeld => ?_)
                  clear hK K
                  try simp only [Act.put, sA, sB, sC]
                  refine takeQ (i := 13) (gt rfl) (by kernel_rfl) (fun _ _ _ h => h) (by rfl) (by intro wq _; go_simp <;> with_reducible rfl) (by assumption) ?_
                  try simp only [Act.put, sA, sB, sC]
                  refine wpAnyH_done (by kernel_rfl) ?_ _
                  go_wp2
                  go_meet
                  case rel => exact ⟨_, _, a5, c5, zs, a6, c6, ts, rfl, rfl, rfl, kP, kQ, hoz.base_le bs, hot.base_le bs, HZ, N⟩
        · as_aux_lemma =>
            go_simp
            have kP := Box2.new v0 N.size (.bool false) (.slice none 0 0) 26
            have hb := below1 v0 (.cells #[.bool false, .slice none 0 0] 26)
            replace N := N.trans (hb.mono N.size)
            clear hb
            generalize v0.alloc (.cells #[.bool false, .slice none 0 0] 26) = v60 at *
            refine hK.out _ _ N (fun hHeld => ?_)
            clear hK K
            try simp only [Act.put, sA, sB, sC]
            refine wpAnyH_ready (rs := [1, 10]) (by kernel_rfl) (by simp) (AllReadyH.cons (gt rfl) (fun K hK => ?_) (AllReadyH.cons (gt rfl) (fun K hK => ?_) AllReadyH.nil))
            · skip
              go_simp
              refine (toN g a c xs _ (hA.below N) hs).mono ?_
              rintro e v61 ⟨aa, ca, rfl, ho3, hb⟩
              replace kP := kP.below hb
              replace N := N.trans (hb.mono N.size)
              clear hb
              refine hK.out _ _ N (fun hHeld => ?_)
              clear hK K
              try simp only [Act.put, sA, sB, sC]
              refine wpAnyH_ready (rs := [3, 10]) (by kernel_rfl) (by simp) (AllReadyH.cons (gt rfl) (fun K hK => ?_) (AllReadyH.cons (gt rfl) (fun K hK => ?_) AllReadyH.nil))
              · skip
                go_simp
                refine (toN g' a' c' ys _ (hB.below N) ks).mono ?_
                rintro e v62 ⟨ab, cb, rfl, ho4, hb⟩
                replace kP := kP.below hb
                replace ho3 := ho3.below hb
                replace N := N.trans (hb.mono N.size)
                clear hb
                refine hK.out _ _ N (fun hHeld => ?_)
                clear hK K
                try simp only [Act.put, sA, sB, sC]
                refine wpAnyH_ready (rs := [4, 10]) (by kernel_rfl) (by simp) (AllReadyH.cons (gt rfl) (fun K hK => ?_) (AllReadyH.cons (gt rfl) (fun K hK => ?_) AllReadyH.nil))
                · skip
                  go_simp
                  refine (implDivMod g g' aa ab ca cb xs ys _ ho3.toSees ho4.toSees).mono ?_
                  rintro e v63 ⟨vq, vr, rfl, hI, hb⟩
                  obtain ⟨a5, c5, zs, a6, c6, ts, rfl, rfl, hoz, hot, hnz, hnt, hvz, hvt, _⟩ := hI
                  have HZ : Hid (Lim zs ∧ Nrm zs ∧ val zs = mg (tk g xs / tk g' ys) ∧ Lim ts ∧ Nrm ts ∧ val ts = mg (rz (tk g xs) (tk g' ys))) := ⟨hoz.lim, hnz, hvz, hot.lim, hnt, hvt⟩
                  rw [HG.out, HY.out, HF.out]
                  have bs := Nat.le_trans sz N.size
                  clear hnz hnt hvz hvt
                  have r_kP_hoz := row_ne_low hoz kP.lt
                  have r_kP_hot := row_ne_low hot kP.lt
                  replace kP := kP.below hb
                  replace ho3 := ho3.below hb
                  replace ho4 := ho4.below hb
                  replace N := N.trans (hb.mono N.size)
                  clear hb
                  clear ho3 ho4
                  refine hK.out _ _ N (fun hHeld => ?_)
                  clear hK K
                  try simp only [Act.put, sA, sB, sC]
                  refine takeQ (i := 5) (gt rfl) (by kernel_rfl) (fun _ _ _ h => h) (by rfl) (by intro wq _; go_simp <;> with_reducible rfl) (by assumption) ?_
                  try simp only [Act.put, sA, sB, sC]
                  refine takeQ (i := 6) (gt rfl) (by kernel_rfl) (fun _ _ _ h => h) (by rfl) (by intro wq _; go_simp <;> with_reducible rfl) (by assumption) ?_
                  try simp only [Act.put, sA, sB, sC]
                  refine takeQ (i := 7) (gt rfl) (by kernel_rfl) (fun _ _ _ h => h) (by rfl) (by intro wq _; go_simp <;> with_reducible rfl) (by assumption) ?_
                  try simp only [Act.put, sA, sB, sC]
                  refine takeQ (i := 8) (gt rfl) (by kernel_rfl) (fun _ _ _ h => h) (by rfl) (by intro wq _; go_simp <;> with_reducible rfl) (by assumption) ?_
                  try simp only [Act.put, sA, sB, sC]
                  refine wpAnyH_ready (rs := [10]) (by kernel_rfl) (by simp) (AllReadyH.cons (gt rfl) (fun K hK => ?_) AllReadyH.nil)
                  go_simp
                  have kQ := Box2.new v63 N.size (.bool false) (.slice none 0 0) 26
                  have hb := below1 v63 (.cells #[.bool false, .slice none 0 0] 26)
                  have r_kQ_hoz := row_ne_high hoz.toCame (Nat.le_refl _)
                  have r_kQ_hot := row_ne_high hot.toCame (Nat.le_refl _)
                  have ne_kQ_kP := Nat.ne_of_gt kP.lt
                  have ne_kP_kQ := ne_kQ_kP.symm
                  replace kP := kP.below hb
                  replace hoz := hoz.below hb
                  replace hot := hot.below hb
                  replace N := N.trans (hb.mono N.size)
                  clear hb
                  generalize v63.alloc (.cells #[.bool false, .slice none 0 0] 26) = v64 at *
                  refine hK.out _ _ N (fun hHeld => ?_)
                  clear hK K
                  try simp only [Act.put, sA, sB, sC]
                  refine wpAnyH_ready (rs := [11]) (by kernel_rfl) (by simp) (AllReadyH.cons (gt rfl) (fun K hK => ?_) AllReadyH.nil)
                  have z0 := kP.c0
                  have z1 := kP.c1
                  have zf := kP.fr
                  go_simp
                  clear z0 z1 zf
                  replace N := Box2.chain N kP (.bool gz) (.slice a5 zs.length c5)
                  replace kQ := kQ.old ne_kQ_kP (.bool gz) (.slice a5 zs.length c5)
                  replace hoz := hoz.put2 r_kP_hoz (.bool gz) (.slice a5 zs.length c5)
                  replace hot := hot.put2 r_kP_hot (.bool gz) (.slice a5 zs.length c5)
                  replace kP := kP.put (.bool gz) (.slice a5 zs.length c5)
                  refine hK.out _ _ N (fun hHeld => ?_)
                  clear hK K
                  try simp only [Act.put, sA, sB, sC]
                  refine wpAnyH_ready (rs := [12]) (by kernel_rfl) (by simp) (AllReadyH.cons (gt rfl) (fun K hK => ?_) AllReadyH.nil)
                  have z0 := kQ.c0
                  have z1 := kQ.c1
                  have zf := kQ.fr
                  go_simp
                  clear z0 z1 zf
                  replace N := Box2.chain N kQ (.bool gy) (.slice a6 ts.length c6)
                  replace kP := kP.old ne_kP_kQ (.bool gy) (.slice a6 ts.length c6)
                  replace hoz := hoz.put2 r_kQ_hoz (.bool gy) (.slice a6 ts.length c6)
                  replace hot := hot.put2 r_kQ_hot (.bool gy) (.slice a6 ts.length c6)
                  replace kQ := kQ.put (.bool gy) (.slice a6 ts.length c6)
                  refine hK.out _ _ N (fun hHeld => ?_)
                  clear hK K
                  try simp only [Act.put, sA, sB, sC]
                  refine takeQ (i := 13) (gt rfl) (by kernel_rfl) (fun _ _ _ h => h) (by rfl) (by intro wq _; go_simp <;> with_reducible rfl) (by assumption) ?_
                  try simp only [Act.put, sA, sB, sC]
                  refine wpAnyH_done (by kernel_rfl) ?_ _
                  go_wp2
                  go_meet
                  case rel => exact ⟨_, _, a5, c5, zs, a6, c6, ts, rfl, rfl, rfl, kP, kQ, hoz.base_le bs, hot.base_le bs, HZ, N⟩
                · skip
                  go_simp
                  have kQ := Box2.new v62 N.size (.bool false) (.slice none 0 0) 26
                  have hb := below1 v62 (.cells #[.bool false, .slice none 0 0] 26)
                  have ne_kQ_kP := Nat.ne_of_gt kP.lt
                  have ne_kP_kQ := ne_kQ_kP.symm
                  replace kP := kP.below hb
                  replace ho3 := ho3.below hb
                  replace ho4 := ho4.below hb
                  replace N := N.trans (hb.mono N.size)
                  clear hb
                  generalize v62.alloc (.cells #[.bool false, .slice none 0 0] 26) = v67 at *
                  refine hK.out _ _ N (fun hHeld => ?_)
                  clear hK K
                  try simp only [Act.put, sA, sB, sC]
                  refine wpAnyH_ready (rs := [4]) (by kernel_rfl) (by simp) (AllReadyH.cons (gt rfl) (fun K hK => ?_) AllReadyH.nil)
                  go_simp
                  refine (implDivMod g g' aa ab ca cb xs ys _ ho3.toSees ho4.toSees).mono ?_
                  rintro e v68 ⟨vq, vr, rfl, hI, hb⟩
                  obtain ⟨a5, c5, zs, a6, c6, ts, rfl, rfl, hoz, hot, hnz, hnt, hvz, hvt, _⟩ := hI
                  have HZ : Hid (Lim zs ∧ Nrm zs ∧ val zs = mg (tk g xs / tk g' ys) ∧ Lim ts ∧ Nrm ts ∧ val ts = mg (rz (tk g xs) (tk g' ys))) := ⟨hoz.lim, hnz, hvz, hot.lim, hnt, hvt⟩
                  rw [HG.out, HY.out, HF.out]
                  have bs := Nat.le_trans sz N.size
                  clear hnz hnt hvz hvt
                  have r_kP_hoz := row_ne_low hoz kP.lt
                  have r_kP_hot := row_ne_low hot kP.lt
                  have r_kQ_hoz := row_ne_low hoz kQ.lt
                  have r_kQ_hot := row_ne_low hot kQ.lt
                  replace kP := kP.below hb
                  replace kQ := kQ.below hb
                  replace ho3 := ho3.below hb
                  replace ho4 := ho4.below hb
                  replace N := N.trans (hb.mono N.size)
                  clear hb
                  clear ho3 ho4
                  refine hK.out _ _ N (fun hHeld => ?_)
                  clear hK K
                  try simp only [Act.put, sA, sB, sC]
                  refine takeQ (i := 5) (gt rfl) (by kernel_rfl) (fun _ _ _ h => h) (by rfl) (by intro wq _; go_simp <;> with_reducible rfl) (by assumption) ?_
                  try simp only [Act.put, sA, sB, sC]
                  refine takeQ (i := 6) (gt rfl) (by kernel_rfl) (fun _ _ _ h => h) (by rfl) (by intro wq _; go_simp <;> with_reducible rfl) (by assumption) ?_
                  try simp only [Act.put, sA, sB, sC]
                  refine takeQ (i := 7) (gt rfl) (by kernel_rfl) (fun _ _ _ h => h) (by rfl) (by intro wq _; go_simp <;> with_reducible rfl) (by assumption) ?_
                  try simp only [Act.put, sA, sB, sC]
                  refine takeQ (i := 8) (gt rfl) (by kernel_rfl) (fun _ _ _ h => h) (by rfl) (by intro wq _; go_simp <;> with_reducible rfl) (by assumption) ?_
                  try simp only [Act.put, sA, sB, sC]
                  refine wpAnyH_ready (rs := [11]) (by kernel_rfl) (by simp) (AllReadyH.cons (gt rfl) (fun K hK => ?_) AllReadyH.nil)
                  have z0 := kP.c0
                  have z1 := kP.c1
                  have zf := kP.fr
                  go_simp
                  clear z0 z1 zf
                  replace N := Box2.chain N kP (.bool gz) (.slice a5 zs.length c5)
                  replace kQ := kQ.old ne_kQ_kP (.bool gz) (.slice a5 zs.length c5)
                  replace hoz := hoz.put2 r_kP_hoz (.bool gz) (.slice a5 zs.length c5)
                  replace hot := hot.put2 r_kP_hot (.bool gz) (.slice a5 zs.length c5)
                  replace kP := kP.put (.bool gz) (.slice a5 zs.length c5)
                  refine hK.out _ _ N (fun hHeld => ?_)
                  clear hK K
                  try simp only [Act.put, sA, sB, sC]
                  refine wpAnyH_ready (rs := [12]) (by kernel_rfl) (by simp) (AllReadyH.cons (gt rfl) (fun K hK => ?_) AllReadyH.nil)
                  have z0 := kQ.c0
                  have z1 := kQ.c1
                  have zf := kQ.fr
                  go_simp
                  clear z0 z1 zf
                  replace N := Box2.chain N kQ (.bool gy) (.slice a6 ts.length c6)
                  replace kP := kP.old ne_kP_kQ (.bool gy) (.slice a6 ts.length c6)
                  replace hoz := hoz.put2 r_kQ_hoz (.bool gy) (.slice a6 ts.length c6)
                  replace hot := hot.put2 r_kQ_hot (.bool gy) (.slice a6 ts.length c6)
                  replace kQ := kQ.put (.bool gy) (.slice a6 ts.length c6)
                  refine hK.out _ _ N (fun hHeld => ?_)
                  clear hK K
                  try simp only [Act.put, sA, sB, sC]
                  refine takeQ (i := 13) (gt rfl) (by kernel_rfl) (fun _ _ _ h => h) (by rfl) (by intro wq _; go_simp <;> with_reducible rfl) (by assumption) ?_
                  try simp only [Act.put, sA, sB, sC]
                  refine wpAnyH_done (by kernel_rfl) ?_ _
                  go_wp2
                  go_meet
                  case rel => exact ⟨_, _, a5, c5, zs, a6, c6, ts, rfl, rfl, rfl, kP, kQ, hoz.base_le bs, hot.base_le bs, HZ, N⟩
              · skip
                go_simp
                have kQ := Box2.new v61 N.size (.bool false) (.slice none 0 0) 26
                have hb := below1 v61 (.cells #[.bool false, .slice none 0 0] 26)
                have ne_kQ_kP := Nat.ne_of_gt kP.lt
                have ne_kP_kQ := ne_kQ_kP.symm
                replace kP := kP.below hb
                replace ho3 := ho3.below hb
                replace N := N.trans (hb.mono N.size)
                clear hb
                generalize v61.alloc (.cells #[.bool false, .slice none 0 0] 26) = v71 at *
                refine hK.out _ _ N (fun hHeld => ?_)
                clear hK K
                try simp only [Act.put, sA, sB, sC]
                refine wpAnyH_ready (rs := [3]) (by kernel_rfl) (by simp) (AllReadyH.cons (gt rfl) (fun K hK => ?_) AllReadyH.nil)
                go_simp
                refine (toN g' a' c' ys _ (hB.below N) ks).mono ?_
                rintro e v72 ⟨ab, cb, rfl, ho4, hb⟩
                replace kP := kP.below hb
                replace kQ := kQ.below hb
                replace ho3 := ho3.below hb
                replace N := N.trans (hb.mono N.size)
                clear hb
                refine hK.out _ _ N (fun hHeld => ?_)
                clear hK K
                try simp only [Act.put, sA, sB, sC]
                refine wpAnyH_ready (rs := [4]) (by kernel_rfl) (by simp) (AllReadyH.cons (gt rfl) (fun K hK => ?_) AllReadyH.nil)
                go_simp
                refine (implDivMod g g' aa ab ca cb xs ys _ ho3.toSees ho4.toSees).mono ?_
                rintro e v73 ⟨vq, vr, rfl, hI, hb⟩
                obtain ⟨a5, c5, zs, a6, c6, ts, rfl, rfl, hoz, hot, hnz, hnt, hvz, hvt, _⟩ := hI
                have HZ : Hid (Lim zs ∧ Nrm zs ∧ val zs = mg (tk g xs / tk g' ys) ∧ Lim ts ∧ Nrm ts ∧ val ts = mg (rz (tk g xs) (tk g' ys))) := ⟨hoz.lim, hnz, hvz, hot.lim, hnt, hvt⟩
                rw [HG.out, HY.out, HF.out]
                have bs := Nat.le_trans sz N.size
                clear hnz hnt hvz hvt
                have r_kP_hoz := row_ne_low hoz kP.lt
                have r_kP_hot := row_ne_low hot kP.lt
                have r_kQ_hoz := row_ne_low hoz kQ.lt
                have r_kQ_hot := row_ne_low hot kQ.lt
                replace kP := kP.below hb
                replace kQ := kQ.below hb
                replace ho3 := ho3.below hb
                replace ho4 := ho4.below hb
                replace N := N.trans (hb.mono N.size)
                clear hb
                clear ho3 ho4
                refine hK.out _ _ N (fun hHeld => ?_)
                clear hK K
                try simp only [Act.put, sA, sB, sC]
                refine takeQ (i := 5) (gt rfl) (by kernel_rfl) (fun _ _ _ h => h) (by rfl) (by intro wq _; go_simp <;> with_reducible rfl) (by assumption) ?_
                try simp only [Act.put, sA, sB, sC]
                refine takeQ (i := 6) (gt rfl) (by kernel_rfl) (fun _ _ _ h => h) (by rfl) (by intro wq _; go_simp <;> with_reducible rfl) (by assumption) ?_
                try simp only [Act.put, sA, sB, sC]
                refine takeQ (i := 7) (gt rfl) (by kernel_rfl) (fun _ _ _ h => h) (by rfl) (by intro wq _; go_simp <;> with_reducible rfl) (by assumption) ?_
                try simp only [Act.put, sA, sB, sC]
                refine takeQ (i := 8) (gt rfl) (by kernel_rfl) (fun _ _ _ h => h) (by rfl) (by intro wq _; go_simp <;> with_reducible rfl) (by assumption) ?_
                try simp only [Act.put, sA, sB, sC]
                refine wpAnyH_ready (rs := [11]) (by kernel_rfl) (by simp) (AllReadyH.cons (gt rfl) (fun K hK => ?_) AllReadyH.nil)
                have z0 := kP.c0
                have z1 := kP.c1
                have zf := kP.fr
                go_simp
                clear z0 z1 zf
                replace N := Box2.chain N kP (.bool gz) (.slice a5 zs.length c5)
                replace kQ := kQ.old ne_kQ_kP (.bool gz) (.slice a5 zs.length c5)
                replace hoz := hoz.put2 r_kP_hoz (.bool gz) (.slice a5 zs.length c5)
                replace hot := hot.put2 r_kP_hot (.bool gz) (.slice a5 zs.length c5)
                replace kP := kP.put (.bool gz) (.slice a5 zs.length c5)
                refine hK.out _ _ N (fun hHeld => ?_)
                clear hK K
                try simp only [Act.put, sA, sB, sC]
                refine wpAnyH_ready (rs := [12]) (by kernel_rfl) (by simp) (AllReadyH.cons (gt rfl) (fun K hK => ?_) AllReadyH.nil)
                have z0 := kQ.c0
                have z1 := kQ.c1
                have zf := kQ.fr
                go_simp
                clear z0 z1 zf
                replace N := Box2.chain N kQ (.bool gy) (.slice a6 ts.length c6)
                replace kP := kP.old ne_kP_kQ (.bool gy) (.slice a6 ts.length c6)
                replace hoz := hoz.put2 r_kQ_hoz (.bool gy) (.slice a6 ts.length c6)
                replace hot := hot.put2 r_kQ_hot (.bool gy) (.slice a6 ts.length c6)
                replace kQ := kQ.put (.bool gy) (.slice a6 ts.length c6)
                refine hK.out _ _ N (fun hHeld => ?_)
                clear hK K
                try simp only [Act.put, sA, sB, sC]
                refine takeQ (i := 13) (gt rfl) (by kernel_rfl) (fun _ _ _ h => h) (by rfl) (by intro wq _; go_simp <;> with_reducible rfl) (by assumption) ?_
                try simp only [Act.put, sA, sB, sC]
                refine wpAnyH_done (by kernel_rfl) ?_ _
                go_wp2
                go_meet
                case rel => exact ⟨_, _, a5, c5, zs, a6, c6, ts, rfl, rfl, rfl, kP, kQ, hoz.base_le bs, hot.base_le bs, HZ, N⟩
            · skip
              go_simp
              have kQ := Box2.new v60 N.size (.bool false) (.slice none 0 0) 26
              have hb := below1 v60 (.cells #[.bool false, .slice none 0 0] 26)
              have ne_kQ_kP := Nat.ne_of_gt kP.lt
              have ne_kP_kQ := ne_kQ_kP.symm
              replace kP := kP.below hb
              replace N := N.trans (hb.mono N.size)
              clear hb
              generalize v60.alloc (.cells #[.bool false, .slice none 0 0] 26) = v76 at *
              refine hK.out _ _ N (fun hHeld => ?_)
              clear hK K
              try simp only [Act.put, sA, sB, sC]
              refine wpAnyH_ready (rs := [1]) (by kernel_rfl) (by simp) (AllReadyH.cons (gt rfl) (fun K hK => ?_) AllReadyH.nil)
              go_simp
              refine (toN g a c xs _ (hA.below N) hs).mono ?_
              rintro e v77 ⟨aa, ca, rfl, ho3, hb⟩
              replace kP := kP.below hb
              replace kQ := kQ.below hb
              replace N := N.trans (hb.mono N.size)
              clear hb
              refine hK.out _ _ N (fun hHeld => ?_)
              clear hK K
              try simp only [Act.put, sA, sB, sC]
              refine wpAnyH_ready (rs := [3]) (by kernel_rfl) (by simp) (AllReadyH.cons (gt rfl) (fun K hK => ?_) AllReadyH.nil)
              go_simp
              refine (toN g' a' c' ys _ (hB.below N) ks).mono ?_
              rintro e v78 ⟨ab, cb, rfl, ho4, hb⟩
              replace kP := kP.below hb
              replace kQ := kQ.below hb
              replace ho3 := ho3.below hb
              replace N := N.trans (hb.mono N.size)
              clear hb
              refine hK.out _ _ N (fun hHeld => ?_)
              clear hK K
              try simp only [Act.put, sA, sB, sC]
              refine wpAnyH_ready (rs := [4]) (by kernel_rfl) (by simp) (AllReadyH.cons (gt rfl) (fun K hK => ?_) AllReadyH.nil)
              go_simp
              refine (implDivMod g g' aa ab ca cb xs ys _ ho3.toSees ho4.toSees).mono ?_
              rintro e v79 ⟨vq, vr, rfl, hI, hb⟩
              obtain ⟨a5, c5, zs, a6, c6, ts, rfl, rfl, hoz, hot, hnz, hnt, hvz, hvt, _⟩ := hI
              have HZ : Hid (Lim zs ∧ Nrm zs ∧ val zs = mg (tk g xs / tk g' ys) ∧ Lim ts ∧ Nrm ts ∧ val ts = mg (rz (tk g xs) (tk g' ys))) := ⟨hoz.lim, hnz, hvz, hot.lim, hnt, hvt⟩
              rw [HG.out, HY.out, HF.out]
              have bs := Nat.le_trans sz N.size
              clear hnz hnt hvz hvt
              have r_kP_hoz := row_ne_low hoz kP.lt
              have r_kP_hot := row_ne_low hot kP.lt
              have r_kQ_hoz := row_ne_low hoz kQ.lt
              have r_kQ_hot := row_ne_low hot kQ.lt
              replace kP := kP.below hb
              replace kQ := kQ.below hb
              replace ho3 := ho3.below hb
              replace ho4 := ho4.below hb
              replace N := N.trans (hb.mono N.size)
              clear hb
              clear ho3 ho4
              refine hK.out _ _ N (fun hHeld => ?_)
              clear hK K
              try simp only [Act.put, sA, sB, sC]
              refine takeQ (i := 5) (gt rfl) (by kernel_rfl) (fun _ _ _ h => h) (by rfl) (by intro wq _; go_simp <;> with_reducible rfl) (by assumption) ?_
              try simp only [Act.put, sA, sB, sC]
              refine takeQ (i := 6) (gt rfl) (by kernel_rfl) (fun _ _ _ h => h) (by rfl) (by intro wq _; go_simp <;> with_reducible rfl) (by assumption) ?_
              try simp only [Act.put, sA, sB, sC]
              refine takeQ (i := 7) (gt rfl) (by kernel_rfl) (fun _ _ _ h => h) (by rfl) (by intro wq _; go_simp <;> with_reducible rfl) (by assumption) ?_
              try simp only [Act.put, sA, sB, sC]
              refine takeQ (i := 8) (gt rfl) (by kernel_rfl) (fun _ _ _ h => h) (by rfl) (by intro wq _; go_simp <;> with_reducible rfl) (by assumption) ?_
              try simp only [Act.put, sA, sB, sC]
              refine wpAnyH_ready (rs := [11]) (by kernel_rfl) (by simp) (AllReadyH.cons (gt rfl) (fun K hK => ?_) AllReadyH.nil)
              have z0 := kP.c0
              have z1 := kP.c1
              have zf := kP.fr
              go_simp
              clear z0 z1 zf
              replace N := Box2.chain N kP (.bool gz) (.slice a5 zs.length c5)
              replace kQ := kQ.old ne_kQ_kP (.bool gz) (.slice a5 zs.length c5)
              replace hoz := hoz.put2 r_kP_hoz (.bool gz) (.slice a5 zs.length c5)
              replace hot := hot.put2 r_kP_hot (.bool gz) (.slice a5 zs.length c5)
              replace kP := kP.put (.bool gz) (.slice a5 zs.length c5)
              refine hK.out _ _ N (fun hHeld => ?_)
              clear hK K
              try simp only [Act.put, sA, sB, sC]
              refine wpAnyH_ready (rs := [12]) (by kernel_rfl) (by simp) (AllReadyH.cons (gt rfl) (fun K hK => ?_) AllReadyH.nil)
              have z0 := kQ.c0
              have z1 := kQ.c1
              have zf := kQ.fr
              go_simp
              clear z0 z1 zf
              replace N := Box2.chain N kQ (.bool gy) (.slice a6 ts.length c6)
              replace kP := kP.old ne_kP_kQ (.bool gy) (.slice a6 ts.length c6)
              replace hoz := hoz.put2 r_kQ_hoz (.bool gy) (.slice a6 ts.length c6)
              replace hot := hot.put2 r_kQ_hot (.bool gy) (.slice a6 ts.length c6)
              replace kQ := kQ.put (.bool gy) (.slice a6 ts.length c6)
              refine hK.out _ _ N (fun hHeld => ?_)
              clear hK K
              try simp only [Act.put, sA, sB, sC]
              refine takeQ (i := 13) (gt rfl) (by kernel_rfl) (fun _ _ _ h => h) (by rfl) (by intro wq _; go_simp <;> with_reducible rfl) (by assumption) ?_
              try simp only [Act.put, sA, sB, sC]
              refine wpAnyH_done (by kernel_rfl) ?_ _
              go_wp2
              go_meet
              case rel => exact ⟨_, _, a5, c5, zs, a6, c6, ts, rfl, rfl, rfl, kP, kQ, hoz.base_le bs, hot.base_le bs, HZ, N⟩
        · as_aux_lemma =>
            go_simp
            have kQ := Box2.new v0 N.size (.bool false) (.slice none 0 0) 26
            have hb := below1 v0 (.cells #[.bool false, .slice none 0 0] 26)
            replace N := N.trans (hb.mono N.size)
            clear hb
            generalize v0.alloc (.cells #[.bool false, .slice none 0 0] 26) = v82 at *
            refine hK.out _ _ N (fun hHeld => ?_)
            clear hK K
            try simp only [Act.put, sA, sB, sC]
            refine wpAnyH_ready (rs := [1, 9]) (by kernel_rfl) (by simp) (AllReadyH.cons (gt rfl) (fun K hK => ?_) (AllReadyH.cons (gt rfl) (fun K hK => ?_) AllReadyH.nil))
            · skip
              go_simp
              refine (toN g a c xs _ (hA.below N) hs).mono ?_
              rintro e v83 ⟨aa, ca, rfl, ho3, hb⟩
              replace kQ := kQ.below hb
              replace N := N.trans (hb.mono N.size)
              clear hb
              refine hK.out _ _ N (fun hHeld => ?_)
              clear hK K
              try simp only [Act.put, sA, sB, sC]
              refine wpAnyH_ready (rs := [3, 9]) (by kernel_rfl) (by simp) (AllReadyH.cons (gt rfl) (fun K hK => ?_) (AllReadyH.cons (gt rfl) (fun K hK => ?_) AllReadyH.nil))
              · skip
                go_simp
                refine (toN g' a' c' ys _ (hB.below N) ks).mono ?_
                rintro e v84 ⟨ab, cb, rfl, ho4, hb⟩
                replace kQ := kQ.below hb
                replace ho3 := ho3.below hb
                replace N := N.trans (hb.mono N.size)
                clear hb
                refine hK.out _ _ N (fun hHeld => ?_)
                clear hK K
                try simp only [Act.put, sA, sB, sC]
                refine wpAnyH_ready (rs := [4, 9]) (by kernel_rfl) (by simp) (AllReadyH.cons (gt rfl) (fun K hK => ?_) (AllReadyH.cons (gt rfl) (fun K hK => ?_) AllReadyH.nil))
                · skip
                  go_simp
                  refine (implDivMod g g' aa ab ca cb xs ys _ ho3.toSees ho4.toSees).mono ?_
                  rintro e v85 ⟨vq, vr, rfl, hI, hb⟩
                  obtain ⟨a5, c5, zs, a6, c6, ts, rfl, rfl, hoz, hot, hnz, hnt, hvz, hvt, _⟩ := hI
                  have HZ : Hid (Lim zs ∧ Nrm zs ∧ val zs = mg (tk g xs / tk g' ys) ∧ Lim ts ∧ Nrm ts ∧ val ts = mg (rz (tk g xs) (tk g' ys))) := ⟨hoz.lim, hnz, hvz, hot.lim, hnt, hvt⟩
                  rw [HG.out, HY.out, HF.out]
                  have bs := Nat.le_trans sz N.size
                  clear hnz hnt hvz hvt
                  have r_kQ_hoz := row_ne_low hoz kQ.lt
                  have r_kQ_hot := row_ne_low hot kQ.lt
                  replace kQ := kQ.below hb
                  replace ho3 := ho3.below hb
                  replace ho4 := ho4.below hb
                  replace N := N.trans (hb.mono N.size)
                  clear hb
                  clear ho3 ho4
                  refine hK.out _ _ N (fun hHeld => ?_)
                  clear hK K
                  try simp only [Act.put, sA, sB, sC]
                  refine takeQ (i := 5) (gt rfl) (by kernel_rfl) (fun _ _ _ h => h) (by rfl) (by intro wq _; go_simp <;> with_reducible rfl) (by assumption) ?_
                  try simp only [Act.put, sA, sB, sC]
                  refine takeQ (i := 6) (gt rfl) (by kernel_rfl) (fun _ _ _ h => h) (by rfl) (by intro wq _; go_simp <;> with_reducible rfl) (by assumption) ?_
                  try simp only [Act.put, sA, sB, sC]
                  refine takeQ (i := 7) (gt rfl) (by kernel_rfl) (fun _ _ _ h => h) (by rfl) (by intro wq _; go_simp <;> with_reducible rfl) (by assumption) ?_
                  try simp only [Act.put, sA, sB, sC]
                  refine takeQ (i := 8) (gt rfl) (by kernel_rfl) (fun _ _ _ h => h) (by rfl) (by intro wq _; go_simp <;> with_reducible rfl) (by assumption) ?_
                  try simp only [Act.put, sA, sB, sC]
                  refine wpAnyH_ready (rs := [9]) (by kernel_rfl) (by simp) (AllReadyH.cons (gt rfl) (fun K hK => ?_) AllReadyH.nil)
                  go_simp
                  have kP := Box2.new v85 N.size (.bool false) (.slice none 0 0) 26
                  have hb := below1 v85 (.cells #[.bool false, .slice none 0 0] 26)
                  have r_kP_hoz := row_ne_high hoz.toCame (Nat.le_refl _)
                  have r_kP_hot := row_ne_high hot.toCame (Nat.le_refl _)
                  have ne_kP_kQ := Nat.ne_of_gt kQ.lt
                  have ne_kQ_kP := ne_kP_kQ.symm
                  replace kQ := kQ.below hb
                  replace hoz := hoz.below hb
                  replace hot := hot.below hb
                  replace N := N.trans (hb.mono N.size)
                  clear hb
                  generalize v85.alloc (.cells #[.bool false, .slice none 0 0] 26) = v86 at *
                  refine hK.out _ _ N (fun hHeld => ?_)
                  clear hK K
                  try simp only [Act.put, sA, sB, sC]
                  refine wpAnyH_ready (rs := [11]) (by kernel_rfl) (by simp) (AllReadyH.cons (gt rfl) (fun K hK => ?_) AllReadyH.nil)
                  have z0 := kP.c0
                  have z1 := kP.c1
                  have zf := kP.fr
                  go_simp
                  clear z0 z1 zf
                  replace N := Box2.chain N kP (.bool gz) (.slice a5 zs.length c5)
                  replace kQ := kQ.old ne_kQ_kP (.bool gz) (.slice a5 zs.length c5)
                  replace hoz := hoz.put2 r_kP_hoz (.bool gz) (.slice a5 zs.length c5)
                  replace hot := hot.put2 r_kP_hot (.bool gz) (.slice a5 zs.length c5)
                  replace kP := kP.put (.bool gz) (.slice a5 zs.length c5)
                  refine hK.out _ _ N (fun hHeld => ?_)
                  clear hK K
                  try simp only [Act.put, sA, sB, sC]
                  refine wpAnyH_ready (rs := [12]) (by kernel_rfl) (by simp) (AllReadyH.cons (gt rfl) (fun K hK => ?_) AllReadyH.nil)
                  have z0 := kQ.c0
                  have z1 := kQ.c1
                  have zf := kQ.fr
                  go_simp
                  clear z0 z1 zf
                  replace N := Box2.chain N kQ (.bool gy) (.slice a6 ts.length c6)
                  replace kP := kP.old ne_kP_kQ (.bool gy) (.slice a6 ts.length c6)
                  replace hoz := hoz.put2 r_kQ_hoz (.bool gy) (.slice a6 ts.length c6)
                  replace hot := hot.put2 r_kQ_hot (.bool gy) (.slice a6 ts.length c6)
                  replace kQ := kQ.put (.bool gy) (.slice a6 ts.length c6)
                  refine hK.out _ _ N (fun hHeld => ?_)
                  clear hK K
                  try simp only [Act.put, sA, sB, sC]
                  refine takeQ (i := 13) (gt rfl) (by kernel_rfl) (fun _ _ _ h => h) (by rfl) (by intro wq _; go_simp <;> with_reducible rfl) (by assumption) ?_
                  try simp only [Act.put, sA, sB, sC]
                  refine wpAnyH_done (by kernel_rfl) ?_ _
                  go_wp2
                  go_meet
                  case rel => exact ⟨_, _, a5, c5, zs, a6, c6, ts, rfl, rfl, rfl, kP, kQ, hoz.base_le bs, hot.base_le bs, HZ, N⟩
                · skip
                  go_simp
                  have kP := Box2.new v84 N.size (.bool false) (.slice none 0 0) 26
                  have hb := below1 v84 (.cells #[.bool false, .slice none 0 0] 26)
                  have ne_kP_kQ := Nat.ne_of_gt kQ.lt
                  have ne_kQ_kP := ne_kP_kQ.symm
                  replace kQ := kQ.below hb
                  replace ho3 := ho3.below hb
                  replace ho4 := ho4.below hb
                  replace N := N.trans (hb.mono N.size)
                  clear hb
                  generalize v84.alloc (.cells #[.bool false, .slice none 0 0] 26) = v89 at *
                  refine hK.out _ _ N (fun hHeld => ?_)
                  clear hK K
                  try simp only [Act.put, sA, sB, sC]
                  refine wpAnyH_ready (rs := [4]) (by kernel_rfl) (by simp) (AllReadyH.cons (gt rfl) (fun K hK => ?_) AllReadyH.nil)
                  go_simp
                  refine (implDivMod g g' aa ab ca cb xs ys _ ho3.toSees ho4.toSees).mono ?_
                  rintro e v90 ⟨vq, vr, rfl, hI, hb⟩
                  obtain ⟨a5, c5, zs, a6, c6, ts, rfl, rfl, hoz, hot, hnz, hnt, hvz, hvt, _⟩ := hI
                  have HZ : Hid (Lim zs ∧ Nrm zs ∧ val zs = mg (tk g xs / tk g' ys) ∧ Lim ts ∧ Nrm ts ∧ val ts = mg (rz (tk g xs) (tk g' ys))) := ⟨hoz.lim, hnz, hvz, hot.lim, hnt, hvt⟩
                  rw [HG.out, HY.out, HF.out]
                  have bs := Nat.le_trans sz N.size
                  clear hnz hnt hvz hvt
                  have r_kQ_hoz := row_ne_low hoz kQ.lt
                  have r_kQ_hot := row_ne_low hot kQ.lt
                  have r_kP_hoz := row_ne_low hoz kP.lt
                  have r_kP_hot := row_ne_low hot kP.lt
                  replace kQ := kQ.below hb
                  replace kP := kP.below hb
                  replace ho3 := ho3.below hb
                  replace ho4 := ho4.below hb
                  replace N := N.trans (hb.mono N.size)
                  clear hb
                  clear ho3 ho4
                  refine hK.out _ _ N (fun hHeld => ?_)
                  clear hK K
                  try simp only [Act.put, sA, sB, sC]
                  refine takeQ (i := 5) (gt rfl) (by kernel_rfl) (fun _ _ _ h => h) (by rfl) (by intro wq _; go_simp <;> with_reducible rfl) (by assumption) ?_
                  try simp only [Act.put, sA, sB, sC]
                  refine takeQ (i := 6) (gt rfl) (by kernel_rfl) (fun _ _ _ h => h) (by rfl) (by intro wq _; go_simp <;> with_reducible rfl) (by assumption) ?_
                  try simp only [Act.put, sA, sB, sC]
                  refine takeQ (i := 7) (gt rfl) (by kernel_rfl) (fun _ _ _ h => h) (by rfl) (by intro wq _; go_simp <;> with_reducible rfl) (by assumption) ?_
                  try simp only [Act.put, sA, sB, sC]
                  refine takeQ (i := 8) (gt rfl) (by kernel_rfl) (fun _ _ _ h => h) (by rfl) (by intro wq _; go_simp <;> with_reducible rfl) (by assumption) ?_
                  try simp only [Act.put, sA, sB, sC]
                  refine wpAnyH_ready (rs := [11]) (by kernel_rfl) (by simp) (AllReadyH.cons (gt rfl) (fun K hK => ?_) AllReadyH.nil)
                  have z0 := kP.c0
                  have z1 := kP.c1
                  have zf := kP.fr
                  go_simp
                  clear z0 z1 zf
                  replace N := Box2.chain N kP (.bool gz) (.slice a5 zs.length c5)
                  replace kQ := kQ.old ne_kQ_kP (.bool gz) (.slice a5 zs.length c5)
                  replace hoz := hoz.put2 r_kP_hoz (.bool gz) (.slice a5 zs.length c5)
                  replace hot := hot.put2 r_kP_hot (.bool gz) (.slice a5 zs.length c5)
                  replace kP := kP.put (.bool gz) (.slice a5 zs.length c5)
                  refine hK.out _ _ N (fun hHeld => ?_)
                  clear hK K
                  try simp only [Act.put, sA, sB, sC]
                  refine wpAnyH_ready (rs := [12]) (by kernel_rfl) (by simp) (AllReadyH.cons (gt rfl) (fun K hK => ?_) AllReadyH.nil)
                  have z0 := kQ.c0
                  have z1 := kQ.c1
                  have zf := kQ.fr
                  go_simp
                  clear z0 z1 zf
                  replace N := Box2.chain N kQ (.bool gy) (.slice a6 ts.length c6)
                  replace kP := kP.old ne_kP_kQ (.bool gy) (.slice a6 ts.length c6)
                  replace hoz := hoz.put2 r_kQ_hoz (.bool gy) (.slice a6 ts.length c6)
                  replace hot := hot.put2 r_kQ_hot (.bool gy) (.slice a6 ts.length c6)
                  replace kQ := kQ.put (.bool gy) (.slice a6 ts.length c6)
                  refine hK.out _ _ N (fun hHeld => ?_)
                  clear hK K
                  try simp only [Act.put, sA, sB, sC]
                  refine takeQ (i := 13) (gt rfl) (by kernel_rfl) (fun _ _ _ h => h) (by rfl) (by intro wq _; go_simp <;> with_reducible rfl) (by assumption) ?_
                  try simp only [Act.put, sA, sB, sC]
                  refine wpAnyH_done (by kernel_rfl) ?_ _
                  go_wp2
                  go_meet
                  case rel => exact ⟨_, _, a5, c5, zs, a6, c6, ts, rfl, rfl, rfl, kP, kQ, hoz.base_le bs, hot.base_le bs, HZ, N⟩
              · skip
                go_simp
                have kP := Box2.new v83 N.size (.bool false) (.slice none 0 0) 26
                have hb := below1 v83 (.cells #[.bool false, .slice none 0 0] 26)
                have ne_kP_kQ := Nat.ne_of_gt kQ.lt
                have ne_kQ_kP := ne_kP_kQ.symm
                replace kQ := kQ.below hb
                replace ho3 := ho3.below hb
                replace N := N.trans (hb.mono N.size)
                clear hb
                generalize v83.alloc (.cells #[.bool false, .slice none 0 0] 26) = v93 at *
                refine hK.out _ _ N (fun hHeld => ?_)
                clear hK K
                try simp only [Act.put, sA, sB, sC]
                refine wpAnyH_ready (rs := [3]) (by kernel_rfl) (by simp) (AllReadyH.cons (gt rfl) (fun K hK => ?_) AllReadyH.nil)
                go_simp
                refine (toN g' a' c' ys _ (hB.below N) ks).mono ?_
                rintro e v94 ⟨ab, cb, rfl, ho4, hb⟩
                replace kQ := kQ.below hb
                replace kP := kP.below hb
                replace ho3 := ho3.below hb
                replace N := N.trans (hb.mono N.size)
                clear hb
                refine hK.out _ _ N (fun hHeld => ?_)
                clear hK K
                try simp only [Act.put, sA, sB, sC]
                refine wpAnyH_ready (rs := [4]) (by kernel_rfl) (by simp) (AllReadyH.cons (gt rfl) (fun K hK => ?_) AllReadyH.nil)
                go_simp
                refine (implDivMod g g' aa ab ca cb xs ys _ ho3.toSees ho4.toSees).mono ?_
                rintro e v95 ⟨vq, vr, rfl, hI, hb⟩
                obtain ⟨a5, c5, zs, a6, c6, ts, rfl, rfl, hoz, hot, hnz, hnt, hvz, hvt, _⟩ := hI
                have HZ : Hid (Lim zs ∧ Nrm zs ∧ val zs = mg (tk g xs / tk g' ys) ∧ Lim ts ∧ Nrm ts ∧ val ts = mg (rz (tk g xs) (tk g' ys))) := ⟨hoz.lim, hnz, hvz, hot.lim, hnt, hvt⟩
                rw [HG.out, HY.out, HF.out]
                have bs := Nat.le_trans sz N.size
                clear hnz hnt hvz hvt
                have r_kQ_hoz := row_ne_low hoz kQ.lt
                have r_kQ_hot := row_ne_low hot kQ.lt
                have r_kP_hoz := row_ne_low hoz kP.lt
                have r_kP_hot := row_ne_low hot kP.lt
                replace kQ := kQ.below hb
                replace kP := kP.below hb
                replace ho3 := ho3.below hb
                replace ho4 := ho4.below hb
                replace N := N.trans (hb.mono N.size)
                clear hb
                clear ho3 ho4
                refine hK.out _ _ N (fun hHeld => ?_)
                clear hK K
                try simp only [Act.put, sA, sB, sC]
                refine takeQ (i := 5) (gt rfl) (by kernel_rfl) (fun _ _ _ h => h) (by rfl) (by intro wq _; go_simp <;> with_reducible rfl) (by assumption) ?_
                try simp only [Act.put, sA, sB, sC]
                refine takeQ (i := 6) (gt rfl) (by kernel_rfl) (fun _ _ _ h => h) (by rfl) (by intro wq _; go_simp <;> with_reducible rfl) (by assumption) ?_
                try simp only [Act.put, sA, sB, sC]
                refine takeQ (i := 7) (gt rfl) (by kernel_rfl) (fun _ _ _ h => h) (by rfl) (by intro wq _; go_simp <;> with_reducible rfl) (by assumption) ?_
                try simp only [Act.put, sA, sB, sC]
                refine takeQ (i := 8) (gt rfl) (by kernel_rfl) (fun _ _ _ h => h) (by rfl) (by intro wq _; go_simp <;> with_reducible rfl) (by assumption) ?_
                try simp only [Act.put, sA, sB, sC]
                refine wpAnyH_ready (rs := [11]) (by kernel_rfl) (by simp) (AllReadyH.cons (gt rfl) (fun K hK => ?_) AllReadyH.nil)
                have z0 := kP.c0
                have z1 := kP.c1
                have zf := kP.fr
                go_simp
                clear z0 z1 zf
                replace N := Box2.chain N kP (.bool gz) (.slice a5 zs.length c5)
                replace kQ := kQ.old ne_kQ_kP (.bool gz) (.slice a5 zs.length c5)
                replace hoz := hoz.put2 r_kP_hoz (.bool gz) (.slice a5 zs.length c5)
                replace hot := hot.put2 r_kP_hot (.bool gz) (.slice a5 zs.length c5)
                replace kP := kP.put (.bool gz) (.slice a5 zs.length c5)
                refine hK.out _ _ N (fun hHeld => ?_)
                clear hK K
                try simp only [Act.put, sA, sB, sC]
                refine wpAnyH_ready (rs := [12]) (by kernel_rfl) (by simp) (AllReadyH.cons (gt rfl) (fun K hK => ?_) AllReadyH.nil)
                have z0 := kQ.c0
                have z1 := kQ.c1
                have zf := kQ.fr
                go_simp
                clear z0 z1 zf
                replace N := Box2.chain N kQ (.bool gy) (.slice a6 ts.length c6)
                replace kP := kP.old ne_kP_kQ (.bool gy) (.slice a6 ts.length c6)
                replace hoz := hoz.put2 r_kQ_hoz (.bool gy) (.slice a6 ts.length c6)
                replace hot := hot.put2 r_kQ_hot (.bool gy) (.slice a6 ts.length c6)
                replace kQ := kQ.put (.bool gy) (.slice a6 ts.length c6)
                refine hK.out _ _ N (fun hHeld => ?_)
                clear hK K
                try simp only [Act.put, sA, sB, sC]
                refine takeQ (i := 13) (gt rfl) (by kernel_rfl) (fun _ _ _ h => h) (by rfl) (by intro wq _; go_simp <;> with_reducible rfl) (by assumption) ?_
                try simp only [Act.put, sA, sB, sC]
                refine wpAnyH_done (by kernel_rfl) ?_ _
                go_wp2
                go_meet
                case rel => exact ⟨_, _, a5, c5, zs, a6, c6, ts, rfl, rfl, rfl, kP, kQ, hoz.base_le bs, hot.base_le bs, HZ, N⟩
            · skip
              go_simp
              have kP := Box2.new v82 N.size (.bool false) (.slice none 0 0) 26
              have hb := below1 v82 (.cells #[.bool false, .slice none 0 0] 26)
              have ne_kP_kQ := Nat.ne_of_gt kQ.lt
              have ne_kQ_kP := ne_kP_kQ.symm
              replace kQ := kQ.below hb
              replace N := N.trans (hb.mono N.size)
              clear hb
              generalize v82.alloc (.cells #[.bool false, .slice none 0 0] 26) = v98 at *
              refine hK.out _ _ N (fun hHeld => ?_)
              clear hK K
              try simp only [Act.put, sA, sB, sC]
              refine wpAnyH_ready (rs := [1]) (by kernel_rfl) (by simp) (AllReadyH.cons (gt rfl) (fun K hK => ?_) AllReadyH.nil)
              go_simp
              refine (toN g a c xs _ (hA.below N) hs).mono ?_
              rintro e v99 ⟨aa, ca, rfl, ho3, hb⟩
              replace kQ := kQ.below hb
              replace kP := kP.below hb
              replace N := N.trans (hb.mono N.size)
              clear hb
              refine hK.out _ _ N (fun hHeld => ?_)
              clear hK K
              try simp only [Act.put, sA, sB, sC]
              refine wpAnyH_ready (rs := [3]) (by kernel_rfl) (by simp) (AllReadyH.cons (gt rfl) (fun K hK => ?_) AllReadyH.nil)
              go_simp
              refine (toN g' a' c' ys _ (hB.below N) ks).mono ?_
              rintro e v100 ⟨ab, cb, rfl, ho4, hb⟩
              replace kQ := kQ.below hb
              replace kP := kP.below hb
              replace ho3 := ho3.below hb
              replace N := N.trans (hb.mono N.size)
              clear hb
              refine hK.out _ _ N (fun hHeld => ?_)
              clear hK K
              try simp only [Act.put, sA, sB, sC]
              refine wpAnyH_ready (rs := [4]) (by kernel_rfl) (by simp) (AllReadyH.cons (gt rfl) (fun K hK => ?_) AllReadyH.nil)
              go_simp
              refine (implDivMod g g' aa ab ca cb xs ys _ ho3.toSees ho4.toSees).mono ?_
              rintro e v101 ⟨vq, vr, rfl, hI, hb⟩
              obtain ⟨a5, c5, zs, a6, c6, ts, rfl, rfl, hoz, hot, hnz, hnt, hvz, hvt, _⟩ := hI
              have HZ : Hid (Lim zs ∧ Nrm zs ∧ val zs = mg (tk g xs / tk g' ys) ∧ Lim ts ∧ Nrm ts ∧ val ts = mg (rz (tk g xs) (tk g' ys))) := ⟨hoz.lim, hnz, hvz, hot.lim, hnt, hvt⟩
              rw [HG.out, HY.out, HF.out]
              have bs := Nat.le_trans sz N.size
              clear hnz hnt hvz hvt
              have r_kQ_hoz := row_ne_low hoz kQ.lt
              have r_kQ_hot := row_ne_low hot kQ.lt
              have r_kP_hoz := row_ne_low hoz kP.lt
              have r_kP_hot := row_ne_low hot kP.lt
              replace kQ := kQ.below hb
              replace kP := kP.below hb
              replace ho3 := ho3.below hb
              replace ho4 := ho4.below hb
              replace N := N.trans (hb.mono N.size)
              clear hb
              clear ho3 ho4
              refine hK.out _ _ N (fun hHeld => ?_)
              clear hK K
              try simp only [Act.put, sA, sB, sC]
              refine takeQ (i := 5) (gt rfl) (by kernel_rfl) (fun _ _ _ h => h) (by rfl) (by intro wq _; go_simp <;> with_reducible rfl) (by assumption) ?_
              try simp only [Act.put, sA, sB, sC]
              refine takeQ (i := 6) (gt rfl) (by kernel_rfl) (fun _ _ _ h => h) (by rfl) (by intro wq _; go_simp <;> with_reducible rfl) (by assumption) ?_
              try simp only [Act.put, sA, sB, sC]
              refine takeQ (i := 7) (gt rfl) (by kernel_rfl) (fun _ _ _ h => h) (by rfl) (by intro wq _; go_simp <;> with_reducible rfl) (by assumption) ?_
              try simp only [Act.put, sA, sB, sC]
              refine takeQ (i := 8) (gt rfl) (by kernel_rfl) (fun _ _ _ h => h) (by rfl) (by intro wq _; go_simp <;> with_reducible rfl) (by assumption) ?_
              try simp only [Act.put, sA, sB, sC]
              refine wpAnyH_ready (rs := [11]) (by kernel_rfl) (by simp) (AllReadyH.cons (gt rfl) (fun K hK => ?_) AllReadyH.nil)
              have z0 := kP.c0
              have z1 := kP.c1
              have zf := kP.fr
              go_simp
              clear z0 z1 zf
              replace N := Box2.chain N kP (.bool gz) (.slice a5 zs.length c5)
              replace kQ := kQ.old ne_kQ_kP (.bool gz) (.slice a5 zs.length c5)
              replace hoz := hoz.put2 r_kP_hoz (.bool gz) (.slice a5 zs.length c5)
              replace hot := hot.put2 r_kP_hot (.bool gz) (.slice a5 zs.length c5)
              replace kP := kP.put (.bool gz) (.slice a5 zs.length c5)
              refine hK.out _ _ N (fun hHeld => ?_)
              clear hK K
              try simp only [Act.put, sA, sB, sC]
              refine wpAnyH_ready (rs := [12]) (by kernel_rfl) (by simp) (AllReadyH.cons (gt rfl) (fun K hK => ?_) AllReadyH.nil)
              have z0 := kQ.c0
              have z1 := kQ.c1
              have zf := kQ.fr
              go_simp
              clear z0 z1 zf
              replace N := Box2.chain N kQ (.bool gy) (.slice a6 ts.length c6)
              replace kP := kP.old ne_kP_kQ (.bool gy) (.slice a6 ts.length c6)
              replace hoz := hoz.put2 r_kQ_hoz (.bool gy) (.slice a6 ts.length c6)
              replace hot := hot.put2 r_kQ_hot (.bool gy) (.slice a6 ts.length c6)
              replace kQ := kQ.put (.bool gy) (.slice a6 ts.length c6)
              refine hK.out _ _ N (fun hHeld => ?_)
              clear hK K
              try simp only [Act.put, sA, sB, sC]
              refine takeQ (i := 13) (gt rfl) (by kernel_rfl) (fun _ _ _ h => h) (by rfl) (by intro wq _; go_simp <;> with_reducible rfl) (by assumption) ?_
              try simp only [Act.put, sA, sB, sC]
              refine wpAnyH_done (by kernel_rfl) ?_ _
              go_wp2
              go_meet
              case rel => exact ⟨_, _, a5, c5, zs, a6, c6, ts, rfl, rfl, rfl, kP, kQ, hoz.base_le bs, hot.base_le bs, HZ, N⟩
      obtain ⟨p2, p2', a17, c17, zs2, a18, c18, ts2, rfl, rfl, rfl, KP, KQ, hoi, hoj, HV2, hb⟩ := hcut
      obtain ⟨kI0, kI1, _, _⟩ := KP
      obtain ⟨kJ0, kJ1, _, _⟩ := KQ
      obtain rfl : zs = zs2 := val_inj HV'.out.1 HV2.out.1 HV'.out.2.1 HV2.out.2.1 (HV'.out.2.2.1.trans HV2.out.2.2.1.symm)
      obtain rfl : ts = ts2 := val_inj HV'.out.2.2.2.1 HV2.out.2.2.2.1 HV'.out.2.2.2.2.1 HV2.out.2.2.2.2.1 (HV'.out.2.2.2.2.2.trans HV2.out.2.2.2.2.2.symm)
      clear HV2
      clear kA0 kA1
      clear kB0 kB1
      clear hA
      clear hB
      replace kW0 := bat hb kW0
      replace kW1 := bat hb kW1
      replace kV0 := bat hb kV0
      replace kV1 := bat hb kV1
      replace kG0 := bat hb kG0
      replace kG1 := bat hb kG1
      replace kH0 := bat hb kH0
      replace kH1 := bat hb kH1
      replace ho0 := ho0.below hb
      replace ho1 := ho1.below hb
      replace hog' := hog'.below hb
      replace hoh' := hoh'.below hb
      replace B := B.trans (hb.mono B.size)
      clear hb
      go_wp2_with fail
      refine (eqN gz a17 a3 c17 c3 zs _ hoi.toSees ho0.toSees).mono ?_
      rintro e w18 ⟨rfl, hb⟩
      replace kW0 := bat hb kW0
      replace kW1 := bat hb kW1
      replace kV0 := bat hb kV0
      replace kV1 := bat hb kV1
      replace kG0 := bat hb kG0
      replace kG1 := bat hb kG1
      replace kH0 := bat hb kH0
      replace kH1 := bat hb kH1
      replace kI0 := bat hb kI0
      replace kI1 := bat hb kI1
      replace kJ0 := bat hb kJ0
      replace kJ1 := bat hb kJ1
      replace ho0 := ho0.below hb
      replace ho1 := ho1.below hb
      replace hog' := hog'.below hb
      replace hoh' := hoh'.below hb
      replace hoi := hoi.below hb
      replace hoj := hoj.below hb
      replace B := B.trans (hb.mono B.size)
      clear hb
      go_wp2_with fail
      refine (eqN gy a18 a4 c18 c4 ts _ hoj.toSees ho1.toSees).mono ?_
      rintro e w181 ⟨rfl, hb⟩
      replace kW0 := bat hb kW0
      replace kW1 := bat hb kW1
      replace kV0 := bat hb kV0
      replace kV1 := bat hb kV1
      replace kG0 := bat hb kG0
      replace kG1 := bat hb kG1
      replace kH0 := bat hb kH0
      replace kH1 := bat hb kH1
      replace kI0 := bat hb kI0
      replace kI1 := bat hb kI1
      replace kJ0 := bat hb kJ0
      replace kJ1 := bat hb kJ1
      replace ho0 := ho0.below hb
      replace ho1 := ho1.below hb
      replace hog' := hog'.below hb
      replace hoh' := hoh'.below hb
      replace hoi := hoi.below hb
      replace hoj := hoj.below hb
      replace B := B.trans (hb.mono B.size)
      clear hb
      clear hoi
      clear hoj
      clear ho0
      clear ho1
      clear kI0 kI1
      clear kJ0 kJ1
      clear kW0 kW1
      clear kV0 kV1
      go_wp2_with fail
      refine (heldN gz a7 c7 zs.length 1 _ hog'.toSees (by decide) (by omega)).mono ?_
      rintro e w19 ⟨rfl, hb⟩
      replace kG0 := bat hb kG0
      replace kG1 := bat hb kG1
      replace kH0 := bat hb kH0
      replace kH1 := bat hb kH1
      replace hog' := hog'.below hb
      replace hoh' := hoh'.below hb
      replace B := B.trans (hb.mono B.size)
      clear hb
      have hk1 : decide ((1 : Int) + zs.length < 0) = false := by simp; omega
      go_wp2_with fail
      clear hk1
      refine (heldN gy a8 c8 ts.length (1 + zs.length) _ hoh'.toSees (by omega) (by omega)).mono ?_
      rintro e w20 ⟨rfl, hb⟩
      replace kG0 := bat hb kG0
      replace kG1 := bat hb kG1
      replace kH0 := bat hb kH0
      replace kH1 := bat hb kH1
      replace hog' := hog'.below hb
      replace hoh' := hoh'.below hb
      replace B := B.trans (hb.mono B.size)
      clear hb
      have hk2 : decide ((1 : Int) + zs.length + ts.length < 0) = false := by simp; omega
      go_wp2
      go_ret
      exact ⟨rfl, B⟩
    · go_enter Try.func7, Try.ntmps7
      go_wp2_with fail
      refine (szN g a c xs.length 1048576 _ (by omega) hm).mono ?_
      rintro e w1 ⟨rfl, hb⟩
      rw [if_neg (by omega)]
      have hbb := below1 (w.alloc (.cells #[.bool g, .slice a xs.length c] 24)) (.cells #[.bool g', .slice a' ys.length c'] 24)
      obtain ⟨kB0, kB1⟩ := var_new (w.alloc (.cells #[.bool g, .slice a xs.length c] 24)) g' a' ys.length c' 24
      rw [World.size_alloc] at kB0 kB1
      replace kB0 := bat hb kB0
      replace kB1 := bat hb kB1
      have B := (below2 w _ _).trans (hb.mono (by simp; omega))
      clear hb hbb h k
      go_wp2_with fail
      refine (szN g' a' c' ys.length (1048576 - xs.length) _ (by omega) km).mono ?_
      rintro e w2 ⟨rfl, hb⟩
      rw [if_pos (by omega)]
      go_wp2
      go_ret
      exact ⟨rfl, B.trans (hb.mono B.size)⟩
  · go_enter Try.func7, Try.ntmps7
    go_wp2_with fail
    refine (szN g a c xs.length 1048576 _ (by omega) hm).mono ?_
    rintro e w1 ⟨rfl, hb1⟩
    rw [if_pos (by omega)]
    go_wp2
    go_ret
    exact ⟨rfl, (below2 _ _ _).trans (hb1.mono (by simp; omega))⟩
end Go.Proofs.Yteahbmadiideiai
