/- The text of a shape, of the specification: l7Word, l7Row, l7Text, ShapeText. -/
import Derived.Test.YtneilolpmjblhaaDoorTxtM
import Derived.Test.YtneilolpmjblhaaDoorEq
import Derived.Test.YtneilolpmjblhaaDoorSegS
import Derived.Test.YtneilolpmjblhaaDoorHeld
namespace Go.Proofs.YtneilolpmjblhaaDoor
open Go.RowKit

/-- The text of an int's number. -/
structure NumAt (w : World) (v : Value) (n : Int) : Prop where
  is : ∃ g a c us, v = .agg #[.bool g, .slice a us.length c] ∧ Sees w a c us ∧ tk g us = n
theorem numAt {base : Nat} {w : World} {v : Value} {n : Int} (h : IsNum base w v n) (h0 : -9223372036854775808 ≤ n) (h1 : n ≤ 9223372036854775807) : NumAt w v n := by
  obtain ⟨a, c, ys, rfl, o, nn, hv⟩ := h
  have hm : mg n < 4294967296 ^ 24 := by
    have e : mg n < 4294967296 ^ 2 := by
      unfold mg
      have : (4294967296 : Int) ^ 2 = 18446744073709551616 := by decide
      rw [this]
      split <;> omega
    exact Int.lt_of_lt_of_le e (by decide)
  have l := len_le o.lim nn (by rw [hv]; exact hm)
  exact ⟨_, a, c, ys, rfl, o.toSees, (tk_val o.lim nn l hv).2⟩
theorem numText_at {v : Value} {n : Int} (w : World) (h : NumAt w v n) :
    Calls Tryd.prog 30 #[v] w fun e w' => e = .returned (.string (numT n)) ∧ Below w.heap.size w w' := by
  obtain ⟨g, a, c, us, rfl, hs, ht⟩ := h.is
  have := specNumText g a c us w hs
  rw [ht] at this
  exact this

set_option maxRecDepth 20000 in
set_option maxHeartbeats 1000000 in
theorem l7Word_any (k : Int) (hk : 1 ≤ k ∧ k ≤ 5) (w : World) :
    Calls Tryd.prog 20 #[.int .i64 k] w fun e w' => ∃ u : ByteArray, e = .returned (.string u) ∧ u ++ ⟨#[32]⟩ = wdT k ∧ u.size ≤ 6 ∧ Below w.heap.size w w' := by
  have B0 := below1 w (.cells #[.string ⟨#[]⟩, .string ⟨#[80, 79, 73, 78, 84]⟩, .string ⟨#[80, 79, 73, 78, 84, 83]⟩, .string ⟨#[76, 73, 78, 69]⟩, .string ⟨#[76, 73, 78, 69, 83]⟩, .string ⟨#[65, 82, 69, 65]⟩] 9)
  have K : k = 1 ∨ k = 2 ∨ k = 3 ∨ k = 4 ∨ k = 5 := by omega
  rcases K with rfl | rfl | rfl | rfl | rfl <;>
  · go_enter Tryd.func20, Tryd.ntmps20
    go_wp2
    go_ret
    exact ⟨_, rfl, by first | rfl | decide, by decide, B0⟩

set_option maxRecDepth 20000 in
set_option maxHeartbeats 4000000 in
theorem l7Row_any (a : Option Addr) (c : Nat) (ps : List (Int × Int)) (w : World) (h : SeesP w a c ps) (ok : okL ps = true) (h0 : 0 < ps.length) (h1 : ps.length ≤ 60) :
    Calls Tryd.prog 21 #[.slice a ps.length c] w fun e w' => e = .returned (.string (rwT ps)) ∧ Below w.heap.size w w' := by
  have hm := h.max
  have hf := h.fits
  unfold maxLen at hm
  have SZ : Hid (∀ j, (jn (ps.map ptT) j).size ≤ j * 45) := jn_size (S := 43) (fun t ht => by
    obtain ⟨p, hp, rfl⟩ := List.mem_map.1 ht
    exact ptT_size (ok_at ok hp))
  have OK : Hid (okL ps = true) := ok
  have TL : Hid ((ps.map ptT).length = ps.length) := List.length_map ..
  have TG : Hid (∀ j (hj : j < ps.length), (ps.map ptT)[j]?.getD ⟨#[]⟩ = ptT (ps[j]?.getD (0, 0))) := fun j hj => by
    rw [List.getElem?_map, List.getElem?_eq_getElem hj]; rfl
  unfold rwT lsT
  rw [TL.out]
  generalize HTS : ps.map ptT = ts at *
  clear ok TL HTS
  go_enter Tryd.func21, Tryd.ntmps21
  go_wp2
  go_loopw [3, 4] (fun s3 s4 wr => ∃ (j : Nat) (u : ByteArray), j ≤ ps.length ∧ s4 = .int .i64 j ∧ s3 = .string u ∧ Hid (u = ⟨#[40]⟩ ++ jn ts j) ∧ Below w.heap.size w wr) (fun _ s4 _ => ps.length - (intOf s4).toNat)
  case atStart => exact ⟨0, _, Nat.zero_le _, rfl, rfl, (ba_empty _).symm, Below.refl _ _⟩
  case round =>
    obtain ⟨j, u, hj, rfl, rfl, hu, B⟩ := hrel
    rename World => wr
    have us : u.size ≤ 2800 := by
      rw [hu.out, ByteArray.size_append]
      have := SZ.out j
      have e : (⟨#[40]⟩ : ByteArray).size = 1 := rfl
      omega
    by_cases hlt : j < ps.length
    · obtain ⟨b, off, rfl, hc⟩ := (h.below B).cells (by intro e; simp [e] at h0)
      obtain ⟨g1, g2⟩ := hc j hlt
      have bd := ok_at OK.out (p := ps[j]?.getD (0, 0)) (by rw [List.getElem?_eq_getElem hlt]; exact List.getElem_mem hlt)
      have TJ := TG.out j hlt
      generalize ps[j]?.getD (0, 0) = p at *
      obtain ⟨x, y⟩ := p
      simp only at g1 g2 bd
      unfold ptT at TJ
      simp only at TJ
      have nx := numT_size20 (n := x) (by omega) (by omega)
      have ny := numT_size20 (n := y) (by omega) (by omega)
      obtain ⟨tx, HX⟩ : ∃ t, Hid (numT x = t) := ⟨_, rfl⟩
      obtain ⟨ty, HY⟩ : ∃ t, Hid (numT y = t) := ⟨_, rfl⟩
      rw [HX.out] at nx TJ
      rw [HY.out] at ny TJ
      have TJH : Hid _ := TJ
      clear hc TJ
      by_cases hj0 : j = 0
      · subst hj0
        simp only [Nat.zero_mul, Nat.add_zero] at g1 g2
        have nu : u.size + tx.size ≤ 9223372036854775807 := by omega
        have e1 : (u ++ tx).size = u.size + tx.size := ByteArray.size_append
        have n2 : u.size + tx.size + 1 ≤ 9223372036854775807 := by omega
        have e2 : (u ++ tx ++ ⟨#[32]⟩).size = u.size + tx.size + 1 := by rw [ByteArray.size_append, e1]; rfl
        have n3 : u.size + tx.size + 1 + ty.size ≤ 9223372036854775807 := by omega
        have FIN : Hid (u ++ tx ++ ⟨#[32]⟩ ++ ty = ⟨#[40]⟩ ++ jn ts (0 + 1)) := by
          show _ = _
          rw [hu.out, show jn ts 0 = ⟨#[]⟩ from rfl, ba_empty, show jn ts (0 + 1) = ts[0]?.getD ⟨#[]⟩ from rfl, TJH.out]
          simp only [ba_assoc]
        go_wp2_with fail
        have N := (B.drew : Below w.heap.size w _)
        have k0 : wr.drew.cell? ⟨b, off, none⟩ = some (.int .i64 x) ∧ wr.drew.cell? ⟨b, off + 1, none⟩ = some (.int .i64 y) := ⟨g1, g2⟩
        refine wp_region_held_drew (S := fun W => W.cell? ⟨b, off, none⟩ = some (.int .i64 x) ∧ W.cell? ⟨b, off + 1, none⟩ = some (.int .i64 y)) (by kernel_rfl) k0 (fun hHeld => ?_)
        clear hHeld
        revert N k0
        generalize wr.drew = ww0
        intro N k0
        refine takeW (i := 0) (by simp only [List.getElem?_toArray, List.getElem?_cons_zero]; exact rfl) (by kernel_rfl) (by kernel_rfl) (by kernel_rfl) (by exact fun _ _ _ h => h) (by rfl) (by intro wq hSw; go_simp <;> with_reducible rfl) (by assumption) ?_
        try simp only [Act.put, List.setIfInBounds_toArray, List.set_cons_zero, List.set_cons_succ]
        refine takeW (i := 1) (by simp only [List.getElem?_toArray, List.getElem?_cons_succ, List.getElem?_cons_zero]; exact rfl) (by kernel_rfl) (by kernel_rfl) (by kernel_rfl) (by exact fun _ _ _ h => h) (by rfl) (by intro wq hSw; go_simp <;> with_reducible rfl) (by assumption) ?_
        try simp only [Act.put, List.setIfInBounds_toArray, List.set_cons_zero, List.set_cons_succ]
        refine takeW (i := 2) (by simp only [List.getElem?_toArray, List.getElem?_cons_succ, List.getElem?_cons_zero]; exact rfl) (by kernel_rfl) (by kernel_rfl) (by kernel_rfl) (by exact fun _ _ _ h => h) (by rfl) (by intro wq hSw; go_simp <;> with_reducible rfl) (by assumption) ?_
        try simp only [Act.put, List.setIfInBounds_toArray, List.set_cons_zero, List.set_cons_succ]
        refine takeW (i := 3) (by simp only [List.getElem?_toArray, List.getElem?_cons_succ, List.getElem?_cons_zero]; exact rfl) (by kernel_rfl) (by kernel_rfl) (by kernel_rfl) (by exact fun _ _ _ h => h) (by rfl) (by intro wq hSw; go_simp <;> with_reducible rfl) (by assumption) ?_
        try simp only [Act.put, List.setIfInBounds_toArray, List.set_cons_zero, List.set_cons_succ]
        refine takeW (i := 4) (by simp only [List.getElem?_toArray, List.getElem?_cons_succ, List.getElem?_cons_zero]; exact rfl) (by kernel_rfl) (by kernel_rfl) (by kernel_rfl) (by exact fun _ _ _ h => h) (by rfl) (by intro wq hSw; go_simp <;> with_reducible rfl) (by assumption) ?_
        try simp only [Act.put, List.setIfInBounds_toArray, List.set_cons_zero, List.set_cons_succ]
        refine takeW (i := 5) (by simp only [List.getElem?_toArray, List.getElem?_cons_succ, List.getElem?_cons_zero]; exact rfl) (by kernel_rfl) (by kernel_rfl) (by kernel_rfl) (by exact fun _ _ _ h => h) (by rfl) (by intro wq hSw; obtain ⟨z0, z1⟩ := hSw; go_simp <;> with_reducible rfl) (by assumption) ?_
        try simp only [Act.put, List.setIfInBounds_toArray, List.set_cons_zero, List.set_cons_succ]
        refine takeW (i := 10) (by simp only [List.getElem?_toArray, List.getElem?_cons_succ, List.getElem?_cons_zero]; exact rfl) (by kernel_rfl) (by kernel_rfl) (by kernel_rfl) (by exact fun _ _ _ h => h) (by rfl) (by intro wq hSw; go_simp <;> with_reducible rfl) (by assumption) ?_
        try simp only [Act.put, List.setIfInBounds_toArray, List.set_cons_zero, List.set_cons_succ]
        refine takeW (i := 11) (by simp only [List.getElem?_toArray, List.getElem?_cons_succ, List.getElem?_cons_zero]; exact rfl) (by kernel_rfl) (by kernel_rfl) (by kernel_rfl) (by exact fun _ _ _ h => h) (by rfl) (by intro wq hSw; go_simp <;> with_reducible rfl) (by assumption) ?_
        try simp only [Act.put, List.setIfInBounds_toArray, List.set_cons_zero, List.set_cons_succ]
        refine takeW (i := 12) (by simp only [List.getElem?_toArray, List.getElem?_cons_succ, List.getElem?_cons_zero]; exact rfl) (by kernel_rfl) (by kernel_rfl) (by kernel_rfl) (by exact fun _ _ _ h => h) (by rfl) (by intro wq hSw; go_simp <;> with_reducible rfl) (by assumption) ?_
        try simp only [Act.put, List.setIfInBounds_toArray, List.set_cons_zero, List.set_cons_succ]
        refine takeW (i := 13) (by simp only [List.getElem?_toArray, List.getElem?_cons_succ, List.getElem?_cons_zero]; exact rfl) (by kernel_rfl) (by kernel_rfl) (by kernel_rfl) (by exact fun _ _ _ h => h) (by rfl) (by intro wq hSw; go_simp <;> with_reducible rfl) (by assumption) ?_
        try simp only [Act.put, List.setIfInBounds_toArray, List.set_cons_zero, List.set_cons_succ]
        refine takeW (i := 14) (by simp only [List.getElem?_toArray, List.getElem?_cons_succ, List.getElem?_cons_zero]; exact rfl) (by kernel_rfl) (by kernel_rfl) (by kernel_rfl) (by exact fun _ _ _ h => h) (by rfl) (by intro wq hSw; obtain ⟨z0, z1⟩ := hSw; go_simp <;> with_reducible rfl) (by assumption) ?_
        try simp only [Act.put, List.setIfInBounds_toArray, List.set_cons_zero, List.set_cons_succ]
        refine wpAnyH_ready (rs := [6]) (by kernel_rfl) (by simp) (AllReadyH.cons (by simp only [List.getElem?_toArray, List.getElem?_cons_succ, List.getElem?_cons_zero]; exact rfl) (fun K hK => ?_) AllReadyH.nil)
        go_simp
        go_at_call 31
        refine (specOf x _ (by omega) (by omega)).mono ?_
        rintro e q1 ⟨v1, rfl, I1, b1⟩
        have M1 := numAt I1 (by omega) (by omega)
        have N1 := N.trans (b1.mono N.size)
        have k1 : q1.cell? ⟨b, off, none⟩ = some (.int .i64 x) ∧ q1.cell? ⟨b, off + 1, none⟩ = some (.int .i64 y) := ⟨bat b1 k0.1, bat b1 k0.2⟩
        refine hK.out _ _ k1 (fun hHeld => ?_)
        clear hK K hHeld b1 I1
        try simp only [Act.put, List.setIfInBounds_toArray, List.set_cons_zero, List.set_cons_succ]
        refine wpAnyH_ready (rs := [7]) (by kernel_rfl) (by simp) (AllReadyH.cons (by simp only [List.getElem?_toArray, List.getElem?_cons_succ, List.getElem?_cons_zero]; exact rfl) (fun K hK => ?_) AllReadyH.nil)
        go_simp
        go_at_call 30
        refine (numText_at _ M1).mono ?_
        rintro e q2 ⟨rfl, b2⟩
        rw [HX.out]
        have N2 := N1.trans (b2.mono N1.size)
        have k2 : q2.cell? ⟨b, off, none⟩ = some (.int .i64 x) ∧ q2.cell? ⟨b, off + 1, none⟩ = some (.int .i64 y) := ⟨bat b2 k1.1, bat b2 k1.2⟩
        refine hK.out _ _ k2 (fun hHeld => ?_)
        clear hK K hHeld b2
        try simp only [Act.put, List.setIfInBounds_toArray, List.set_cons_zero, List.set_cons_succ]
        refine takeW (i := 8) (by simp only [List.getElem?_toArray, List.getElem?_cons_succ, List.getElem?_cons_zero]; exact rfl) (by kernel_rfl) (by kernel_rfl) (by kernel_rfl) (by exact fun _ _ _ h => h) (by rfl) (by intro wq hSw; go_simp <;> (first | with_reducible rfl | rw [if_neg (by omega)])) (by assumption) ?_
        try simp only [Act.put, List.setIfInBounds_toArray, List.set_cons_zero, List.set_cons_succ]
        refine takeW (i := 9) (by simp only [List.getElem?_toArray, List.getElem?_cons_succ, List.getElem?_cons_zero]; exact rfl) (by kernel_rfl) (by kernel_rfl) (by kernel_rfl) (by exact fun _ _ _ h => h) (by rfl) (by intro wq hSw; go_simp <;> (first | with_reducible rfl | rw [if_neg (by omega)])) (by assumption) ?_
        try simp only [Act.put, List.setIfInBounds_toArray, List.set_cons_zero, List.set_cons_succ]
        refine wpAnyH_ready (rs := [15]) (by kernel_rfl) (by simp) (AllReadyH.cons (by simp only [List.getElem?_toArray, List.getElem?_cons_succ, List.getElem?_cons_zero]; exact rfl) (fun K hK => ?_) AllReadyH.nil)
        go_simp
        go_at_call 31
        refine (specOf y _ (by omega) (by omega)).mono ?_
        rintro e q3 ⟨v3, rfl, I3, b3⟩
        have M3 := numAt I3 (by omega) (by omega)
        have N3 := N2.trans (b3.mono N2.size)
        have k3 : q3.cell? ⟨b, off, none⟩ = some (.int .i64 x) ∧ q3.cell? ⟨b, off + 1, none⟩ = some (.int .i64 y) := ⟨bat b3 k2.1, bat b3 k2.2⟩
        refine hK.out _ _ k3 (fun hHeld => ?_)
        clear hK K hHeld b3 I3
        try simp only [Act.put, List.setIfInBounds_toArray, List.set_cons_zero, List.set_cons_succ]
        refine wpAnyH_ready (rs := [16]) (by kernel_rfl) (by simp) (AllReadyH.cons (by simp only [List.getElem?_toArray, List.getElem?_cons_succ, List.getElem?_cons_zero]; exact rfl) (fun K hK => ?_) AllReadyH.nil)
        go_simp
        go_at_call 30
        refine (numText_at _ M3).mono ?_
        rintro e q4 ⟨rfl, b4⟩
        rw [HY.out]
        have N4 := N3.trans (b4.mono N3.size)
        have k4 : q4.cell? ⟨b, off, none⟩ = some (.int .i64 x) ∧ q4.cell? ⟨b, off + 1, none⟩ = some (.int .i64 y) := ⟨bat b4 k3.1, bat b4 k3.2⟩
        refine hK.out _ _ k4 (fun hHeld => ?_)
        clear hK K hHeld b4
        try simp only [Act.put, List.setIfInBounds_toArray, List.set_cons_zero, List.set_cons_succ]
        refine takeW (i := 17) (by simp only [List.getElem?_toArray, List.getElem?_cons_succ, List.getElem?_cons_zero]; exact rfl) (by kernel_rfl) (by kernel_rfl) (by kernel_rfl) (by exact fun _ _ _ h => h) (by rfl) (by intro wq hSw; go_simp <;> (first | with_reducible rfl | rw [if_neg (by omega)])) (by assumption) ?_
        try simp only [Act.put, List.setIfInBounds_toArray, List.set_cons_zero, List.set_cons_succ]
        refine takeW (i := 18) (by simp only [List.getElem?_toArray, List.getElem?_cons_succ, List.getElem?_cons_zero]; exact rfl) (by kernel_rfl) (by kernel_rfl) (by kernel_rfl) (by exact fun _ _ _ h => h) (by rfl) (by intro wq hSw; go_simp <;> with_reducible rfl) (by assumption) ?_
        try simp only [Act.put, List.setIfInBounds_toArray, List.set_cons_zero, List.set_cons_succ]
        refine wpAnyH_done (by kernel_rfl) ?_ _
        go_wp2
        go_roundw
        case rel => exact ⟨1, _, by omega, rfl, rfl, FIN, N4⟩
        case measure => simp [intOf]; omega

      · have hjp : 0 < j := by omega
        have ec : (u ++ ⟨#[44, 32]⟩).size = u.size + 2 := by rw [ByteArray.size_append]; rfl
        have nc : u.size + 2 ≤ 9223372036854775807 := by omega
        obtain ⟨uc, HUC⟩ : ∃ t, Hid (u ++ ⟨#[44, 32]⟩ = t) := ⟨_, rfl⟩
        rw [HUC.out] at ec
        replace ec : uc.size ≤ 2802 := by omega
        go_upto_region 7 with fail
        rw [HUC.out]
        have nu : uc.size + tx.size ≤ 9223372036854775807 := by omega
        have e1 : (uc ++ tx).size = uc.size + tx.size := ByteArray.size_append
        have n2 : uc.size + tx.size + 1 ≤ 9223372036854775807 := by omega
        have e2 : (uc ++ tx ++ ⟨#[32]⟩).size = uc.size + tx.size + 1 := by rw [ByteArray.size_append, e1]; rfl
        have n3 : uc.size + tx.size + 1 + ty.size ≤ 9223372036854775807 := by omega
        have FIN : Hid (uc ++ tx ++ ⟨#[32]⟩ ++ ty = ⟨#[40]⟩ ++ jn ts (j + 1)) := by
          show _ = _
          rw [jn_step ts hjp, TJH.out, ← HUC.out, hu.out]
          simp only [ba_assoc]
        have N := (B.drew : Below w.heap.size w _)
        have k0 : wr.drew.cell? ⟨b, off + j * 2, none⟩ = some (.int .i64 x) ∧ wr.drew.cell? ⟨b, off + j * 2 + 1, none⟩ = some (.int .i64 y) := ⟨g1, g2⟩
        refine wp_region_held_drew (S := fun W => W.cell? ⟨b, off + j * 2, none⟩ = some (.int .i64 x) ∧ W.cell? ⟨b, off + j * 2 + 1, none⟩ = some (.int .i64 y)) (by kernel_rfl) k0 (fun hHeld => ?_)
        clear hHeld
        revert N k0
        generalize wr.drew = ww0
        intro N k0
        refine takeW (i := 0) (by simp only [List.getElem?_toArray, List.getElem?_cons_zero]; exact rfl) (by kernel_rfl) (by kernel_rfl) (by kernel_rfl) (by exact fun _ _ _ h => h) (by rfl) (by intro wq hSw; go_simp <;> with_reducible rfl) (by assumption) ?_
        try simp only [Act.put, List.setIfInBounds_toArray, List.set_cons_zero, List.set_cons_succ]
        refine takeW (i := 1) (by simp only [List.getElem?_toArray, List.getElem?_cons_succ, List.getElem?_cons_zero]; exact rfl) (by kernel_rfl) (by kernel_rfl) (by kernel_rfl) (by exact fun _ _ _ h => h) (by rfl) (by intro wq hSw; go_simp <;> with_reducible rfl) (by assumption) ?_
        try simp only [Act.put, List.setIfInBounds_toArray, List.set_cons_zero, List.set_cons_succ]
        refine takeW (i := 2) (by simp only [List.getElem?_toArray, List.getElem?_cons_succ, List.getElem?_cons_zero]; exact rfl) (by kernel_rfl) (by kernel_rfl) (by kernel_rfl) (by exact fun _ _ _ h => h) (by rfl) (by intro wq hSw; go_simp <;> with_reducible rfl) (by assumption) ?_
        try simp only [Act.put, List.setIfInBounds_toArray, List.set_cons_zero, List.set_cons_succ]
        refine takeW (i := 3) (by simp only [List.getElem?_toArray, List.getElem?_cons_succ, List.getElem?_cons_zero]; exact rfl) (by kernel_rfl) (by kernel_rfl) (by kernel_rfl) (by exact fun _ _ _ h => h) (by rfl) (by intro wq hSw; go_simp <;> with_reducible rfl) (by assumption) ?_
        try simp only [Act.put, List.setIfInBounds_toArray, List.set_cons_zero, List.set_cons_succ]
        refine takeW (i := 4) (by simp only [List.getElem?_toArray, List.getElem?_cons_succ, List.getElem?_cons_zero]; exact rfl) (by kernel_rfl) (by kernel_rfl) (by kernel_rfl) (by exact fun _ _ _ h => h) (by rfl) (by intro wq hSw; go_simp <;> with_reducible rfl) (by assumption) ?_
        try simp only [Act.put, List.setIfInBounds_toArray, List.set_cons_zero, List.set_cons_succ]
        refine takeW (i := 5) (by simp only [List.getElem?_toArray, List.getElem?_cons_succ, List.getElem?_cons_zero]; exact rfl) (by kernel_rfl) (by kernel_rfl) (by kernel_rfl) (by exact fun _ _ _ h => h) (by rfl) (by intro wq hSw; obtain ⟨z0, z1⟩ := hSw; go_simp <;> with_reducible rfl) (by assumption) ?_
        try simp only [Act.put, List.setIfInBounds_toArray, List.set_cons_zero, List.set_cons_succ]
        refine takeW (i := 10) (by simp only [List.getElem?_toArray, List.getElem?_cons_succ, List.getElem?_cons_zero]; exact rfl) (by kernel_rfl) (by kernel_rfl) (by kernel_rfl) (by exact fun _ _ _ h => h) (by rfl) (by intro wq hSw; go_simp <;> with_reducible rfl) (by assumption) ?_
        try simp only [Act.put, List.setIfInBounds_toArray, List.set_cons_zero, List.set_cons_succ]
        refine takeW (i := 11) (by simp only [List.getElem?_toArray, List.getElem?_cons_succ, List.getElem?_cons_zero]; exact rfl) (by kernel_rfl) (by kernel_rfl) (by kernel_rfl) (by exact fun _ _ _ h => h) (by rfl) (by intro wq hSw; go_simp <;> with_reducible rfl) (by assumption) ?_
        try simp only [Act.put, List.setIfInBounds_toArray, List.set_cons_zero, List.set_cons_succ]
        refine takeW (i := 12) (by simp only [List.getElem?_toArray, List.getElem?_cons_succ, List.getElem?_cons_zero]; exact rfl) (by kernel_rfl) (by kernel_rfl) (by kernel_rfl) (by exact fun _ _ _ h => h) (by rfl) (by intro wq hSw; go_simp <;> with_reducible rfl) (by assumption) ?_
        try simp only [Act.put, List.setIfInBounds_toArray, List.set_cons_zero, List.set_cons_succ]
        refine takeW (i := 13) (by simp only [List.getElem?_toArray, List.getElem?_cons_succ, List.getElem?_cons_zero]; exact rfl) (by kernel_rfl) (by kernel_rfl) (by kernel_rfl) (by exact fun _ _ _ h => h) (by rfl) (by intro wq hSw; go_simp <;> with_reducible rfl) (by assumption) ?_
        try simp only [Act.put, List.setIfInBounds_toArray, List.set_cons_zero, List.set_cons_succ]
        refine takeW (i := 14) (by simp only [List.getElem?_toArray, List.getElem?_cons_succ, List.getElem?_cons_zero]; exact rfl) (by kernel_rfl) (by kernel_rfl) (by kernel_rfl) (by exact fun _ _ _ h => h) (by rfl) (by intro wq hSw; obtain ⟨z0, z1⟩ := hSw; go_simp <;> with_reducible rfl) (by assumption) ?_
        try simp only [Act.put, List.setIfInBounds_toArray, List.set_cons_zero, List.set_cons_succ]
        refine wpAnyH_ready (rs := [6]) (by kernel_rfl) (by simp) (AllReadyH.cons (by simp only [List.getElem?_toArray, List.getElem?_cons_succ, List.getElem?_cons_zero]; exact rfl) (fun K hK => ?_) AllReadyH.nil)
        go_simp
        go_at_call 31
        refine (specOf x _ (by omega) (by omega)).mono ?_
        rintro e q1 ⟨v1, rfl, I1, b1⟩
        have M1 := numAt I1 (by omega) (by omega)
        have N1 := N.trans (b1.mono N.size)
        have k1 : q1.cell? ⟨b, off + j * 2, none⟩ = some (.int .i64 x) ∧ q1.cell? ⟨b, off + j * 2 + 1, none⟩ = some (.int .i64 y) := ⟨bat b1 k0.1, bat b1 k0.2⟩
        refine hK.out _ _ k1 (fun hHeld => ?_)
        clear hK K hHeld b1 I1
        try simp only [Act.put, List.setIfInBounds_toArray, List.set_cons_zero, List.set_cons_succ]
        refine wpAnyH_ready (rs := [7]) (by kernel_rfl) (by simp) (AllReadyH.cons (by simp only [List.getElem?_toArray, List.getElem?_cons_succ, List.getElem?_cons_zero]; exact rfl) (fun K hK => ?_) AllReadyH.nil)
        go_simp
        go_at_call 30
        refine (numText_at _ M1).mono ?_
        rintro e q2 ⟨rfl, b2⟩
        rw [HX.out]
        have N2 := N1.trans (b2.mono N1.size)
        have k2 : q2.cell? ⟨b, off + j * 2, none⟩ = some (.int .i64 x) ∧ q2.cell? ⟨b, off + j * 2 + 1, none⟩ = some (.int .i64 y) := ⟨bat b2 k1.1, bat b2 k1.2⟩
        refine hK.out _ _ k2 (fun hHeld => ?_)
        clear hK K hHeld b2
        try simp only [Act.put, List.setIfInBounds_toArray, List.set_cons_zero, List.set_cons_succ]
        refine takeW (i := 8) (by simp only [List.getElem?_toArray, List.getElem?_cons_succ, List.getElem?_cons_zero]; exact rfl) (by kernel_rfl) (by kernel_rfl) (by kernel_rfl) (by exact fun _ _ _ h => h) (by rfl) (by intro wq hSw; go_simp <;> (first | with_reducible rfl | rw [if_neg (by omega)])) (by assumption) ?_
        try simp only [Act.put, List.setIfInBounds_toArray, List.set_cons_zero, List.set_cons_succ]
        refine takeW (i := 9) (by simp only [List.getElem?_toArray, List.getElem?_cons_succ, List.getElem?_cons_zero]; exact rfl) (by kernel_rfl) (by kernel_rfl) (by kernel_rfl) (by exact fun _ _ _ h => h) (by rfl) (by intro wq hSw; go_simp <;> (first | with_reducible rfl | rw [if_neg (by omega)])) (by assumption) ?_
        try simp only [Act.put, List.setIfInBounds_toArray, List.set_cons_zero, List.set_cons_succ]
        refine wpAnyH_ready (rs := [15]) (by kernel_rfl) (by simp) (AllReadyH.cons (by simp only [List.getElem?_toArray, List.getElem?_cons_succ, List.getElem?_cons_zero]; exact rfl) (fun K hK => ?_) AllReadyH.nil)
        go_simp
        go_at_call 31
        refine (specOf y _ (by omega) (by omega)).mono ?_
        rintro e q3 ⟨v3, rfl, I3, b3⟩
        have M3 := numAt I3 (by omega) (by omega)
        have N3 := N2.trans (b3.mono N2.size)
        have k3 : q3.cell? ⟨b, off + j * 2, none⟩ = some (.int .i64 x) ∧ q3.cell? ⟨b, off + j * 2 + 1, none⟩ = some (.int .i64 y) := ⟨bat b3 k2.1, bat b3 k2.2⟩
        refine hK.out _ _ k3 (fun hHeld => ?_)
        clear hK K hHeld b3 I3
        try simp only [Act.put, List.setIfInBounds_toArray, List.set_cons_zero, List.set_cons_succ]
        refine wpAnyH_ready (rs := [16]) (by kernel_rfl) (by simp) (AllReadyH.cons (by simp only [List.getElem?_toArray, List.getElem?_cons_succ, List.getElem?_cons_zero]; exact rfl) (fun K hK => ?_) AllReadyH.nil)
        go_simp
        go_at_call 30
        refine (numText_at _ M3).mono ?_
        rintro e q4 ⟨rfl, b4⟩
        rw [HY.out]
        have N4 := N3.trans (b4.mono N3.size)
        have k4 : q4.cell? ⟨b, off + j * 2, none⟩ = some (.int .i64 x) ∧ q4.cell? ⟨b, off + j * 2 + 1, none⟩ = some (.int .i64 y) := ⟨bat b4 k3.1, bat b4 k3.2⟩
        refine hK.out _ _ k4 (fun hHeld => ?_)
        clear hK K hHeld b4
        try simp only [Act.put, List.setIfInBounds_toArray, List.set_cons_zero, List.set_cons_succ]
        refine takeW (i := 17) (by simp only [List.getElem?_toArray, List.getElem?_cons_succ, List.getElem?_cons_zero]; exact rfl) (by kernel_rfl) (by kernel_rfl) (by kernel_rfl) (by exact fun _ _ _ h => h) (by rfl) (by intro wq hSw; go_simp <;> (first | with_reducible rfl | rw [if_neg (by omega)])) (by assumption) ?_
        try simp only [Act.put, List.setIfInBounds_toArray, List.set_cons_zero, List.set_cons_succ]
        refine takeW (i := 18) (by simp only [List.getElem?_toArray, List.getElem?_cons_succ, List.getElem?_cons_zero]; exact rfl) (by kernel_rfl) (by kernel_rfl) (by kernel_rfl) (by exact fun _ _ _ h => h) (by rfl) (by intro wq hSw; go_simp <;> with_reducible rfl) (by assumption) ?_
        try simp only [Act.put, List.setIfInBounds_toArray, List.set_cons_zero, List.set_cons_succ]
        refine wpAnyH_done (by kernel_rfl) ?_ _
        go_wp2
        go_roundw
        case rel => exact ⟨j + 1, _, by omega, by go_num, rfl, FIN, N4⟩
        case measure => simp [intOf]; omega

    · obtain rfl : j = ps.length := by omega
      have E : Hid (u ++ ⟨#[41]⟩ = ⟨#[40]⟩ ++ jn ts ps.length ++ ⟨#[41]⟩) := by show _ = _; rw [hu.out]
      go_wp2
      go_ret
      exact ⟨ret_str E.out, B⟩
end Go.Proofs.YtneilolpmjblhaaDoor
