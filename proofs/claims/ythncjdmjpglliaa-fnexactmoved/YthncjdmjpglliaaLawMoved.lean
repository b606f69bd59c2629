/- The law on Moved: at every argument the program's Moved is the specification's, field by field; it writes into no argument and keeps nothing of one; its answer owns its memory. -/
import Derived.Test.YthncjdmjpglliaaMovS
import Derived.Test.YthncjdmjpglliaaMarkH
import Derived.Test.YthncjdmjpglliaaHeld
namespace Go.Proofs.Ythncjdmjpglliaa
open Go.RowKit

theorem upto_map (f : Int × Int → Int × Int) (rs : List (List (Int × Int))) : ∀ j, upto (rs.map (·.map f)) j = upto rs j
  | 0 => by simp [upto]
  | j + 1 => by simp only [upto]; rw [upto_map f rs j, rowA_map, List.length_map]
theorem mvV_upto {k bx bY : Int} {rs : List (List (Int × Int))} : upto (mvV k bx bY rs) (mvV k bx bY rs).length = upto rs rs.length := by
  unfold mvV
  cases mvOk k bx bY rs
  · rfl
  · simp only [if_true]
    rw [List.length_map, upto_map]
theorem keepG4' {W W' : World} {p q : Nat} {v0 v1 v2 v3 : Value} (k : W.cell? ⟨p, 0, none⟩ = some v0 ∧ W.cell? ⟨p, 1, none⟩ = some v1 ∧ W.cell? ⟨q, 0, none⟩ = some v2 ∧ W.cell? ⟨q, 1, none⟩ = some v3) (hb : Below W.heap.size W W') :
    W'.cell? ⟨p, 0, none⟩ = some v0 ∧ W'.cell? ⟨p, 1, none⟩ = some v1 ∧ W'.cell? ⟨q, 0, none⟩ = some v2 ∧ W'.cell? ⟨q, 1, none⟩ = some v3 :=
  ⟨bat hb k.1, bat hb k.2.1, bat hb k.2.2.1, bat hb k.2.2.2⟩

set_option maxRecDepth 20000 in
set_option maxHeartbeats 8000000 in
theorem lawMoved (n bx bY : Int) (a : Option Addr) (c : Nat) (rs : List (List (Int × Int))) (w : World) (h : SeesS w a c rs) (hbx : -9223372036854775808 ≤ bx ∧ bx ≤ 9223372036854775807) (hbY : -9223372036854775808 ≤ bY ∧ bY ≤ 9223372036854775807) :
    Calls Try.prog 4 #[.agg #[.int .i64 n, .slice a rs.length c], .agg #[.int .i64 bx, .int .i64 bY]] w fun e w' => e = .returned (.bool true) ∧ Below w.heap.size w w' := by
  have B0 := below2 w (.cells #[.int .i64 n, .slice a rs.length c] 24) (.cells #[.int .i64 bx, .int .i64 bY] 35)
  have V1 := (Box2.new w (lo := 0) (Nat.zero_le _) (.int .i64 n) (.slice a rs.length c) 24).below (below1 _ (.cells #[.int .i64 bx, .int .i64 bY] 35))
  have VQ := Box2.new (w.alloc (.cells #[.int .i64 n, .slice a rs.length c] 24)) (lo := 0) (Nat.zero_le _) (.int .i64 bx) (.int .i64 bY) 35
  rw [World.size_alloc] at VQ
  obtain ⟨ts, HT⟩ : ∃ u, Hid (mvV n bx bY rs = u) := ⟨_, rfl⟩
  obtain ⟨ok, HO⟩ : ∃ u, Hid (mvOk n bx bY rs = u) := ⟨_, rfl⟩
  have hok : (ok != ok) = false := by cases ok <;> rfl
  have TU : Hid (upto ts ts.length = upto rs rs.length) := by show _ = _; rw [← HT.out]; exact mvV_upto
  have HBX : Hid (-9223372036854775808 ≤ bx ∧ bx ≤ 9223372036854775807) := hbx
  have HBY : Hid (-9223372036854775808 ≤ bY ∧ bY ≤ 9223372036854775807) := hbY
  clear hbx hbY
  go_enter Try.func4, Try.ntmps4
  go_wp2_with fail
  generalize (w.alloc (.cells #[.int .i64 n, .slice a rs.length c] 24)).alloc (.cells #[.int .i64 bx, .int .i64 bY] 35) = W0 at *
  refine (szShape_any n a c rs 1048576 _ (h.below B0) (by omega)).mono ?_
  rintro e w1 ⟨z1, rfl, hz1, hb⟩
  replace B0 := B0.trans (hb.mono B0.size)
  replace V1 := V1.below hb
  replace VQ := VQ.below hb
  clear hb
  rcases hz1 with rfl | ⟨z10, hz1⟩
  · go_wp2
    go_ret
    exact ⟨rfl, B0⟩
  · have L1 : Hid (upto rs rs.length ≤ 1048576) := by show _ ≤ _; omega
    have L2 : Hid (upto ts ts.length ≤ 1048576) := by show _ ≤ _; rw [TU.out]; exact L1.out
    clear hz1
    obtain ⟨k0, k1, _, _⟩ := id V1
    obtain ⟨k2, k3, _, _⟩ := id VQ
    go_wp2_with fail
    go_cut [6, 7] (fun s6 s7 W => ∃ p e9 f9 vs9, s6 = .pointer (some ⟨p, 0, none⟩) ∧ s7 = .bool ok ∧ Hid (Box2 0 W p (.int .i64 n) (.slice e9 ts.length f9)) ∧ Hid (ShR w1.heap.size W (.slice e9 ts.length f9) vs9 ts) ∧ Hid ((∀ k, (Value.slice e9 ts.length f9).ownBlock = some k → k ≠ p) ∧ ∀ u ∈ vs9, ∀ k, u.ownBlock = some k → k ≠ p) ∧ w1.heap.size ≤ p ∧ Hid (Below w1.heap.size w1 W))
    case first =>
      as_aux_lemma =>
        refine wp_region_held_drew (S := Below w1.heap.size w1) (by kernel_rfl) ((Below.refl _ _).drew) (fun hHeld => ?_)
        have N : Below w1.heap.size w1 w1.drew := hHeld
        revert hHeld N
        generalize w1.drew = ww0
        intro hHeld N
        clear hHeld
        refine takeQ (i := 0) (gt rfl) (by kernel_rfl) (fun _ _ _ h => h) (by rfl) (by intro wq hSw; have q0 := bat hSw k0; have q1 := bat hSw k1; have q2 := bat hSw k2; have q3 := bat hSw k3; go_simp <;> with_reducible rfl) (by assumption) ?_
        try simp only [Act.put, sA, sB, sC]
        refine takeQ (i := 2) (gt rfl) (by kernel_rfl) (fun _ _ _ h => h) (by rfl) (by intro wq hSw; have q0 := bat hSw k0; have q1 := bat hSw k1; have q2 := bat hSw k2; have q3 := bat hSw k3; go_simp <;> with_reducible rfl) (by assumption) ?_
        try simp only [Act.put, sA, sB, sC]
        refine wpAnyH_ready (rs := [1, 8]) (by kernel_rfl) (by simp) (AllReadyH.cons (gt rfl) (fun K hK => ?_) (AllReadyH.cons (gt rfl) (fun K hK => ?_) AllReadyH.nil))
        · skip
          go_simp
          refine (toShapeX n a c rs _ (h.below (B0.trans (N.mono B0.size))) L1.out).mono ?_
          rintro e ww1 ⟨a3, c3, rfl, o3, hb, m3⟩
          replace N := N.trans (hb.mono N.size)
          clear hb
          refine hK.out _ _ N (fun hHeld => ?_)
          clear hK K hHeld
          try simp only [Act.put, sA, sB, sC]
          refine wpAnyH_ready (rs := [3, 8]) (by kernel_rfl) (by simp) (AllReadyH.cons (gt rfl) (fun K hK => ?_) (AllReadyH.cons (gt rfl) (fun K hK => ?_) AllReadyH.nil))
          · skip
            go_simp
            refine (toPt_any bx bY _).mono ?_
            rintro e ww2 ⟨rfl, hb⟩
            replace o3 := o3.below hb
            replace m3 := m3.below hb
            replace N := N.trans (hb.mono N.size)
            clear hb
            refine hK.out _ _ N (fun hHeld => ?_)
            clear hK K hHeld
            try simp only [Act.put, sA, sB, sC]
            refine wpAnyH_ready (rs := [4, 8]) (by kernel_rfl) (by simp) (AllReadyH.cons (gt rfl) (fun K hK => ?_) (AllReadyH.cons (gt rfl) (fun K hK => ?_) AllReadyH.nil))
            · skip
              go_simp
              refine (specMoved n bx bY a3 c3 rs _ o3.sees m3 L1.out HBX.out HBY.out).mono ?_
              rintro e ww3 ⟨v9, vs9, rfl, R9, hb⟩
              rw [HT.out] at R9
              rw [HO.out]
              obtain ⟨e9, f9, rfl, _, _⟩ := R9.shape
              have l9 := R9.len.out
              rw [l9] at R9 ⊢
              clear l9
              have LB := N.size
              replace R9 := R9.base LB
              replace o3 := o3.below hb
              replace m3 := m3.below hb
              replace N := N.trans (hb.mono N.size)
              clear hb
              refine hK.out _ _ N (fun hHeld => ?_)
              clear hK K hHeld
              try simp only [Act.put, sA, sB, sC]
              refine takeQ (i := 5) (gt rfl) (by kernel_rfl) (fun _ _ _ h => h) (by rfl) (by intro wq _; go_simp <;> with_reducible rfl) (by assumption) ?_
              try simp only [Act.put, sA, sB, sC]
              refine takeQ (i := 6) (gt rfl) (by kernel_rfl) (fun _ _ _ h => h) (by rfl) (by intro wq _; go_simp <;> with_reducible rfl) (by assumption) ?_
              try simp only [Act.put, sA, sB, sC]
              refine takeQ (i := 7) (gt rfl) (by kernel_rfl) (fun _ _ _ h => h) (by rfl) (by intro wq _; go_simp <;> with_reducible rfl) (by assumption) ?_
              try simp only [Act.put, sA, sB, sC]
              refine wpAnyH_ready (rs := [8]) (by kernel_rfl) (by simp) (AllReadyH.cons (gt rfl) (fun K hK => ?_) AllReadyH.nil)
              go_simp
              have BX := Box2.new ww3 (lo := 0) (Nat.zero_le _) (.int .i64 0) (.slice none 0 0) 28
              have hb := below1 ww3 (.cells #[.int .i64 0, .slice none 0 0] 28)
              have PL : w1.heap.size ≤ ww3.heap.size := N.size
              have AP : Hid ((∀ k, (Value.slice e9 ts.length f9).ownBlock = some k → k ≠ ww3.heap.size) ∧ ∀ u ∈ vs9, ∀ k, u.ownBlock = some k → k ≠ ww3.heap.size) := ⟨fun k hk => by have := (R9.lts.1 k hk).2; omega, fun u hu k hk => by have := (R9.lts.2 u hu k hk).2; omega⟩
              replace o3 := o3.below hb
              replace m3 := m3.below hb
              replace R9 := R9.below hb
              replace N := N.trans (hb.mono N.size)
              clear hb
              generalize ww3.alloc (.cells #[.int .i64 0, .slice none 0 0] 28) = ww4 at *
              generalize ww3.heap.size = pB at *
              refine hK.out _ _ N (fun hHeld => ?_)
              clear hK K hHeld
              try simp only [Act.put, sA, sB, sC]
              refine wpAnyH_ready (rs := [9]) (by kernel_rfl) (by simp) (AllReadyH.cons (gt rfl) (fun K hK => ?_) AllReadyH.nil)
              have z0 := BX.c0
              have z1 := BX.c1
              have zf := BX.fr
              go_simp
              clear z0 z1 zf
              have gq : ww4.grownBy ((ww4.setCell ⟨pB, 0, none⟩ (.int .i64 n)).setCell ⟨pB, 1, none⟩ (.slice e9 ts.length f9)) (some pB) := grownBy_setCell (p := ⟨pB, 1, none⟩) (grownBy_setCell (p := ⟨pB, 0, none⟩) (grownBy_refl _ _) rfl _) rfl _
              replace N := (N.setCell (p := ⟨pB, 0, none⟩) PL (.int .i64 n)).setCell (p := ⟨pB, 1, none⟩) PL (.slice e9 ts.length f9)
              replace BX := BX.put (.int .i64 n) (.slice e9 ts.length f9)
              replace R9 := R9.kept gq (fun k hk e => by have := AP.out.1 k hk; injection e with e; omega) (fun u hu k hk e => by have := AP.out.2 u hu k hk; injection e with e; omega)
              clear gq
              refine hK.out _ _ N (fun hHeld => ?_)
              clear hK K hHeld
              try simp only [Act.put, sA, sB, sC]
              refine takeQ (i := 10) (gt rfl) (by kernel_rfl) (fun _ _ _ h => h) (by rfl) (by intro wq _; go_simp <;> with_reducible rfl) (by assumption) ?_
              try simp only [Act.put, sA, sB, sC]
              refine wpAnyH_done (by kernel_rfl) ?_ _
              go_wp2
              go_meet
              case rel => exact ⟨_, e9, f9, vs9, rfl, rfl, BX, R9, AP, PL, N⟩
            · skip
              go_simp
              have BX := Box2.new ww2 (lo := 0) (Nat.zero_le _) (.int .i64 0) (.slice none 0 0) 28
              have hb := below1 ww2 (.cells #[.int .i64 0, .slice none 0 0] 28)
              have PL : w1.heap.size ≤ ww2.heap.size := N.size
              replace o3 := o3.below hb
              replace m3 := m3.below hb
              replace N := N.trans (hb.mono N.size)
              clear hb
              generalize ww2.alloc (.cells #[.int .i64 0, .slice none 0 0] 28) = ww5 at *
              generalize ww2.heap.size = pB at *
              refine hK.out _ _ N (fun hHeld => ?_)
              clear hK K hHeld
              try simp only [Act.put, sA, sB, sC]
              refine wpAnyH_ready (rs := [4]) (by kernel_rfl) (by simp) (AllReadyH.cons (gt rfl) (fun K hK => ?_) AllReadyH.nil)
              go_simp
              refine (specMoved n bx bY a3 c3 rs _ o3.sees m3 L1.out HBX.out HBY.out).mono ?_
              rintro e ww6 ⟨v9, vs9, rfl, R9, hb⟩
              rw [HT.out] at R9
              rw [HO.out]
              obtain ⟨e9, f9, rfl, _, _⟩ := R9.shape
              have l9 := R9.len.out
              rw [l9] at R9 ⊢
              clear l9
              have AP : Hid ((∀ k, (Value.slice e9 ts.length f9).ownBlock = some k → k ≠ pB) ∧ ∀ u ∈ vs9, ∀ k, u.ownBlock = some k → k ≠ pB) := ⟨fun k hk => by have := (R9.lts.1 k hk).1; have := BX.lt; omega, fun u hu k hk => by have := (R9.lts.2 u hu k hk).1; have := BX.lt; omega⟩
              have LB := N.size
              replace R9 := R9.base LB
              replace o3 := o3.below hb
              replace m3 := m3.below hb
              replace BX := BX.below hb
              replace N := N.trans (hb.mono N.size)
              clear hb
              refine hK.out _ _ N (fun hHeld => ?_)
              clear hK K hHeld
              try simp only [Act.put, sA, sB, sC]
              refine takeQ (i := 5) (gt rfl) (by kernel_rfl) (fun _ _ _ h => h) (by rfl) (by intro wq _; go_simp <;> with_reducible rfl) (by assumption) ?_
              try simp only [Act.put, sA, sB, sC]
              refine takeQ (i := 6) (gt rfl) (by kernel_rfl) (fun _ _ _ h => h) (by rfl) (by intro wq _; go_simp <;> with_reducible rfl) (by assumption) ?_
              try simp only [Act.put, sA, sB, sC]
              refine takeQ (i := 7) (gt rfl) (by kernel_rfl) (fun _ _ _ h => h) (by rfl) (by intro wq _; go_simp <;> with_reducible rfl) (by assumption) ?_
              try simp only [Act.put, sA, sB, sC]
              refine wpAnyH_ready (rs := [9]) (by kernel_rfl) (by simp) (AllReadyH.cons (gt rfl) (fun K hK => ?_) AllReadyH.nil)
              have z0 := BX.c0
              have z1 := BX.c1
              have zf := BX.fr
              go_simp
              clear z0 z1 zf
              have gq : ww6.grownBy ((ww6.setCell ⟨pB, 0, none⟩ (.int .i64 n)).setCell ⟨pB, 1, none⟩ (.slice e9 ts.length f9)) (some pB) := grownBy_setCell (p := ⟨pB, 1, none⟩) (grownBy_setCell (p := ⟨pB, 0, none⟩) (grownBy_refl _ _) rfl _) rfl _
              replace N := (N.setCell (p := ⟨pB, 0, none⟩) PL (.int .i64 n)).setCell (p := ⟨pB, 1, none⟩) PL (.slice e9 ts.length f9)
              replace BX := BX.put (.int .i64 n) (.slice e9 ts.length f9)
              replace R9 := R9.kept gq (fun k hk e => by have := AP.out.1 k hk; injection e with e; omega) (fun u hu k hk e => by have := AP.out.2 u hu k hk; injection e with e; omega)
              clear gq
              refine hK.out _ _ N (fun hHeld => ?_)
              clear hK K hHeld
              try simp only [Act.put, sA, sB, sC]
              refine takeQ (i := 10) (gt rfl) (by kernel_rfl) (fun _ _ _ h => h) (by rfl) (by intro wq _; go_simp <;> with_reducible rfl) (by assumption) ?_
              try simp only [Act.put, sA, sB, sC]
              refine wpAnyH_done (by kernel_rfl) ?_ _
              go_wp2
              go_meet
              case rel => exact ⟨_, e9, f9, vs9, rfl, rfl, BX, R9, AP, PL, N⟩
          · skip
            go_simp
            have BX := Box2.new ww1 (lo := 0) (Nat.zero_le _) (.int .i64 0) (.slice none 0 0) 28
            have hb := below1 ww1 (.cells #[.int .i64 0, .slice none 0 0] 28)
            have PL : w1.heap.size ≤ ww1.heap.size := N.size
            replace o3 := o3.below hb
            replace m3 := m3.below hb
            replace N := N.trans (hb.mono N.size)
            clear hb
            generalize ww1.alloc (.cells #[.int .i64 0, .slice none 0 0] 28) = ww7 at *
            generalize ww1.heap.size = pB at *
            refine hK.out _ _ N (fun hHeld => ?_)
            clear hK K hHeld
            try simp only [Act.put, sA, sB, sC]
            refine wpAnyH_ready (rs := [3]) (by kernel_rfl) (by simp) (AllReadyH.cons (gt rfl) (fun K hK => ?_) AllReadyH.nil)
            go_simp
            refine (toPt_any bx bY _).mono ?_
            rintro e ww8 ⟨rfl, hb⟩
            replace o3 := o3.below hb
            replace m3 := m3.below hb
            replace BX := BX.below hb
            replace N := N.trans (hb.mono N.size)
            clear hb
            refine hK.out _ _ N (fun hHeld => ?_)
            clear hK K hHeld
            try simp only [Act.put, sA, sB, sC]
            refine wpAnyH_ready (rs := [4]) (by kernel_rfl) (by simp) (AllReadyH.cons (gt rfl) (fun K hK => ?_) AllReadyH.nil)
            go_simp
            refine (specMoved n bx bY a3 c3 rs _ o3.sees m3 L1.out HBX.out HBY.out).mono ?_
            rintro e ww9 ⟨v9, vs9, rfl, R9, hb⟩
            rw [HT.out] at R9
            rw [HO.out]
            obtain ⟨e9, f9, rfl, _, _⟩ := R9.shape
            have l9 := R9.len.out
            rw [l9] at R9 ⊢
            clear l9
            have AP : Hid ((∀ k, (Value.slice e9 ts.length f9).ownBlock = some k → k ≠ pB) ∧ ∀ u ∈ vs9, ∀ k, u.ownBlock = some k → k ≠ pB) := ⟨fun k hk => by have := (R9.lts.1 k hk).1; have := BX.lt; omega, fun u hu k hk => by have := (R9.lts.2 u hu k hk).1; have := BX.lt; omega⟩
            have LB := N.size
            replace R9 := R9.base LB
            replace o3 := o3.below hb
            replace m3 := m3.below hb
            replace BX := BX.below hb
            replace N := N.trans (hb.mono N.size)
            clear hb
            refine hK.out _ _ N (fun hHeld => ?_)
            clear hK K hHeld
            try simp only [Act.put, sA, sB, sC]
            refine takeQ (i := 5) (gt rfl) (by kernel_rfl) (fun _ _ _ h => h) (by rfl) (by intro wq _; go_simp <;> with_reducible rfl) (by assumption) ?_
            try simp only [Act.put, sA, sB, sC]
            refine takeQ (i := 6) (gt rfl) (by kernel_rfl) (fun _ _ _ h => h) (by rfl) (by intro wq _; go_simp <;> with_reducible rfl) (by assumption) ?_
            try simp only [Act.put, sA, sB, sC]
            refine takeQ (i := 7) (gt rfl) (by kernel_rfl) (fun _ _ _ h => h) (by rfl) (by intro wq _; go_simp <;> with_reducible rfl) (by assumption) ?_
            try simp only [Act.put, sA, sB, sC]
            refine wpAnyH_ready (rs := [9]) (by kernel_rfl) (by simp) (AllReadyH.cons (gt rfl) (fun K hK => ?_) AllReadyH.nil)
            have z0 := BX.c0
            have z1 := BX.c1
            have zf := BX.fr
            go_simp
            clear z0 z1 zf
            have gq : ww9.grownBy ((ww9.setCell ⟨pB, 0, none⟩ (.int .i64 n)).setCell ⟨pB, 1, none⟩ (.slice e9 ts.length f9)) (some pB) := grownBy_setCell (p := ⟨pB, 1, none⟩) (grownBy_setCell (p := ⟨pB, 0, none⟩) (grownBy_refl _ _) rfl _) rfl _
            replace N := (N.setCell (p := ⟨pB, 0, none⟩) PL (.int .i64 n)).setCell (p := ⟨pB, 1, none⟩) PL (.slice e9 ts.length f9)
            replace BX := BX.put (.int .i64 n) (.slice e9 ts.length f9)
            replace R9 := R9.kept gq (fun k hk e => by have := AP.out.1 k hk; injection e with e; omega) (fun u hu k hk e => by have := AP.out.2 u hu k hk; injection e with e; omega)
            clear gq
            refine hK.out _ _ N (fun hHeld => ?_)
            clear hK K hHeld
            try simp only [Act.put, sA, sB, sC]
            refine takeQ (i := 10) (gt rfl) (by kernel_rfl) (fun _ _ _ h => h) (by rfl) (by intro wq _; go_simp <;> with_reducible rfl) (by assumption) ?_
            try simp only [Act.put, sA, sB, sC]
            refine wpAnyH_done (by kernel_rfl) ?_ _
            go_wp2
            go_meet
            case rel => exact ⟨_, e9, f9, vs9, rfl, rfl, BX, R9, AP, PL, N⟩
        · skip
          go_simp
          have BX := Box2.new ww0 (lo := 0) (Nat.zero_le _) (.int .i64 0) (.slice none 0 0) 28
          have hb := below1 ww0 (.cells #[.int .i64 0, .slice none 0 0] 28)
          have PL : w1.heap.size ≤ ww0.heap.size := N.size
          replace N := N.trans (hb.mono N.size)
          clear hb
          generalize ww0.alloc (.cells #[.int .i64 0, .slice none 0 0] 28) = ww10 at *
          generalize ww0.heap.size = pB at *
          refine hK.out _ _ N (fun hHeld => ?_)
          clear hK K hHeld
          try simp only [Act.put, sA, sB, sC]
          refine wpAnyH_ready (rs := [1]) (by kernel_rfl) (by simp) (AllReadyH.cons (gt rfl) (fun K hK => ?_) AllReadyH.nil)
          go_simp
          refine (toShapeX n a c rs _ (h.below (B0.trans (N.mono B0.size))) L1.out).mono ?_
          rintro e ww11 ⟨a3, c3, rfl, o3, hb, m3⟩
          replace BX := BX.below hb
          replace N := N.trans (hb.mono N.size)
          clear hb
          refine hK.out _ _ N (fun hHeld => ?_)
          clear hK K hHeld
          try simp only [Act.put, sA, sB, sC]
          refine wpAnyH_ready (rs := [3]) (by kernel_rfl) (by simp) (AllReadyH.cons (gt rfl) (fun K hK => ?_) AllReadyH.nil)
          go_simp
          refine (toPt_any bx bY _).mono ?_
          rintro e ww12 ⟨rfl, hb⟩
          replace o3 := o3.below hb
          replace m3 := m3.below hb
          replace BX := BX.below hb
          replace N := N.trans (hb.mono N.size)
          clear hb
          refine hK.out _ _ N (fun hHeld => ?_)
          clear hK K hHeld
          try simp only [Act.put, sA, sB, sC]
          refine wpAnyH_ready (rs := [4]) (by kernel_rfl) (by simp) (AllReadyH.cons (gt rfl) (fun K hK => ?_) AllReadyH.nil)
          go_simp
          refine (specMoved n bx bY a3 c3 rs _ o3.sees m3 L1.out HBX.out HBY.out).mono ?_
          rintro e ww13 ⟨v9, vs9, rfl, R9, hb⟩
          rw [HT.out] at R9
          rw [HO.out]
          obtain ⟨e9, f9, rfl, _, _⟩ := R9.shape
          have l9 := R9.len.out
          rw [l9] at R9 ⊢
          clear l9
          have AP : Hid ((∀ k, (Value.slice e9 ts.length f9).ownBlock = some k → k ≠ pB) ∧ ∀ u ∈ vs9, ∀ k, u.ownBlock = some k → k ≠ pB) := ⟨fun k hk => by have := (R9.lts.1 k hk).1; have := BX.lt; omega, fun u hu k hk => by have := (R9.lts.2 u hu k hk).1; have := BX.lt; omega⟩
          have LB := N.size
          replace R9 := R9.base LB
          replace o3 := o3.below hb
          replace m3 := m3.below hb
          replace BX := BX.below hb
          replace N := N.trans (hb.mono N.size)
          clear hb
          refine hK.out _ _ N (fun hHeld => ?_)
          clear hK K hHeld
          try simp only [Act.put, sA, sB, sC]
          refine takeQ (i := 5) (gt rfl) (by kernel_rfl) (fun _ _ _ h => h) (by rfl) (by intro wq _; go_simp <;> with_reducible rfl) (by assumption) ?_
          try simp only [Act.put, sA, sB, sC]
          refine takeQ (i := 6) (gt rfl) (by kernel_rfl) (fun _ _ _ h => h) (by rfl) (by intro wq _; go_simp <;> with_reducible rfl) (by assumption) ?_
          try simp only [Act.put, sA, sB, sC]
          refine takeQ (i := 7) (gt rfl) (by kernel_rfl) (fun _ _ _ h => h) (by rfl) (by intro wq _; go_simp <;> with_reducible rfl) (by assumption) ?_
          try simp only [Act.put, sA, sB, sC]
          refine wpAnyH_ready (rs := [9]) (by kernel_rfl) (by simp) (AllReadyH.cons (gt rfl) (fun K hK => ?_) AllReadyH.nil)
          have z0 := BX.c0
          have z1 := BX.c1
          have zf := BX.fr
          go_simp
          clear z0 z1 zf
          have gq : ww13.grownBy ((ww13.setCell ⟨pB, 0, none⟩ (.int .i64 n)).setCell ⟨pB, 1, none⟩ (.slice e9 ts.length f9)) (some pB) := grownBy_setCell (p := ⟨pB, 1, none⟩) (grownBy_setCell (p := ⟨pB, 0, none⟩) (grownBy_refl _ _) rfl _) rfl _
          replace N := (N.setCell (p := ⟨pB, 0, none⟩) PL (.int .i64 n)).setCell (p := ⟨pB, 1, none⟩) PL (.slice e9 ts.length f9)
          replace BX := BX.put (.int .i64 n) (.slice e9 ts.length f9)
          replace R9 := R9.kept gq (fun k hk e => by have := AP.out.1 k hk; injection e with e; omega) (fun u hu k hk e => by have := AP.out.2 u hu k hk; injection e with e; omega)
          clear gq
          refine hK.out _ _ N (fun hHeld => ?_)
          clear hK K hHeld
          try simp only [Act.put, sA, sB, sC]
          refine takeQ (i := 10) (gt rfl) (by kernel_rfl) (fun _ _ _ h => h) (by rfl) (by intro wq _; go_simp <;> with_reducible rfl) (by assumption) ?_
          try simp only [Act.put, sA, sB, sC]
          refine wpAnyH_done (by kernel_rfl) ?_ _
          go_wp2
          go_meet
          case rel => exact ⟨_, e9, f9, vs9, rfl, rfl, BX, R9, AP, PL, N⟩
    rename World => W4
    obtain ⟨p6, e0, f0, vs0, rfl, rfl, V2, R0, A0, PL6, N4⟩ := hcut
    clear k0 k1 k2 k3
    have hb := N4.out
    replace B0 := B0.trans (hb.mono B0.size)
    replace V1 := V1.below hb
    replace VQ := VQ.below hb
    have V2' := V2.out
    have R0' := R0.out
    have QV := V1.lt
    have Q0 : Hid ((∀ k, (Value.slice e0 ts.length f0).ownBlock = some k → k < W4.heap.size) ∧ ∀ u ∈ vs0, ∀ k, u.ownBlock = some k → k < W4.heap.size) := ⟨fun k hk => (R0'.lts.1 k hk).2, fun u hu k hk => (R0'.lts.2 u hu k hk).2⟩
    have QP : p6 < W4.heap.size := V2'.lt
    have QQ := VQ.lt
    clear hb N4 V2 R0 A0
    obtain ⟨k0, k1, _, _⟩ := id V1
    go_wp2_with fail
    refine (toShape_any n a c rs _ (h.below B0) L1.out).mono ?_
    rintro e x4 ⟨a5, c5, rfl, o5, hb⟩
    have M5 : Hid (∀ b off, a5 = some ⟨b, off, none⟩ → MarkS (b + 1) x4.heap.size x4 b off rs) := fun b off e => by
      subst e
      exact o5.mark
    have bn := below1 x4 (.cells #[.int .i64 n, .slice a5 rs.length c5] 28)
    have V3 := Box2.new x4 (lo := 0) (by omega) (.int .i64 n) (.slice a5 rs.length c5) 28
    have NB := hb.trans (bn.mono hb.size)
    have O5 := o5.below bn
    have hw3x : W4.heap.size ≤ x4.heap.size := hb.size
    have hx4 : x4.heap.size < (x4.alloc (.cells #[.int .i64 n, .slice a5 rs.length c5] 28)).heap.size := V3.lt
    have BX4 : Below x4.heap.size x4 (x4.alloc (.cells #[.int .i64 n, .slice a5 rs.length c5] 28)) := bn
    replace B0 := B0.trans (NB.mono B0.size)
    replace V1 := V1.below NB
    replace VQ := VQ.below NB
    replace V2' := V2'.below NB
    replace R0' := R0'.below NB
    clear hb bn k0 k1 o5 NB
    obtain ⟨k0, k1, _, _⟩ := id V3
    obtain ⟨k2, k3, _, _⟩ := id VQ
    go_wp2_with fail
    generalize x4.alloc (.cells #[.int .i64 n, .slice a5 rs.length c5] 28) = W5 at *
    generalize hq5 : x4.heap.size = q5 at *
    go_cut [9, 10] (fun s6 s7 W => ∃ p e9 f9 vs9, s6 = .pointer (some ⟨p, 0, none⟩) ∧ s7 = .bool ok ∧ Hid (Box2 0 W p (.int .i64 n) (.slice e9 ts.length f9)) ∧ Hid (ShR W5.heap.size W (.slice e9 ts.length f9) vs9 ts) ∧ Hid ((∀ k, (Value.slice e9 ts.length f9).ownBlock = some k → k ≠ p) ∧ ∀ u ∈ vs9, ∀ k, u.ownBlock = some k → k ≠ p) ∧ W5.heap.size ≤ p ∧ Hid (Below W5.heap.size W5 W))
    case first =>
      as_aux_lemma =>
        refine wp_region_held_drew (S := Below W5.heap.size W5) (by kernel_rfl) ((Below.refl _ _).drew) (fun hHeld => ?_)
        have N : Below W5.heap.size W5 W5.drew := hHeld
        revert hHeld N
        generalize W5.drew = ww0
        intro hHeld N
        clear hHeld
        refine takeQ (i := 0) (gt rfl) (by kernel_rfl) (fun _ _ _ h => h) (by rfl) (by intro wq hSw; have q0 := bat hSw k0; have q1 := bat hSw k1; have q2 := bat hSw k2; have q3 := bat hSw k3; go_simp <;> with_reducible rfl) (by assumption) ?_
        try simp only [Act.put, sA, sB, sC]
        refine takeQ (i := 1) (gt rfl) (by kernel_rfl) (fun _ _ _ h => h) (by rfl) (by intro wq hSw; have q0 := bat hSw k0; have q1 := bat hSw k1; have q2 := bat hSw k2; have q3 := bat hSw k3; go_simp <;> with_reducible rfl) (by assumption) ?_
        try simp only [Act.put, sA, sB, sC]
        refine wpAnyH_ready (rs := [2, 7]) (by kernel_rfl) (by simp) (AllReadyH.cons (gt rfl) (fun K hK => ?_) (AllReadyH.cons (gt rfl) (fun K hK => ?_) AllReadyH.nil))
        · skip
          go_simp
          refine (toPt_any bx bY _).mono ?_
          rintro e ww1 ⟨rfl, hb⟩
          replace N := N.trans (hb.mono N.size)
          clear hb
          refine hK.out _ _ N (fun hHeld => ?_)
          clear hK K hHeld
          try simp only [Act.put, sA, sB, sC]
          refine wpAnyH_ready (rs := [3, 7]) (by kernel_rfl) (by simp) (AllReadyH.cons (gt rfl) (fun K hK => ?_) (AllReadyH.cons (gt rfl) (fun K hK => ?_) AllReadyH.nil))
          · skip
            go_simp
            refine (implMoved n bx bY a5 c5 rs _ (O5.below N).sees L1.out).mono ?_
            rintro e ww2 ⟨v9, vs9, rfl, R9, hb⟩
            rw [HT.out] at R9
            rw [HO.out]
            obtain ⟨e9, f9, rfl, _, _⟩ := R9.shape
            have l9 := R9.len.out
            rw [l9] at R9 ⊢
            clear l9
            have LB := N.size
            replace R9 := R9.base LB
            replace N := N.trans (hb.mono N.size)
            clear hb
            refine hK.out _ _ N (fun hHeld => ?_)
            clear hK K hHeld
            try simp only [Act.put, sA, sB, sC]
            refine takeQ (i := 4) (gt rfl) (by kernel_rfl) (fun _ _ _ h => h) (by rfl) (by intro wq _; go_simp <;> with_reducible rfl) (by assumption) ?_
            try simp only [Act.put, sA, sB, sC]
            refine takeQ (i := 5) (gt rfl) (by kernel_rfl) (fun _ _ _ h => h) (by rfl) (by intro wq _; go_simp <;> with_reducible rfl) (by assumption) ?_
            try simp only [Act.put, sA, sB, sC]
            refine takeQ (i := 6) (gt rfl) (by kernel_rfl) (fun _ _ _ h => h) (by rfl) (by intro wq _; go_simp <;> with_reducible rfl) (by assumption) ?_
            try simp only [Act.put, sA, sB, sC]
            refine wpAnyH_ready (rs := [7]) (by kernel_rfl) (by simp) (AllReadyH.cons (gt rfl) (fun K hK => ?_) AllReadyH.nil)
            go_simp
            have BX := Box2.new ww2 (lo := 0) (Nat.zero_le _) (.int .i64 0) (.slice none 0 0) 28
            have hb := below1 ww2 (.cells #[.int .i64 0, .slice none 0 0] 28)
            have PL : W5.heap.size ≤ ww2.heap.size := N.size
            have AP : Hid ((∀ k, (Value.slice e9 ts.length f9).ownBlock = some k → k ≠ ww2.heap.size) ∧ ∀ u ∈ vs9, ∀ k, u.ownBlock = some k → k ≠ ww2.heap.size) := ⟨fun k hk => by have := (R9.lts.1 k hk).2; omega, fun u hu k hk => by have := (R9.lts.2 u hu k hk).2; omega⟩
            replace R9 := R9.below hb
            replace N := N.trans (hb.mono N.size)
            clear hb
            generalize ww2.alloc (.cells #[.int .i64 0, .slice none 0 0] 28) = ww3 at *
            generalize ww2.heap.size = pB at *
            refine hK.out _ _ N (fun hHeld => ?_)
            clear hK K hHeld
            try simp only [Act.put, sA, sB, sC]
            refine wpAnyH_ready (rs := [8]) (by kernel_rfl) (by simp) (AllReadyH.cons (gt rfl) (fun K hK => ?_) AllReadyH.nil)
            have z0 := BX.c0
            have z1 := BX.c1
            have zf := BX.fr
            go_simp
            clear z0 z1 zf
            have gq : ww3.grownBy ((ww3.setCell ⟨pB, 0, none⟩ (.int .i64 n)).setCell ⟨pB, 1, none⟩ (.slice e9 ts.length f9)) (some pB) := grownBy_setCell (p := ⟨pB, 1, none⟩) (grownBy_setCell (p := ⟨pB, 0, none⟩) (grownBy_refl _ _) rfl _) rfl _
            replace N := (N.setCell (p := ⟨pB, 0, none⟩) PL (.int .i64 n)).setCell (p := ⟨pB, 1, none⟩) PL (.slice e9 ts.length f9)
            replace BX := BX.put (.int .i64 n) (.slice e9 ts.length f9)
            replace R9 := R9.kept gq (fun k hk e => by have := AP.out.1 k hk; injection e with e; omega) (fun u hu k hk e => by have := AP.out.2 u hu k hk; injection e with e; omega)
            clear gq
            refine hK.out _ _ N (fun hHeld => ?_)
            clear hK K hHeld
            try simp only [Act.put, sA, sB, sC]
            refine takeQ (i := 9) (gt rfl) (by kernel_rfl) (fun _ _ _ h => h) (by rfl) (by intro wq _; go_simp <;> with_reducible rfl) (by assumption) ?_
            try simp only [Act.put, sA, sB, sC]
            refine wpAnyH_done (by kernel_rfl) ?_ _
            go_wp2
            go_meet
            case rel => exact ⟨_, e9, f9, vs9, rfl, rfl, BX, R9, AP, PL, N⟩
          · skip
            go_simp
            have BX := Box2.new ww1 (lo := 0) (Nat.zero_le _) (.int .i64 0) (.slice none 0 0) 28
            have hb := below1 ww1 (.cells #[.int .i64 0, .slice none 0 0] 28)
            have PL : W5.heap.size ≤ ww1.heap.size := N.size
            replace N := N.trans (hb.mono N.size)
            clear hb
            generalize ww1.alloc (.cells #[.int .i64 0, .slice none 0 0] 28) = ww4 at *
            generalize ww1.heap.size = pB at *
            refine hK.out _ _ N (fun hHeld => ?_)
            clear hK K hHeld
            try simp only [Act.put, sA, sB, sC]
            refine wpAnyH_ready (rs := [3]) (by kernel_rfl) (by simp) (AllReadyH.cons (gt rfl) (fun K hK => ?_) AllReadyH.nil)
            go_simp
            refine (implMoved n bx bY a5 c5 rs _ (O5.below N).sees L1.out).mono ?_
            rintro e ww5 ⟨v9, vs9, rfl, R9, hb⟩
            rw [HT.out] at R9
            rw [HO.out]
            obtain ⟨e9, f9, rfl, _, _⟩ := R9.shape
            have l9 := R9.len.out
            rw [l9] at R9 ⊢
            clear l9
            have AP : Hid ((∀ k, (Value.slice e9 ts.length f9).ownBlock = some k → k ≠ pB) ∧ ∀ u ∈ vs9, ∀ k, u.ownBlock = some k → k ≠ pB) := ⟨fun k hk => by have := (R9.lts.1 k hk).1; have := BX.lt; omega, fun u hu k hk => by have := (R9.lts.2 u hu k hk).1; have := BX.lt; omega⟩
            have LB := N.size
            replace R9 := R9.base LB
            replace BX := BX.below hb
            replace N := N.trans (hb.mono N.size)
            clear hb
            refine hK.out _ _ N (fun hHeld => ?_)
            clear hK K hHeld
            try simp only [Act.put, sA, sB, sC]
            refine takeQ (i := 4) (gt rfl) (by kernel_rfl) (fun _ _ _ h => h) (by rfl) (by intro wq _; go_simp <;> with_reducible rfl) (by assumption) ?_
            try simp only [Act.put, sA, sB, sC]
            refine takeQ (i := 5) (gt rfl) (by kernel_rfl) (fun _ _ _ h => h) (by rfl) (by intro wq _; go_simp <;> with_reducible rfl) (by assumption) ?_
            try simp only [Act.put, sA, sB, sC]
            refine takeQ (i := 6) (gt rfl) (by kernel_rfl) (fun _ _ _ h => h) (by rfl) (by intro wq _; go_simp <;> with_reducible rfl) (by assumption) ?_
            try simp only [Act.put, sA, sB, sC]
            refine wpAnyH_ready (rs := [8]) (by kernel_rfl) (by simp) (AllReadyH.cons (gt rfl) (fun K hK => ?_) AllReadyH.nil)
            have z0 := BX.c0
            have z1 := BX.c1
            have zf := BX.fr
            go_simp
            clear z0 z1 zf
            have gq : ww5.grownBy ((ww5.setCell ⟨pB, 0, none⟩ (.int .i64 n)).setCell ⟨pB, 1, none⟩ (.slice e9 ts.length f9)) (some pB) := grownBy_setCell (p := ⟨pB, 1, none⟩) (grownBy_setCell (p := ⟨pB, 0, none⟩) (grownBy_refl _ _) rfl _) rfl _
            replace N := (N.setCell (p := ⟨pB, 0, none⟩) PL (.int .i64 n)).setCell (p := ⟨pB, 1, none⟩) PL (.slice e9 ts.length f9)
            replace BX := BX.put (.int .i64 n) (.slice e9 ts.length f9)
            replace R9 := R9.kept gq (fun k hk e => by have := AP.out.1 k hk; injection e with e; omega) (fun u hu k hk e => by have := AP.out.2 u hu k hk; injection e with e; omega)
            clear gq
            refine hK.out _ _ N (fun hHeld => ?_)
            clear hK K hHeld
            try simp only [Act.put, sA, sB, sC]
            refine takeQ (i := 9) (gt rfl) (by kernel_rfl) (fun _ _ _ h => h) (by rfl) (by intro wq _; go_simp <;> with_reducible rfl) (by assumption) ?_
            try simp only [Act.put, sA, sB, sC]
            refine wpAnyH_done (by kernel_rfl) ?_ _
            go_wp2
            go_meet
            case rel => exact ⟨_, e9, f9, vs9, rfl, rfl, BX, R9, AP, PL, N⟩
        · skip
          go_simp
          have BX := Box2.new ww0 (lo := 0) (Nat.zero_le _) (.int .i64 0) (.slice none 0 0) 28
          have hb := below1 ww0 (.cells #[.int .i64 0, .slice none 0 0] 28)
          have PL : W5.heap.size ≤ ww0.heap.size := N.size
          replace N := N.trans (hb.mono N.size)
          clear hb
          generalize ww0.alloc (.cells #[.int .i64 0, .slice none 0 0] 28) = ww6 at *
          generalize ww0.heap.size = pB at *
          refine hK.out _ _ N (fun hHeld => ?_)
          clear hK K hHeld
          try simp only [Act.put, sA, sB, sC]
          refine wpAnyH_ready (rs := [2]) (by kernel_rfl) (by simp) (AllReadyH.cons (gt rfl) (fun K hK => ?_) AllReadyH.nil)
          go_simp
          refine (toPt_any bx bY _).mono ?_
          rintro e ww7 ⟨rfl, hb⟩
          replace BX := BX.below hb
          replace N := N.trans (hb.mono N.size)
          clear hb
          refine hK.out _ _ N (fun hHeld => ?_)
          clear hK K hHeld
          try simp only [Act.put, sA, sB, sC]
          refine wpAnyH_ready (rs := [3]) (by kernel_rfl) (by simp) (AllReadyH.cons (gt rfl) (fun K hK => ?_) AllReadyH.nil)
          go_simp
          refine (implMoved n bx bY a5 c5 rs _ (O5.below N).sees L1.out).mono ?_
          rintro e ww8 ⟨v9, vs9, rfl, R9, hb⟩
          rw [HT.out] at R9
          rw [HO.out]
          obtain ⟨e9, f9, rfl, _, _⟩ := R9.shape
          have l9 := R9.len.out
          rw [l9] at R9 ⊢
          clear l9
          have AP : Hid ((∀ k, (Value.slice e9 ts.length f9).ownBlock = some k → k ≠ pB) ∧ ∀ u ∈ vs9, ∀ k, u.ownBlock = some k → k ≠ pB) := ⟨fun k hk => by have := (R9.lts.1 k hk).1; have := BX.lt; omega, fun u hu k hk => by have := (R9.lts.2 u hu k hk).1; have := BX.lt; omega⟩
          have LB := N.size
          replace R9 := R9.base LB
          replace BX := BX.below hb
          replace N := N.trans (hb.mono N.size)
          clear hb
          refine hK.out _ _ N (fun hHeld => ?_)
          clear hK K hHeld
          try simp only [Act.put, sA, sB, sC]
          refine takeQ (i := 4) (gt rfl) (by kernel_rfl) (fun _ _ _ h => h) (by rfl) (by intro wq _; go_simp <;> with_reducible rfl) (by assumption) ?_
          try simp only [Act.put, sA, sB, sC]
          refine takeQ (i := 5) (gt rfl) (by kernel_rfl) (fun _ _ _ h => h) (by rfl) (by intro wq _; go_simp <;> with_reducible rfl) (by assumption) ?_
          try simp only [Act.put, sA, sB, sC]
          refine takeQ (i := 6) (gt rfl) (by kernel_rfl) (fun _ _ _ h => h) (by rfl) (by intro wq _; go_simp <;> with_reducible rfl) (by assumption) ?_
          try simp only [Act.put, sA, sB, sC]
          refine wpAnyH_ready (rs := [8]) (by kernel_rfl) (by simp) (AllReadyH.cons (gt rfl) (fun K hK => ?_) AllReadyH.nil)
          have z0 := BX.c0
          have z1 := BX.c1
          have zf := BX.fr
          go_simp
          clear z0 z1 zf
          have gq : ww8.grownBy ((ww8.setCell ⟨pB, 0, none⟩ (.int .i64 n)).setCell ⟨pB, 1, none⟩ (.slice e9 ts.length f9)) (some pB) := grownBy_setCell (p := ⟨pB, 1, none⟩) (grownBy_setCell (p := ⟨pB, 0, none⟩) (grownBy_refl _ _) rfl _) rfl _
          replace N := (N.setCell (p := ⟨pB, 0, none⟩) PL (.int .i64 n)).setCell (p := ⟨pB, 1, none⟩) PL (.slice e9 ts.length f9)
          replace BX := BX.put (.int .i64 n) (.slice e9 ts.length f9)
          replace R9 := R9.kept gq (fun k hk e => by have := AP.out.1 k hk; injection e with e; omega) (fun u hu k hk e => by have := AP.out.2 u hu k hk; injection e with e; omega)
          clear gq
          refine hK.out _ _ N (fun hHeld => ?_)
          clear hK K hHeld
          try simp only [Act.put, sA, sB, sC]
          refine takeQ (i := 9) (gt rfl) (by kernel_rfl) (fun _ _ _ h => h) (by rfl) (by intro wq _; go_simp <;> with_reducible rfl) (by assumption) ?_
          try simp only [Act.put, sA, sB, sC]
          refine wpAnyH_done (by kernel_rfl) ?_ _
          go_wp2
          go_meet
          case rel => exact ⟨_, e9, f9, vs9, rfl, rfl, BX, R9, AP, PL, N⟩
    rename World => X7
    obtain ⟨p9, e1, f1, vs1, rfl, rfl, V4, R1, A1, PL9, N7⟩ := hcut
    clear k0 k1 k2 k3
    have hb := N7.out
    have V4' := V4.out
    have R1' := R1.out
    have Q1 : Hid ((∀ k, (Value.slice e1 ts.length f1).ownBlock = some k → W5.heap.size ≤ k) ∧ ∀ u ∈ vs1, ∀ k, u.ownBlock = some k → W5.heap.size ≤ k) := ⟨fun k hk => (R1'.lts.1 k hk).1, fun u hu k hk => (R1'.lts.2 u hu k hk).1⟩
    have Q2 : Hid (∀ u ∈ vs1, u.ownBlock ≠ some p9) := fun u hu e => A1.out.2 u hu p9 e rfl
    replace BX4 := BX4.trans (hb.mono (Nat.le_of_lt hx4))
    replace B0 := B0.trans (hb.mono B0.size)
    replace V1 := V1.below hb
    replace VQ := VQ.below hb
    replace V2' := V2'.below hb
    replace R0' := R0'.below hb
    replace V3 := V3.below hb
    replace O5 := O5.below hb
    clear hb N7 V4 R1 A1
    generalize hqW : W5.heap.size = qW at *
    obtain ⟨k4, k5, _, _⟩ := id V4'
    obtain ⟨k6, k7, _, _⟩ := id V2'
    go_wp2_with fail
    refine (eqShape_any n e1 e0 f1 f0 ts _ R1'.sees R0'.sees).mono ?_
    rintro e x8 ⟨rfl, hb⟩
    replace BX4 := BX4.trans (hb.mono (by have := BX4.size; omega))
    replace B0 := B0.trans (hb.mono B0.size)
    replace V1 := V1.below hb
    replace VQ := VQ.below hb
    replace V2' := V2'.below hb
    replace R0' := R0'.below hb
    replace V3 := V3.below hb
    replace O5 := O5.below hb
    replace V4' := V4'.below hb
    replace R1' := R1'.below hb
    clear hb k4 k5 k6 k7
    have K1 : x8.cell? ⟨q5, 0, none⟩ = some (.int .i64 n) ∧ x8.cell? ⟨q5, 1, none⟩ = some (.slice a5 rs.length c5) ∧ x8.cell? ⟨w.heap.size, 0, none⟩ = some (.int .i64 n) ∧ x8.cell? ⟨w.heap.size, 1, none⟩ = some (.slice a rs.length c) := ⟨V3.c0, V3.c1, V1.c0, V1.c1⟩
    have S1 := h.below B0
    go_wp2_with fail
    go_region_held3 (fun w' => w'.cell? ⟨q5, 0, none⟩ = some (.int .i64 n) ∧ w'.cell? ⟨q5, 1, none⟩ = some (.slice a5 rs.length c5) ∧ w'.cell? ⟨w.heap.size, 0, none⟩ = some (.int .i64 n) ∧ w'.cell? ⟨w.heap.size, 1, none⟩ = some (.slice a rs.length c))
      (first | exact K1 | exact m1 | exact m2)
      (first
      | (go_at_call 7; refine (toShape_any n a c rs _ (S1.below (Below.refl _ _).drew) L1.out).mono ?_; rintro e y1 ⟨a8, c8, rfl, o8, hb⟩; have N1 := (Below.refl x8.heap.size x8).drew.trans (hb.mono (by simp)); have m1 := keepG4' K1 N1; clear hb)
      | (go_at_call 9; refine (eqShape_any n a5 a8 c5 c8 rs _ (O5.below N1).sees o8.sees).mono ?_; rintro e y2 ⟨rfl, hb⟩; have N2 := N1.trans (hb.mono N1.size); have m2 := keepG4' K1 N2; clear hb o8))
    all_goals
      replace BX4 := BX4.trans (N2.mono (by have := BX4.size; omega))
      replace B0 := B0.trans (N2.mono B0.size)
      replace V1 := V1.below N2
      replace VQ := VQ.below N2
      replace V2' := V2'.below N2
      replace R0' := R0'.below N2
      replace V3 := V3.below N2
      replace O5 := O5.below N2
      replace V4' := V4'.below N2
      replace R1' := R1'.below N2
      clear N1 N2 m1 m2 K1 S1
      have BX' : Below x4.heap.size x4 y2 := by rw [hq5]; exact BX4
      obtain ⟨k4, k5, _, _⟩ := id V3
      go_wp2_with fail
      refine (markShape_any n W4.heap.size q5 a5 c5 rs _ O5 (fun b off e => (M5.out b off e).below BX') L1.out).mono ?_
      rintro e y3 ⟨kk, rfl, kk0, PU⟩
      have bn := below1 y2 (.cells #[.int .i64 n, .slice a5 rs.length c5] 28)
      replace R0' := (R0'.below bn).puts PU (fun k hk => .inl (Q0.out.1 k hk)) (fun u hu k hk => .inl (Q0.out.2 u hu k hk))
      replace R1' := (R1'.below bn).puts PU (fun k hk => .inr (by have := Q1.out.1 k hk; omega)) (fun u hu k hk => .inr (by have := Q1.out.2 u hu k hk; omega))
      replace V1 := (V1.below bn).puts PU (.inl QV)
      replace VQ := (VQ.below bn).puts PU (.inl QQ)
      replace V2' := (V2'.below bn).puts PU (.inl QP)
      replace V4' := (V4'.below bn).puts PU (.inr (by omega))
      replace B0 := belowPuts (B0.trans (bn.mono B0.size)) PU (by omega)
      have hkk : ¬ kk < 0 := by omega
      clear bn PU BX4 BX' k4 k5 V3 O5 M5
      obtain ⟨k4, k5, _, _⟩ := id V4'
      obtain ⟨k6, k7, _, _⟩ := id V2'
      go_wp2_with fail
      refine (eqShape_any n e1 e0 f1 f0 ts _ R1'.sees R0'.sees).mono ?_
      rintro e y4 ⟨rfl, hb⟩
      replace B0 := B0.trans (hb.mono B0.size)
      replace V1 := V1.below hb
      replace VQ := VQ.below hb
      replace V2' := V2'.below hb
      replace V4' := V4'.below hb
      replace R0' := R0'.below hb
      replace R1' := R1'.below hb
      clear hb k4 k5 k6 k7
      obtain ⟨k4, k5, _, _⟩ := id V4'
      go_wp2_with fail
      refine (markShR n qW e1 f1 vs1 ts _ R1' L2.out).mono ?_
      rintro e y5 ⟨rfl, R5, B5, KB⟩
      have bn := below1 y4 (.cells #[.int .i64 n, .slice e1 ts.length f1] 28)
      have U0 := (R0'.below bn).under B5 (fun k hk => by have := Q0.out.1 k hk; omega) (fun u hu k hk => by have := Q0.out.2 u hu k hk; omega)
      replace V1 := (V1.below bn).under B5 (by omega)
      replace VQ := (VQ.below bn).under B5 (by omega)
      replace V2' := (V2'.below bn).under B5 (by omega)
      replace V4' := (V4'.below bn).but KB Q2.out
      replace B0 := (B0.trans (bn.mono B0.size)).trans (B5.mono (by omega))
      have kp := (kOf_bd L2.out (Nat.le_refl _)).1
      have S5 : Hid (SeesS y5 e1 f1 (mkRs ts ts.length)) := R5.sees
      clear bn B5 KB R1' R5 R0' k4 k5
      obtain ⟨k9, hk9⟩ : ∃ k, Hid (kOf ts ts.length = k) := ⟨_, rfl⟩
      rw [hk9.out] at kp ⊢
      have hk9n : (k9 != k9) = false := by simp
      obtain ⟨k4, k5, _, _⟩ := id V4'
      go_wp2_with fail
      refine (heldShR n e1 f1 ts _ S5.out L2.out).mono ?_
      rintro e y6 ⟨rfl, hb⟩
      rw [hk9.out]
      replace B0 := B0.trans (hb.mono B0.size)
      replace V1 := V1.below hb
      replace VQ := VQ.below hb
      replace V2' := V2'.below hb
      replace V4' := V4'.below hb
      replace U0 := U0.below hb
      have S6 : Hid (SeesS y6 e1 f1 (mkRs ts ts.length)) := S5.out.below hb
      clear hb S5 k4 k5
      obtain ⟨k0, k1, _, _⟩ := id V1
      obtain ⟨k2, k3, _, _⟩ := id VQ
      go_wp2_with fail
      go_cut [14, 15] (fun s6 s7 W => ∃ p e9 f9 vs9, s6 = .pointer (some ⟨p, 0, none⟩) ∧ s7 = .bool ok ∧ Hid (Box2 0 W p (.int .i64 n) (.slice e9 ts.length f9)) ∧ Hid (ShR y6.heap.size W (.slice e9 ts.length f9) vs9 ts) ∧ Hid ((∀ k, (Value.slice e9 ts.length f9).ownBlock = some k → k ≠ p) ∧ ∀ u ∈ vs9, ∀ k, u.ownBlock = some k → k ≠ p) ∧ y6.heap.size ≤ p ∧ Hid (Below y6.heap.size y6 W))
      case first =>
        as_aux_lemma =>
          refine wp_region_held_drew (S := Below y6.heap.size y6) (by kernel_rfl) ((Below.refl _ _).drew) (fun hHeld => ?_)
          have N : Below y6.heap.size y6 y6.drew := hHeld
          revert hHeld N
          generalize y6.drew = ww0
          intro hHeld N
          clear hHeld
          refine takeQ (i := 0) (gt rfl) (by kernel_rfl) (fun _ _ _ h => h) (by rfl) (by intro wq hSw; have q0 := bat hSw k0; have q1 := bat hSw k1; have q2 := bat hSw k2; have q3 := bat hSw k3; go_simp <;> with_reducible rfl) (by assumption) ?_
          try simp only [Act.put, sA, sB, sC]
          refine takeQ (i := 2) (gt rfl) (by kernel_rfl) (fun _ _ _ h => h) (by rfl) (by intro wq hSw; have q0 := bat hSw k0; have q1 := bat hSw k1; have q2 := bat hSw k2; have q3 := bat hSw k3; go_simp <;> with_reducible rfl) (by assumption) ?_
          try simp only [Act.put, sA, sB, sC]
          refine wpAnyH_ready (rs := [1, 8]) (by kernel_rfl) (by simp) (AllReadyH.cons (gt rfl) (fun K hK => ?_) (AllReadyH.cons (gt rfl) (fun K hK => ?_) AllReadyH.nil))
          · skip
            go_simp
            refine (toShape_any n a c rs _ (h.below (B0.trans (N.mono B0.size))) L1.out).mono ?_
            rintro e ww1 ⟨a3, c3, rfl, o3, hb⟩
            replace N := N.trans (hb.mono N.size)
            clear hb
            refine hK.out _ _ N (fun hHeld => ?_)
            clear hK K hHeld
            try simp only [Act.put, sA, sB, sC]
            refine wpAnyH_ready (rs := [3, 8]) (by kernel_rfl) (by simp) (AllReadyH.cons (gt rfl) (fun K hK => ?_) (AllReadyH.cons (gt rfl) (fun K hK => ?_) AllReadyH.nil))
            · skip
              go_simp
              refine (toPt_any bx bY _).mono ?_
              rintro e ww2 ⟨rfl, hb⟩
              replace o3 := o3.below hb
              replace N := N.trans (hb.mono N.size)
              clear hb
              refine hK.out _ _ N (fun hHeld => ?_)
              clear hK K hHeld
              try simp only [Act.put, sA, sB, sC]
              refine wpAnyH_ready (rs := [4, 8]) (by kernel_rfl) (by simp) (AllReadyH.cons (gt rfl) (fun K hK => ?_) (AllReadyH.cons (gt rfl) (fun K hK => ?_) AllReadyH.nil))
              · skip
                go_simp
                refine (implMoved n bx bY a3 c3 rs _ o3.sees L1.out).mono ?_
                rintro e ww3 ⟨v9, vs9, rfl, R9, hb⟩
                rw [HT.out] at R9
                rw [HO.out]
                obtain ⟨e9, f9, rfl, _, _⟩ := R9.shape
                have l9 := R9.len.out
                rw [l9] at R9 ⊢
                clear l9
                have LB := N.size
                replace R9 := R9.base LB
                replace o3 := o3.below hb
                replace N := N.trans (hb.mono N.size)
                clear hb
                refine hK.out _ _ N (fun hHeld => ?_)
                clear hK K hHeld
                try simp only [Act.put, sA, sB, sC]
                refine takeQ (i := 5) (gt rfl) (by kernel_rfl) (fun _ _ _ h => h) (by rfl) (by intro wq _; go_simp <;> with_reducible rfl) (by assumption) ?_
                try simp only [Act.put, sA, sB, sC]
                refine takeQ (i := 6) (gt rfl) (by kernel_rfl) (fun _ _ _ h => h) (by rfl) (by intro wq _; go_simp <;> with_reducible rfl) (by assumption) ?_
                try simp only [Act.put, sA, sB, sC]
                refine takeQ (i := 7) (gt rfl) (by kernel_rfl) (fun _ _ _ h => h) (by rfl) (by intro wq _; go_simp <;> with_reducible rfl) (by assumption) ?_
                try simp only [Act.put, sA, sB, sC]
                refine wpAnyH_ready (rs := [8]) (by kernel_rfl) (by simp) (AllReadyH.cons (gt rfl) (fun K hK => ?_) AllReadyH.nil)
                go_simp
                have BX := Box2.new ww3 (lo := 0) (Nat.zero_le _) (.int .i64 0) (.slice none 0 0) 28
                have hb := below1 ww3 (.cells #[.int .i64 0, .slice none 0 0] 28)
                have PL : y6.heap.size ≤ ww3.heap.size := N.size
                have AP : Hid ((∀ k, (Value.slice e9 ts.length f9).ownBlock = some k → k ≠ ww3.heap.size) ∧ ∀ u ∈ vs9, ∀ k, u.ownBlock = some k → k ≠ ww3.heap.size) := ⟨fun k hk => by have := (R9.lts.1 k hk).2; omega, fun u hu k hk => by have := (R9.lts.2 u hu k hk).2; omega⟩
                replace o3 := o3.below hb
                replace R9 := R9.below hb
                replace N := N.trans (hb.mono N.size)
                clear hb
                generalize ww3.alloc (.cells #[.int .i64 0, .slice none 0 0] 28) = ww4 at *
                generalize ww3.heap.size = pB at *
                refine hK.out _ _ N (fun hHeld => ?_)
                clear hK K hHeld
                try simp only [Act.put, sA, sB, sC]
                refine wpAnyH_ready (rs := [9]) (by kernel_rfl) (by simp) (AllReadyH.cons (gt rfl) (fun K hK => ?_) AllReadyH.nil)
                have z0 := BX.c0
                have z1 := BX.c1
                have zf := BX.fr
                go_simp
                clear z0 z1 zf
                have gq : ww4.grownBy ((ww4.setCell ⟨pB, 0, none⟩ (.int .i64 n)).setCell ⟨pB, 1, none⟩ (.slice e9 ts.length f9)) (some pB) := grownBy_setCell (p := ⟨pB, 1, none⟩) (grownBy_setCell (p := ⟨pB, 0, none⟩) (grownBy_refl _ _) rfl _) rfl _
                replace N := (N.setCell (p := ⟨pB, 0, none⟩) PL (.int .i64 n)).setCell (p := ⟨pB, 1, none⟩) PL (.slice e9 ts.length f9)
                replace BX := BX.put (.int .i64 n) (.slice e9 ts.length f9)
                replace R9 := R9.kept gq (fun k hk e => by have := AP.out.1 k hk; injection e with e; omega) (fun u hu k hk e => by have := AP.out.2 u hu k hk; injection e with e; omega)
                clear gq
                refine hK.out _ _ N (fun hHeld => ?_)
                clear hK K hHeld
                try simp only [Act.put, sA, sB, sC]
                refine takeQ (i := 10) (gt rfl) (by kernel_rfl) (fun _ _ _ h => h) (by rfl) (by intro wq _; go_simp <;> with_reducible rfl) (by assumption) ?_
                try simp only [Act.put, sA, sB, sC]
                refine wpAnyH_done (by kernel_rfl) ?_ _
                go_wp2
                go_meet
                case rel => exact ⟨_, e9, f9, vs9, rfl, rfl, BX, R9, AP, PL, N⟩
              · skip
                go_simp
                have BX := Box2.new ww2 (lo := 0) (Nat.zero_le _) (.int .i64 0) (.slice none 0 0) 28
                have hb := below1 ww2 (.cells #[.int .i64 0, .slice none 0 0] 28)
                have PL : y6.heap.size ≤ ww2.heap.size := N.size
                replace o3 := o3.below hb
                replace N := N.trans (hb.mono N.size)
                clear hb
                generalize ww2.alloc (.cells #[.int .i64 0, .slice none 0 0] 28) = ww5 at *
                generalize ww2.heap.size = pB at *
                refine hK.out _ _ N (fun hHeld => ?_)
                clear hK K hHeld
                try simp only [Act.put, sA, sB, sC]
                refine wpAnyH_ready (rs := [4]) (by kernel_rfl) (by simp) (AllReadyH.cons (gt rfl) (fun K hK => ?_) AllReadyH.nil)
                go_simp
                refine (implMoved n bx bY a3 c3 rs _ o3.sees L1.out).mono ?_
                rintro e ww6 ⟨v9, vs9, rfl, R9, hb⟩
                rw [HT.out] at R9
                rw [HO.out]
                obtain ⟨e9, f9, rfl, _, _⟩ := R9.shape
                have l9 := R9.len.out
                rw [l9] at R9 ⊢
                clear l9
                have AP : Hid ((∀ k, (Value.slice e9 ts.length f9).ownBlock = some k → k ≠ pB) ∧ ∀ u ∈ vs9, ∀ k, u.ownBlock = some k → k ≠ pB) := ⟨fun k hk => by have := (R9.lts.1 k hk).1; have := BX.lt; omega, fun u hu k hk => by have := (R9.lts.2 u hu k hk).1; have := BX.lt; omega⟩
                have LB := N.size
                replace R9 := R9.base LB
                replace o3 := o3.below hb
                replace BX := BX.below hb
                replace N := N.trans (hb.mono N.size)
                clear hb
                refine hK.out _ _ N (fun hHeld => ?_)
                clear hK K hHeld
                try simp only [Act.put, sA, sB, sC]
                refine takeQ (i := 5) (gt rfl) (by kernel_rfl) (fun _ _ _ h => h) (by rfl) (by intro wq _; go_simp <;> with_reducible rfl) (by assumption) ?_
                try simp only [Act.put, sA, sB, sC]
                refine takeQ (i := 6) (gt rfl) (by kernel_rfl) (fun _ _ _ h => h) (by rfl) (by intro wq _; go_simp <;> with_reducible rfl) (by assumption) ?_
                try simp only [Act.put, sA, sB, sC]
                refine takeQ (i := 7) (gt rfl) (by kernel_rfl) (fun _ _ _ h => h) (by rfl) (by intro wq _; go_simp <;> with_reducible rfl) (by assumption) ?_
                try simp only [Act.put, sA, sB, sC]
                refine wpAnyH_ready (rs := [9]) (by kernel_rfl) (by simp) (AllReadyH.cons (gt rfl) (fun K hK => ?_) AllReadyH.nil)
                have z0 := BX.c0
                have z1 := BX.c1
                have zf := BX.fr
                go_simp
                clear z0 z1 zf
                have gq : ww6.grownBy ((ww6.setCell ⟨pB, 0, none⟩ (.int .i64 n)).setCell ⟨pB, 1, none⟩ (.slice e9 ts.length f9)) (some pB) := grownBy_setCell (p := ⟨pB, 1, none⟩) (grownBy_setCell (p := ⟨pB, 0, none⟩) (grownBy_refl _ _) rfl _) rfl _
                replace N := (N.setCell (p := ⟨pB, 0, none⟩) PL (.int .i64 n)).setCell (p := ⟨pB, 1, none⟩) PL (.slice e9 ts.length f9)
                replace BX := BX.put (.int .i64 n) (.slice e9 ts.length f9)
                replace R9 := R9.kept gq (fun k hk e => by have := AP.out.1 k hk; injection e with e; omega) (fun u hu k hk e => by have := AP.out.2 u hu k hk; injection e with e; omega)
                clear gq
                refine hK.out _ _ N (fun hHeld => ?_)
                clear hK K hHeld
                try simp only [Act.put, sA, sB, sC]
                refine takeQ (i := 10) (gt rfl) (by kernel_rfl) (fun _ _ _ h => h) (by rfl) (by intro wq _; go_simp <;> with_reducible rfl) (by assumption) ?_
                try simp only [Act.put, sA, sB, sC]
                refine wpAnyH_done (by kernel_rfl) ?_ _
                go_wp2
                go_meet
                case rel => exact ⟨_, e9, f9, vs9, rfl, rfl, BX, R9, AP, PL, N⟩
            · skip
              go_simp
              have BX := Box2.new ww1 (lo := 0) (Nat.zero_le _) (.int .i64 0) (.slice none 0 0) 28
              have hb := below1 ww1 (.cells #[.int .i64 0, .slice none 0 0] 28)
              have PL : y6.heap.size ≤ ww1.heap.size := N.size
              replace o3 := o3.below hb
              replace N := N.trans (hb.mono N.size)
              clear hb
              generalize ww1.alloc (.cells #[.int .i64 0, .slice none 0 0] 28) = ww7 at *
              generalize ww1.heap.size = pB at *
              refine hK.out _ _ N (fun hHeld => ?_)
              clear hK K hHeld
              try simp only [Act.put, sA, sB, sC]
              refine wpAnyH_ready (rs := [3]) (by kernel_rfl) (by simp) (AllReadyH.cons (gt rfl) (fun K hK => ?_) AllReadyH.nil)
              go_simp
              refine (toPt_any bx bY _).mono ?_
              rintro e ww8 ⟨rfl, hb⟩
              replace o3 := o3.below hb
              replace BX := BX.below hb
              replace N := N.trans (hb.mono N.size)
              clear hb
              refine hK.out _ _ N (fun hHeld => ?_)
              clear hK K hHeld
              try simp only [Act.put, sA, sB, sC]
              refine wpAnyH_ready (rs := [4]) (by kernel_rfl) (by simp) (AllReadyH.cons (gt rfl) (fun K hK => ?_) AllReadyH.nil)
              go_simp
              refine (implMoved n bx bY a3 c3 rs _ o3.sees L1.out).mono ?_
              rintro e ww9 ⟨v9, vs9, rfl, R9, hb⟩
              rw [HT.out] at R9
              rw [HO.out]
              obtain ⟨e9, f9, rfl, _, _⟩ := R9.shape
              have l9 := R9.len.out
              rw [l9] at R9 ⊢
              clear l9
              have AP : Hid ((∀ k, (Value.slice e9 ts.length f9).ownBlock = some k → k ≠ pB) ∧ ∀ u ∈ vs9, ∀ k, u.ownBlock = some k → k ≠ pB) := ⟨fun k hk => by have := (R9.lts.1 k hk).1; have := BX.lt; omega, fun u hu k hk => by have := (R9.lts.2 u hu k hk).1; have := BX.lt; omega⟩
              have LB := N.size
              replace R9 := R9.base LB
              replace o3 := o3.below hb
              replace BX := BX.below hb
              replace N := N.trans (hb.mono N.size)
              clear hb
              refine hK.out _ _ N (fun hHeld => ?_)
              clear hK K hHeld
              try simp only [Act.put, sA, sB, sC]
              refine takeQ (i := 5) (gt rfl) (by kernel_rfl) (fun _ _ _ h => h) (by rfl) (by intro wq _; go_simp <;> with_reducible rfl) (by assumption) ?_
              try simp only [Act.put, sA, sB, sC]
              refine takeQ (i := 6) (gt rfl) (by kernel_rfl) (fun _ _ _ h => h) (by rfl) (by intro wq _; go_simp <;> with_reducible rfl) (by assumption) ?_
              try simp only [Act.put, sA, sB, sC]
              refine takeQ (i := 7) (gt rfl) (by kernel_rfl) (fun _ _ _ h => h) (by rfl) (by intro wq _; go_simp <;> with_reducible rfl) (by assumption) ?_
              try simp only [Act.put, sA, sB, sC]
              refine wpAnyH_ready (rs := [9]) (by kernel_rfl) (by simp) (AllReadyH.cons (gt rfl) (fun K hK => ?_) AllReadyH.nil)
              have z0 := BX.c0
              have z1 := BX.c1
              have zf := BX.fr
              go_simp
              clear z0 z1 zf
              have gq : ww9.grownBy ((ww9.setCell ⟨pB, 0, none⟩ (.int .i64 n)).setCell ⟨pB, 1, none⟩ (.slice e9 ts.length f9)) (some pB) := grownBy_setCell (p := ⟨pB, 1, none⟩) (grownBy_setCell (p := ⟨pB, 0, none⟩) (grownBy_refl _ _) rfl _) rfl _
              replace N := (N.setCell (p := ⟨pB, 0, none⟩) PL (.int .i64 n)).setCell (p := ⟨pB, 1, none⟩) PL (.slice e9 ts.length f9)
              replace BX := BX.put (.int .i64 n) (.slice e9 ts.length f9)
              replace R9 := R9.kept gq (fun k hk e => by have := AP.out.1 k hk; injection e with e; omega) (fun u hu k hk e => by have := AP.out.2 u hu k hk; injection e with e; omega)
              clear gq
              refine hK.out _ _ N (fun hHeld => ?_)
              clear hK K hHeld
              try simp only [Act.put, sA, sB, sC]
              refine takeQ (i := 10) (gt rfl) (by kernel_rfl) (fun _ _ _ h => h) (by rfl) (by intro wq _; go_simp <;> with_reducible rfl) (by assumption) ?_
              try simp only [Act.put, sA, sB, sC]
              refine wpAnyH_done (by kernel_rfl) ?_ _
              go_wp2
              go_meet
              case rel => exact ⟨_, e9, f9, vs9, rfl, rfl, BX, R9, AP, PL, N⟩
          · skip
            go_simp
            have BX := Box2.new ww0 (lo := 0) (Nat.zero_le _) (.int .i64 0) (.slice none 0 0) 28
            have hb := below1 ww0 (.cells #[.int .i64 0, .slice none 0 0] 28)
            have PL : y6.heap.size ≤ ww0.heap.size := N.size
            replace N := N.trans (hb.mono N.size)
            clear hb
            generalize ww0.alloc (.cells #[.int .i64 0, .slice none 0 0] 28) = ww10 at *
            generalize ww0.heap.size = pB at *
            refine hK.out _ _ N (fun hHeld => ?_)
            clear hK K hHeld
            try simp only [Act.put, sA, sB, sC]
            refine wpAnyH_ready (rs := [1]) (by kernel_rfl) (by simp) (AllReadyH.cons (gt rfl) (fun K hK => ?_) AllReadyH.nil)
            go_simp
            refine (toShape_any n a c rs _ (h.below (B0.trans (N.mono B0.size))) L1.out).mono ?_
            rintro e ww11 ⟨a3, c3, rfl, o3, hb⟩
            replace BX := BX.below hb
            replace N := N.trans (hb.mono N.size)
            clear hb
            refine hK.out _ _ N (fun hHeld => ?_)
            clear hK K hHeld
            try simp only [Act.put, sA, sB, sC]
            refine wpAnyH_ready (rs := [3]) (by kernel_rfl) (by simp) (AllReadyH.cons (gt rfl) (fun K hK => ?_) AllReadyH.nil)
            go_simp
            refine (toPt_any bx bY _).mono ?_
            rintro e ww12 ⟨rfl, hb⟩
            replace o3 := o3.below hb
            replace BX := BX.below hb
            replace N := N.trans (hb.mono N.size)
            clear hb
            refine hK.out _ _ N (fun hHeld => ?_)
            clear hK K hHeld
            try simp only [Act.put, sA, sB, sC]
            refine wpAnyH_ready (rs := [4]) (by kernel_rfl) (by simp) (AllReadyH.cons (gt rfl) (fun K hK => ?_) AllReadyH.nil)
            go_simp
            refine (implMoved n bx bY a3 c3 rs _ o3.sees L1.out).mono ?_
            rintro e ww13 ⟨v9, vs9, rfl, R9, hb⟩
            rw [HT.out] at R9
            rw [HO.out]
            obtain ⟨e9, f9, rfl, _, _⟩ := R9.shape
            have l9 := R9.len.out
            rw [l9] at R9 ⊢
            clear l9
            have AP : Hid ((∀ k, (Value.slice e9 ts.length f9).ownBlock = some k → k ≠ pB) ∧ ∀ u ∈ vs9, ∀ k, u.ownBlock = some k → k ≠ pB) := ⟨fun k hk => by have := (R9.lts.1 k hk).1; have := BX.lt; omega, fun u hu k hk => by have := (R9.lts.2 u hu k hk).1; have := BX.lt; omega⟩
            have LB := N.size
            replace R9 := R9.base LB
            replace o3 := o3.below hb
            replace BX := BX.below hb
            replace N := N.trans (hb.mono N.size)
            clear hb
            refine hK.out _ _ N (fun hHeld => ?_)
            clear hK K hHeld
            try simp only [Act.put, sA, sB, sC]
            refine takeQ (i := 5) (gt rfl) (by kernel_rfl) (fun _ _ _ h => h) (by rfl) (by intro wq _; go_simp <;> with_reducible rfl) (by assumption) ?_
            try simp only [Act.put, sA, sB, sC]
            refine takeQ (i := 6) (gt rfl) (by kernel_rfl) (fun _ _ _ h => h) (by rfl) (by intro wq _; go_simp <;> with_reducible rfl) (by assumption) ?_
            try simp only [Act.put, sA, sB, sC]
            refine takeQ (i := 7) (gt rfl) (by kernel_rfl) (fun _ _ _ h => h) (by rfl) (by intro wq _; go_simp <;> with_reducible rfl) (by assumption) ?_
            try simp only [Act.put, sA, sB, sC]
            refine wpAnyH_ready (rs := [9]) (by kernel_rfl) (by simp) (AllReadyH.cons (gt rfl) (fun K hK => ?_) AllReadyH.nil)
            have z0 := BX.c0
            have z1 := BX.c1
            have zf := BX.fr
            go_simp
            clear z0 z1 zf
            have gq : ww13.grownBy ((ww13.setCell ⟨pB, 0, none⟩ (.int .i64 n)).setCell ⟨pB, 1, none⟩ (.slice e9 ts.length f9)) (some pB) := grownBy_setCell (p := ⟨pB, 1, none⟩) (grownBy_setCell (p := ⟨pB, 0, none⟩) (grownBy_refl _ _) rfl _) rfl _
            replace N := (N.setCell (p := ⟨pB, 0, none⟩) PL (.int .i64 n)).setCell (p := ⟨pB, 1, none⟩) PL (.slice e9 ts.length f9)
            replace BX := BX.put (.int .i64 n) (.slice e9 ts.length f9)
            replace R9 := R9.kept gq (fun k hk e => by have := AP.out.1 k hk; injection e with e; omega) (fun u hu k hk e => by have := AP.out.2 u hu k hk; injection e with e; omega)
            clear gq
            refine hK.out _ _ N (fun hHeld => ?_)
            clear hK K hHeld
            try simp only [Act.put, sA, sB, sC]
            refine takeQ (i := 10) (gt rfl) (by kernel_rfl) (fun _ _ _ h => h) (by rfl) (by intro wq _; go_simp <;> with_reducible rfl) (by assumption) ?_
            try simp only [Act.put, sA, sB, sC]
            refine wpAnyH_done (by kernel_rfl) ?_ _
            go_wp2
            go_meet
            case rel => exact ⟨_, e9, f9, vs9, rfl, rfl, BX, R9, AP, PL, N⟩
      rename World => Y9
      obtain ⟨p14, e2, f2, vs2, rfl, rfl, V5, R2, A2, PL14, N9⟩ := hcut
      clear k0 k1 k2 k3
      have hb := N9.out
      have V5' := V5.out
      have R2' := R2.out
      replace B0 := B0.trans (hb.mono B0.size)
      replace V1 := V1.below hb
      replace VQ := VQ.below hb
      replace V2' := V2'.below hb
      replace V4' := V4'.below hb
      replace U0 := U0.below hb
      have S8 : Hid (SeesS Y9 e1 f1 (mkRs ts ts.length)) := S6.out.below hb
      clear hb N9 V5 R2 A2 S6
      obtain ⟨k4, k5, _, _⟩ := id V5'
      obtain ⟨k6, k7, _, _⟩ := id V2'
      go_wp2_with fail
      refine (eqShape_any n e2 e0 f2 f0 ts _ R2'.sees U0.sees).mono ?_
      rintro e y9 ⟨rfl, hb⟩
      replace B0 := B0.trans (hb.mono B0.size)
      replace V4' := V4'.below hb
      have S9 : Hid (SeesS y9 e1 f1 (mkRs ts ts.length)) := S8.out.below hb
      clear hb k4 k5 k6 k7 S8
      obtain ⟨k4, k5, _, _⟩ := id V4'
      go_wp2_with fail
      refine (heldShR n e1 f1 ts _ S9.out L2.out).mono ?_
      rintro e y10 ⟨rfl, hb⟩
      rw [hk9.out]
      replace B0 := B0.trans (hb.mono B0.size)
      clear hb
      go_wp2
      go_ret
      exact ⟨rfl, B0⟩
end Go.Proofs.Ythncjdmjpglliaa
