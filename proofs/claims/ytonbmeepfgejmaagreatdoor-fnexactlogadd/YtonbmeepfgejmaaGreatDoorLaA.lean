/- Whether a log lies on a disk (the specification's l12Log); queues one behind the other. -/
import Derived.Test.YtonbmeepfgejmaaGreatDoorLgO
import Derived.Test.YtonbmeepfgejmaaGreatDoorLgW
namespace Go.Proofs.YtonbmeepfgejmaaGreatDoor
open Go.RowKit

/-- It is a log of this disk. -/
def LaFine (bs : List Int) (qs : List Wr) (F L N E : Int) : Prop := OpIn bs qs F L ∧ (0 ≤ N ∧ N ≤ L - F + 1) ∧ (1 ≤ E ∧ E ≤ 1000000)
set_option maxRecDepth 20000 in
set_option maxHeartbeats 2000000 in
theorem l12Log_any {lo : Nat} (ad : Addr) (a2 : Option Addr) (c c2 : Nat) (vs0 : List Value) (bs : List Int) (qs : List Wr) (F L N E : Int) (w : World) (h : DkR lo w (.slice (some ad) bs.length c) (.slice a2 qs.length c2) vs0 bs qs) (hb0 : bs.length ≤ 2000000) :
    Calls Tryz.prog 20 #[.agg #[.slice (some ad) bs.length c, .slice a2 qs.length c2], .agg #[.int .i64 F, .int .i64 L, .int .i64 N, .int .i64 E]] w fun e w' => ∃ r : Bool, e = .returned (.bool r) ∧ (r = true ↔ LaFine bs qs F L N E) ∧ Below w.heap.size w w' := by
  have B := below2 w (.cells #[.slice (some ad) bs.length c, .slice a2 qs.length c2] 31) (.cells #[.int .i64 F, .int .i64 L, .int .i64 N, .int .i64 E] 32)
  have V := Box4.new (w.alloc (.cells #[.slice (some ad) bs.length c, .slice a2 qs.length c2] 31)) (lo := 0) (by omega) (.int .i64 F) (.int .i64 L) (.int .i64 N) (.int .i64 E) 32
  rw [World.size_alloc] at V
  have HD : Hid (DkR lo w (.slice (some ad) bs.length c) (.slice a2 qs.length c2) vs0 bs qs) := h
  have HF : Hid (LaFine bs qs F L N E ↔ OpIn bs qs F L ∧ (0 ≤ N ∧ N ≤ L - F + 1) ∧ (1 ≤ E ∧ E ≤ 1000000)) := by show _ ↔ _; exact Iff.rfl
  clear h
  go_enter Tryz.func20, Tryz.ntmps20
  go_wp2_with fail
  refine (l12Region_any ad a2 c c2 vs0 bs qs F L _ (HD.out.below B) hb0).mono ?_
  rintro e w1 ⟨r, rfl, hr, hb⟩
  have HR : Hid (r = true ↔ OpIn bs qs F L) := hr
  replace B := B.trans (hb.mono B.size)
  replace V := V.below hb
  clear hb hr
  obtain ⟨v0, v1, v2, v3, _, _⟩ := id V
  cases r with
  | false =>
    have NF : Hid (¬LaFine bs qs F L N E) := fun q => by have := HR.out.2 (HF.out.1 q).1; cases this
    clear HR HF
    go_wp2
    go_ret
    first | exact ⟨false, rfl, ⟨(fun q => by cases q), (fun q => absurd q NF.out)⟩, B⟩ | exact .inl ⟨rfl, NF.out, B⟩
  | true =>
    have OI : Hid (OpIn bs qs F L) := HR.out.1 rfl
    have oi := OI.out
    unfold OpIn at oi
    have k4 := oi.1.2.2.1
    obtain ⟨_, f0, f1, f2⟩ := oi
    have wr : wrap64 (wrap64 (L - F) + 1) = L - F + 1 := by unfold wrap64; omega
    clear HR
    by_cases h3 : 0 ≤ N ∧ N ≤ L - F + 1
    · have d3 := in_yes h3
      by_cases h4 : 1 ≤ E ∧ E ≤ 1000000
      · have d4 := in_yes h4
        have YF : Hid (LaFine bs qs F L N E) := HF.out.2 ⟨OI.out, h3, h4⟩
        clear h3 h4 HF
        go_wp2_with fail
        refine (l1InD _ _ _ _).mono ?_
        rintro e w2 ⟨rfl, rfl⟩
        rw [d3]
        go_wp2_with fail
        refine (l1InD _ _ _ _).mono ?_
        rintro e w3 ⟨rfl, rfl⟩
        rw [d4]
        go_wp2
        go_ret
        first | exact ⟨true, rfl, ⟨fun _ => YF.out, fun _ => rfl⟩, B⟩ | exact .inr ⟨rfl, YF.out, B⟩
      · have d4 := in_no h4
        have NF : Hid (¬LaFine bs qs F L N E) := fun q => h4 (HF.out.1 q).2.2
        clear h3 h4 HF
        go_wp2_with fail
        refine (l1InD _ _ _ _).mono ?_
        rintro e w2 ⟨rfl, rfl⟩
        rw [d3]
        go_wp2_with fail
        refine (l1InD _ _ _ _).mono ?_
        rintro e w3 ⟨rfl, rfl⟩
        rw [d4]
        go_wp2
        go_ret
        first | exact ⟨false, rfl, ⟨(fun q => by cases q), (fun q => absurd q NF.out)⟩, B⟩ | exact .inl ⟨rfl, NF.out, B⟩
    · have d3 := in_no h3
      have NF : Hid (¬LaFine bs qs F L N E) := fun q => h3 (HF.out.1 q).2.1
      clear h3 HF
      go_wp2_with fail
      refine (l1InD _ _ _ _).mono ?_
      rintro e w2 ⟨rfl, rfl⟩
      rw [d3]
      go_wp2
      go_ret
      first | exact ⟨false, rfl, ⟨(fun q => by cases q), (fun q => absurd q NF.out)⟩, B⟩ | exact .inl ⟨rfl, NF.out, B⟩

theorem wrC_app : ∀ (qs : List Wr) (vs : List Value) (ws : List Wr) (us : List Value), vs.length = qs.length → wrC (qs ++ ws) (vs ++ us) = wrC qs vs ++ wrC ws us
  | [], [], _, _, _ => rfl
  | p :: qs, u :: vs, ws, us, h => by
    simp only [List.cons_append, wrC]
    rw [wrC_app qs vs ws us (by simpa using h)]
  | [], _ :: _, _, _, h => by simp at h
  | _ :: _, [], _, _, h => by simp at h
theorem wrN_appL {qs ws : List Wr} {i : Nat} (h : i < qs.length) : wrN (qs ++ ws) i = wrN qs i := by unfold wrN; rw [List.getElem?_append_left h]
theorem wrN_appR {qs ws : List Wr} {i : Nat} (h : qs.length ≤ i) : wrN (qs ++ ws) i = wrN ws (i - qs.length) := by unfold wrN; rw [List.getElem?_append_right h]
/-- A queue behind another one. -/
theorem QuR.app {lo : Nat} {w w' : World} {v v2 v' : Value} {vs us : List Value} {qs ws : List Wr} (h : QuR lo w v vs qs) (kq : QuR lo w v2 us ws) (nu : ∀ u ∈ us, ∀ k, u.ownBlock = some k → v.ownBlock ≠ some k ∧ ∀ x ∈ vs, x.ownBlock ≠ some k)
    (own : w'.ownsRow lo 55 2 v' (vs.length + us.length) (wrC qs vs ++ wrC ws us)) (g : w.grownBy w' v.ownBlock) (at' : v'.ownBlock = v.ownBlock ∨ v'.ownBlock = some w.heap.size) : QuR lo w' v' (vs ++ us) (qs ++ ws) := by
  have hl := h.len.out
  have kl := kq.len.out
  have ne' : ∀ x ∈ vs ++ us, ∀ k, x.ownBlock = some k → v.ownBlock ≠ some k ∧ k < w.heap.size := fun x hx k hk => by
    rcases List.mem_append.1 hx with hx | hx
    · exact ⟨h.ne x hx k hk, (h.lts.2 x hx k hk).2⟩
    · exact ⟨(nu x hx k hk).1, (kq.lts.2 x hx k hk).2⟩
  refine ⟨by rw [List.length_append, wrC_app _ _ _ _ hl]; exact own, (by show _ = _; rw [List.length_append, List.length_append, hl, kl]), fun i x hx => ?_, fun x hx k hk => ?_, fun i j x x' hij hi hj k hk => ?_⟩
  · have keep := fun ps (R : RowB lo w x ps) => (owns_kept' R g (fun k hk => (ne' x (List.mem_of_getElem? hx) k hk).1) : RowB lo w' x ps)
    by_cases hi : i < vs.length
    · rw [List.getElem?_append_left hi] at hx
      rw [wrN_appL (by omega)]
      exact keep _ (h.rows i x hx)
    · rw [List.getElem?_append_right (by omega)] at hx
      rw [wrN_appR (by omega), ← hl]
      exact keep _ (kq.rows _ x hx)
  · obtain ⟨q1, q2⟩ := ne' x hx k hk
    rcases at' with e | e
    · rw [e]; exact q1
    · rw [e]
      intro q
      injection q with q
      omega
  · by_cases hjl : j < vs.length
    · rw [List.getElem?_append_left (by omega)] at hi
      rw [List.getElem?_append_left hjl] at hj
      exact h.apart i j x x' hij hi hj k hk
    · rw [List.getElem?_append_right (by omega)] at hj
      by_cases hil : i < vs.length
      · rw [List.getElem?_append_left hil] at hi
        intro q
        exact (nu x' (List.mem_of_getElem? hj) k q).2 x (List.mem_of_getElem? hi) hk
      · rw [List.getElem?_append_right (by omega)] at hi
        exact kq.apart (i - vs.length) (j - vs.length) x x' (by omega) hi hj k hk
end Go.Proofs.YtonbmeepfgejmaaGreatDoor
