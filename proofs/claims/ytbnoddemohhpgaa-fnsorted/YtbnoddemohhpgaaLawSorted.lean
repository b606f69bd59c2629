/- The law FnSorted: drawn boxes are sorted by their keys, each once. -/
import Derived.Test.YtbnoddemohhpgaaDrawS
import Derived.Test.YtbnoddemohhpgaaBig
import Derived.Test.YtbnoddemohhpgaaCsZ
import Derived.Test.YtbnoddemohhpgaaHeldQ
import Derived.Test.YtbnoddemohhpgaaHeld
import Derived.Deep.Cut
namespace Go.Proofs.Ytbnoddemohhpgaa
open Go.RowKit

theorem implCurveSort_big (a : Option Addr) (n cap : Nat) (w : World) (h : 500 < n) (hn : n ≤ 9223372036854775807) :
    Calls Try.prog 6 #[.slice a n cap] w fun e w' => e = .returned (.slice none 0 0) ∧ w' = w := by
  go_enter Try.func6, Try.ntmps6
  go_wp2
  go_ret
  exact ⟨rfl, rfl⟩
theorem infoT : (Try.prog.info? 4).map (fun i => (i.zero, i.size, i.bytes)) = some (some (.bool false), 1, 1) := by kernel_rfl
/-- Which places have been met. -/
structure MetB (w : World) (g n : Nat) (f : Nat → Bool) : Prop where
  c : ∀ j, j < n → w.cell? ⟨g, j, none⟩ = some (.bool (f j))
  fr : ∀ o, w.frozen? ⟨g, o, none⟩ = false
  lt : g < w.heap.size
theorem MetB.below {w w' : World} {g n : Nat} {f : Nat → Bool} (h : MetB w g n f) (hb : Below w.heap.size w w') : MetB w' g n f := by
  obtain ⟨q, r⟩ := at_block hb h.lt
  exact ⟨fun j hj => (q _).trans (h.c j hj), fun o => (r o).trans (h.fr o), Nat.lt_of_lt_of_le h.lt hb.size⟩
theorem MetB.put {w : World} {g n : Nat} {f f' : Nat → Bool} (h : MetB w g n f) {x : Nat} (hx : x < n) (h1 : f' x = true) (h2 : ∀ j, j ≠ x → f' j = f j) : MetB (w.setCell ⟨g, x, none⟩ (.bool true)) g n f' := by
  refine ⟨fun j hj => ?_, fun o => (World.frozen?_setCell ..).trans (h.fr o), by simpa using h.lt⟩
  by_cases e : j = x
  · subst e
    rw [h1]
    exact cell_same (h.c j hj) _
  · rw [h2 j e]
    exact (cell_other (.inr (Ne.symm e)) _).trans (h.c j hj)
theorem MetB.start {w : World} {base e g n : Nat} (l : List Nat) (h : w.ownsRow base e 1 (.slice (some ⟨g, 0, none⟩) n n) n (madeCells #[Value.bool false] n).toList) : MetB w g n (fun j => decide (j ∈ List.take 0 l)) := by
  obtain ⟨h1, h2⟩ := id h
  rcases h2 with ⟨h2, _⟩ | ⟨g', cap', cur, hv, hb, hh, hc, hm, hs, ht⟩
  · cases h2
  simp only [Value.slice.injEq, Option.some.injEq, Addr.mk.injEq, and_true] at hv
  obtain ⟨rfl, _, rfl⟩ := hv
  refine ⟨fun j hj => ?_, fun o => by simp [World.frozen?, hh], (Array.getElem?_eq_some_iff.1 hh).1⟩
  rw [h.cellAt j (by omega)]
  simp [madeCells, hj, Nat.mod_one]
theorem mem_take_more {l : List Nat} {i : Nat} (hi : i < l.length) {x : Nat} (hx : l[i]?.getD 0 = x) (j : Nat) : j ∈ l.take (i + 1) ↔ j ∈ l.take i ∨ j = x := by
  rw [List.getElem?_eq_getElem hi, Option.getD_some] at hx
  rw [List.take_succ_eq_append_getElem hi, List.mem_append, List.mem_singleton, hx]
theorem Srt.fresh {kf : Nat → Int} {n i : Nat} {l : List Nat} (h : Srt kf n l) (hi : i < l.length) {x : Nat} (hx : l[i]?.getD 0 = x) : x ∉ l.take i := by
  intro hm
  have nd : l.Nodup := h.1.nodup_iff.2 List.nodup_range
  rw [List.getElem?_eq_getElem hi, Option.getD_some] at hx
  obtain ⟨j, hj, e⟩ := List.getElem_of_mem hm
  rw [List.getElem_take] at e
  have hj' : j < i := by simp at hj; omega
  have := (List.getElem_inj (h₀ := (by omega : j < l.length)) (h₁ := hi) nd).1 (e.trans hx.symm)
  omega
theorem Srt.next {kf : Nat → Int} {n i : Nat} {l : List Nat} (h : Srt kf n l) (hi : i + 1 < l.length) {x y : Nat} (hy : l[i]?.getD 0 = y) (hx : l[i + 1]?.getD 0 = x) : csLt kf y x := by
  rw [List.getElem?_eq_getElem (by omega), Option.getD_some] at hx hy
  have := List.pairwise_iff_getElem.1 h.2 i (i + 1) (by omega) hi (by omega)
  rw [hx, hy] at this
  exact this
theorem Srt.at {kf : Nat → Int} {n i : Nat} {l : List Nat} (h : Srt kf n l) (hi : i < l.length) {x : Nat} (hx : l[i]?.getD 0 = x) : x < n := by
  rw [List.getElem?_eq_getElem hi, Option.getD_some] at hx
  rw [← hx]
  exact h.lt (List.getElem_mem hi)

set_option maxRecDepth 20000 in
set_option maxHeartbeats 4000000 in
theorem lawSorted (a : Option Addr) (n cap : Nat) (w : World) (hB : Byt w a n) :
    Calls Try.prog 3 #[.slice a n cap] w fun e w' => e = .returned (.bool true) ∧ Below w.heap.size w w' := by
  by_cases hs : n ≤ 1048576
  · have HM : Hid (n ≤ 1048576) := hs
    have hd : decide (1048576 < (n : Int)) = false := decide_eq_false (by omega)
    clear hs
    go_enter Try.func3, Try.ntmps3
    go_wp2_with fail
    refine (bigB_any a n cap _).mono ?_
    rintro e w0 ⟨rfl, rfl⟩
    rw [hd]
    clear hd
    go_wp2_with fail
    refine (drawCurveSort_any a n cap _ hB HM.out).mono ?_
    rintro e w1 ⟨v, rfl, (⟨aB, cB, bs, rfl, hl, SX⟩ | ⟨aB, cB, rfl⟩), B⟩
    · clear hB HM
      have HT : Hid (bs.length ≤ 20) := hl
      go_wp2_with fail
      refine (implCurveSort aB cB bs _ SX).mono ?_
      rintro e w2 ⟨v4, rfl, l, RL, OK, hb⟩
      replace B := B.trans (hb.mono B.size)
      replace SX := SX.below hb
      clear hb
      have SR : Srt (csK bs) bs.length l := by unfold csOk at OK; rw [if_pos (by omega)] at OK; exact OK
      clear OK
      have LL := SR.len
      have SH : Hid (Srt (csK bs) bs.length l) := SR
      clear SR
      obtain ⟨aL, cL, rfl, hcL, hmL⟩ := RL.shape'
      rw [List.length_map, LL] at hcL ⊢
      have RH : Hid (RowI w1.heap.size w2 (.slice aL (List.map Int.ofNat l).length cL) (List.map Int.ofNat l)) := RL
      clear RL
      have SXH : Hid (SeesX w2 aB cB bs) := SX
      clear SX
      unfold maxLen at hmL
      obtain ⟨iT, hiT, ht0, ht1, ht2⟩ := info_parts infoT
      generalize hN : bs.length = m at *
      go_wp2_with (at_make; refine wpList_make_full _ rfl _ _ 28 rfl w2.heap.size 4 iT (.bool false) 1 Try.underlying28 hiT ht0 ht1 .i64 .i64 _ _ m rfl rfl rfl rfl ?b2 ?b3 (Nat.le_refl _) ?_)
      case b2 => rw [ht2]; omega
      case b3 => unfold maxLen; omega
      intro w3 hown0 hgrow0
      have MB : MetB w3 w2.heap.size m (fun j => decide (j ∈ List.take 0 l)) := MetB.start l hown0
      have BB : Below w2.heap.size w2 w3 := (Below.refl _ _).grown hgrow0 (Nat.le_refl _) (fun k h => by cases h)
      clear hown0 hgrow0 hiT ht0 ht1 ht2
      generalize hg : w2.heap.size = g at *
      go_wp2
      go_loopw [6] (fun s6 wr => ∃ i : Nat, i ≤ m ∧ s6 = .int .i64 i ∧ MetB wr g m (fun j => decide (j ∈ List.take i l)) ∧ Below g w2 wr) (fun s6 _ => m - (intOf s6).toNat)
      case atStart => exact ⟨0, Nat.zero_le _, rfl, MB, BB⟩
      case round =>
        clear MB BB
        obtain ⟨i, hi, rfl, MB, BB⟩ := hrel
        rename World => wr
        by_cases hlt : i < m
        · obtain ⟨x, hx⟩ : ∃ x, Hid (l[i]?.getD 0 = x) := ⟨_, rfl⟩
          have xm : x < m := SH.out.at (by omega) hx.out
          have xf : x ∉ l.take i := SH.out.fresh (by omega) hx.out
          have m0 := MB.c x xm
          have mf := MB.fr x
          simp only [xf, decide_false] at m0
          replace MB := MB.put (f' := fun j => decide (j ∈ List.take (i + 1) l)) xm (by simp only [mem_take_more (by omega) hx.out]; simp) (fun j ne => by simp only [mem_take_more (by omega) hx.out, ne, or_false])
          have b2 : Below w2.heap.size w2 wr := by rw [hg]; exact BB
          obtain ⟨q, rfl, rc, _⟩ := (RH.out.below b2).at2 (j := i) (by rw [List.length_map]; omega)
          rw [mapN_at, hx.out] at rc
          have ql : q < g := by rw [← hg]; exact (World.ownsRow.lt RH.out q rfl).2
          replace BB := BB.setCell (p := ⟨g, x, none⟩) (Nat.le_refl _) (.bool true)
          have rc2 := (cell_other (o := x) (i := i) (.inl (show g ≠ q by omega)) (.bool true)).trans rc
          cases i with
          | zero =>
            clear b2
            go_wp2
            go_roundw
            case rel => exact ⟨1, by omega, by go_num, MB, BB⟩
            case measure => simp [intOf] <;> omega
          | succ i =>
            obtain ⟨y, hy⟩ : ∃ y, Hid (l[i]?.getD 0 = y) := ⟨_, rfl⟩
            have ym : y < m := SH.out.at (by omega) hy.out
            have LT : Hid (csLt (csK bs) y x) := SH.out.next (by omega) hy.out hx.out
            obtain ⟨q', e', rd, _⟩ := (RH.out.below b2).at2 (j := i) (by rw [List.length_map]; omega)
            obtain rfl : q = q' := by simpa using e'
            rw [mapN_at, hy.out] at rd
            have rd2 := (cell_other (o := x) (i := i) (.inl (show g ≠ q by omega)) (.bool true)).trans rd
            clear b2 e' rd
            have b4 : Below w2.heap.size w2 (wr.setCell ⟨g, x, none⟩ (.bool true)) := by rw [hg]; exact BB
            obtain ⟨bB, oB, rfl, hc⟩ := (SXH.out.below b4).cells (by intro e; rw [e] at hN; simp at hN; omega)
            clear b4
            obtain ⟨xx, HX⟩ : ∃ z, Hid (bxAt bs x = z) := ⟨_, rfl⟩
            obtain ⟨x1, x2, x3, x4⟩ := xx
            obtain ⟨yy, HY⟩ : ∃ z, Hid (bxAt bs y = z) := ⟨_, rfl⟩
            obtain ⟨y1, y2, y3, y4⟩ := yy
            have F1 := hc y (by omega)
            have F2 := hc x (by omega)
            rw [HY.out] at F1
            rw [HX.out] at F2
            clear hc
            have KX : Hid (csK bs x = cvKey x1 x2 x3 x4) := by show _ = _; unfold csK; rw [HX.out]
            have KY : Hid (csK bs y = cvKey y1 y2 y3 y4) := by show _ = _; unfold csK; rw [HY.out]
            obtain ⟨f0, f1, f2, f3⟩ := id F1
            dsimp only at f0 f1 f2 f3
            go_wp2_with fail
            clear f0 f1 f2 f3 F1 rc m0 mf
            generalize wr.setCell ⟨g, x, none⟩ (.bool true) = W4 at *
            refine (implCurveKey y1 y2 y3 y4 _).mono ?_
            rintro e w5 ⟨rfl, hb⟩
            replace F2 := F2.below hb
            have MBl := MB.lt
            replace MB := MB.below hb
            replace rc2 := bat hb rc2
            replace rd2 := bat hb rd2
            replace BB := BB.trans (hb.mono (Nat.le_of_lt MBl))
            clear hb
            obtain ⟨f0, f1, f2, f3⟩ := id F2
            dsimp only at f0 f1 f2 f3
            go_wp2_with fail
            clear f0 f1 f2 f3 F2
            refine (implCurveKey x1 x2 x3 x4 _).mono ?_
            rintro e w6 ⟨rfl, hb⟩
            have MBl2 := MB.lt
            replace MB := MB.below hb
            have r1 := bat hb rc2
            have r0 := bat hb rd2
            replace BB := BB.trans (hb.mono (Nat.le_of_lt MBl2))
            clear hb rc2 rd2
            have LT2 := LT.out
            unfold csLt at LT2
            rw [KX.out, KY.out] at LT2
            have wi1 : ((i + 1 : Nat) : Int) - 1 = (i : Int) := by omega
            have wi : IntKind.i64.wrap (i : Int) = (i : Int) := by rw [IntKind.wrap_i64]; omega
            have wj : IntKind.i64.wrap ((i + 1 : Nat) : Int) = ((i + 1 : Nat) : Int) := by rw [IntKind.wrap_i64]; omega
            have wj' : IntKind.i64.wrap ((i : Int) + 1) = (i : Int) + 1 := by rw [IntKind.wrap_i64]; omega
            have bi : (i : Int) < (m : Int) := by omega
            have bj : (i : Int) + 1 < (m : Int) := by omega
            by_cases kk : cvKey y1 y2 y3 y4 = cvKey x1 x2 x3 x4
            · have lyx : ¬ (x : Int) < (y : Int) := by omega
              clear LT2
              rw [kk]
              clear kk
              generalize cvKey x1 x2 x3 x4 = kx at *
              have d1 : decide (kx < kx) = false := by simp
              have d2 : (kx == kx) = true := by simp
              have d3 : decide ((x : Int) < (y : Int)) = false := decide_eq_false lyx
              go_upto_region 17 with fail
              refine wp_region_held_drew (S := Below w6.heap.size w6) (by kernel_rfl) ((Below.refl _ _).drew) (fun hHeld => ?_)
              have N : Below w6.heap.size w6 w6.drew := hHeld
              revert hHeld N
              generalize w6.drew = ww0
              intro hHeld N
              refine takeQ (i := 0) (gt rfl) (by kernel_rfl) (fun _ _ _ h => h) (by rfl) (by intro wq _; go_simp <;> with_reducible rfl) (by assumption) ?_
              try simp only [Act.put, sA, sB, sC]
              refine takeQ (i := 1) (gt rfl) (by kernel_rfl) (fun _ _ _ h => h) (by rfl) (by intro wq _; go_simp <;> with_reducible rfl) (by assumption) ?_
              try simp only [Act.put, sA, sB, sC]
              refine takeQ (i := 2) (gt rfl) (by kernel_rfl) (fun _ _ _ h => h) (by rfl) (by intro wq _; go_simp <;> with_reducible rfl) (by assumption) ?_
              try simp only [Act.put, sA, sB, sC]
              refine takeQ (i := 3) (gt rfl) (by kernel_rfl) (fun _ _ _ h => h) (by rfl) (by intro wq _; go_simp <;> with_reducible rfl) (by assumption) ?_
              try simp only [Act.put, sA, sB, sC]
              refine takeQ (i := 4) (gt rfl) (by kernel_rfl) (fun _ _ _ h => h) (by rfl) (by intro wq _; go_simp <;> with_reducible rfl) (by assumption) ?_
              try simp only [Act.put, sA, sB, sC]
              refine takeQ (i := 5) (gt rfl) (by kernel_rfl) (fun _ _ _ h => h) (by rfl) (by intro wq _; go_simp <;> with_reducible rfl) (by assumption) ?_
              try simp only [Act.put, sA, sB, sC]
              refine takeQ (i := 6) (gt rfl) (by kernel_rfl) (fun _ _ _ h => h) (by rfl) (by intro wq _; go_simp <;> with_reducible rfl) (by assumption) ?_
              try simp only [Act.put, sA, sB, sC]
              refine takeQ (i := 7) (gt rfl) (by kernel_rfl) (fun _ _ _ h => h) (by rfl) (by intro wq _; go_simp <;> with_reducible rfl) (by assumption) ?_
              try simp only [Act.put, sA, sB, sC]
              refine takeQ (i := 8) (gt rfl) (by kernel_rfl) (fun _ _ _ h => h) (by rfl) (by intro wq _; go_simp <;> with_reducible rfl) (by assumption) ?_
              try simp only [Act.put, sA, sB, sC]
              refine takeQ (i := 9) (gt rfl) (by kernel_rfl) (fun _ _ _ h => h) (by rfl) (by intro wq _; go_simp <;> with_reducible rfl) (by assumption) ?_
              try simp only [Act.put, sA, sB, sC]
              refine takeQ (i := 10) (gt rfl) (by kernel_rfl) (fun _ _ _ h => h) (by rfl) (by intro wq _; go_simp <;> with_reducible rfl) (by assumption) ?_
              try simp only [Act.put, sA, sB, sC]
              refine takeQ (i := 11) (gt rfl) (by kernel_rfl) (fun _ _ _ h => h) (by rfl) (by intro wq _; go_simp <;> with_reducible rfl) (by assumption) ?_
              try simp only [Act.put, sA, sB, sC]
              refine takeQ (i := 12) (gt rfl) (by kernel_rfl) (fun _ _ _ h => h) (by rfl) (by intro wq hSw; have q0 := bat hSw r0; have q1 := bat hSw r1; go_simp <;> with_reducible rfl) (by assumption) ?_
              try simp only [Act.put, sA, sB, sC]
              refine takeQ (i := 13) (gt rfl) (by kernel_rfl) (fun _ _ _ h => h) (by rfl) (by intro wq _; go_simp <;> with_reducible rfl) (by assumption) ?_
              try simp only [Act.put, sA, sB, sC]
              refine takeQ (i := 14) (gt rfl) (by kernel_rfl) (fun _ _ _ h => h) (by rfl) (by intro wq _; go_simp <;> with_reducible rfl) (by assumption) ?_
              try simp only [Act.put, sA, sB, sC]
              refine takeQ (i := 15) (gt rfl) (by kernel_rfl) (fun _ _ _ h => h) (by rfl) (by intro wq _; go_simp <;> with_reducible rfl) (by assumption) ?_
              try simp only [Act.put, sA, sB, sC]
              refine takeQ (i := 16) (gt rfl) (by kernel_rfl) (fun _ _ _ h => h) (by rfl) (by intro wq hSw; have q0 := bat hSw r0; have q1 := bat hSw r1; go_simp <;> with_reducible rfl) (by assumption) ?_
              try simp only [Act.put, sA, sB, sC]
              refine takeQ (i := 17) (gt rfl) (by kernel_rfl) (fun _ _ _ h => h) (by rfl) (by intro wq _; go_simp <;> with_reducible rfl) (by assumption) ?_
              try simp only [Act.put, sA, sB, sC]
              refine takeQ (i := 18) (gt rfl) (by kernel_rfl) (fun _ _ _ h => h) (by rfl) (by intro wq _; go_simp <;> with_reducible rfl) (by assumption) ?_
              try simp only [Act.put, sA, sB, sC]
              refine takeQ (i := 19) (gt rfl) (by kernel_rfl) (fun _ _ _ h => h) (by rfl) (by intro wq _; go_simp <;> with_reducible rfl) (by assumption) ?_
              try simp only [Act.put, sA, sB, sC]
              refine wpAnyH_done (by kernel_rfl) ?_ _
              have MBl3 := MB.lt
              replace BB := BB.trans (N.mono (Nat.le_of_lt MBl3))
              replace MB := MB.below N
              clear N
              go_wp2
              go_roundw
              case rel => exact ⟨i + 1 + 1, by omega, by go_num, MB, BB⟩
              case measure => simp [intOf] <;> omega
            · have ng : ¬ cvKey x1 x2 x3 x4 < cvKey y1 y2 y3 y4 := by omega
              clear LT2
              generalize cvKey x1 x2 x3 x4 = kx at *
              generalize cvKey y1 y2 y3 y4 = ky at *
              have d1 : decide (kx < ky) = false := decide_eq_false ng
              have d2 : (ky == kx) = false := by simpa using kk
              go_upto_region 17 with fail
              refine wp_region_held_drew (S := Below w6.heap.size w6) (by kernel_rfl) ((Below.refl _ _).drew) (fun hHeld => ?_)
              have N : Below w6.heap.size w6 w6.drew := hHeld
              revert hHeld N
              generalize w6.drew = ww0
              intro hHeld N
              refine takeQ (i := 0) (gt rfl) (by kernel_rfl) (fun _ _ _ h => h) (by rfl) (by intro wq _; go_simp <;> with_reducible rfl) (by assumption) ?_
              try simp only [Act.put, sA, sB, sC]
              refine takeQ (i := 1) (gt rfl) (by kernel_rfl) (fun _ _ _ h => h) (by rfl) (by intro wq _; go_simp <;> with_reducible rfl) (by assumption) ?_
              try simp only [Act.put, sA, sB, sC]
              refine takeQ (i := 2) (gt rfl) (by kernel_rfl) (fun _ _ _ h => h) (by rfl) (by intro wq _; go_simp <;> with_reducible rfl) (by assumption) ?_
              try simp only [Act.put, sA, sB, sC]
              refine takeQ (i := 3) (gt rfl) (by kernel_rfl) (fun _ _ _ h => h) (by rfl) (by intro wq _; go_simp <;> with_reducible rfl) (by assumption) ?_
              try simp only [Act.put, sA, sB, sC]
              refine takeQ (i := 4) (gt rfl) (by kernel_rfl) (fun _ _ _ h => h) (by rfl) (by intro wq _; go_simp <;> with_reducible rfl) (by assumption) ?_
              try simp only [Act.put, sA, sB, sC]
              refine takeQ (i := 5) (gt rfl) (by kernel_rfl) (fun _ _ _ h => h) (by rfl) (by intro wq _; go_simp <;> with_reducible rfl) (by assumption) ?_
              try simp only [Act.put, sA, sB, sC]
              refine takeQ (i := 6) (gt rfl) (by kernel_rfl) (fun _ _ _ h => h) (by rfl) (by intro wq _; go_simp <;> with_reducible rfl) (by assumption) ?_
              try simp only [Act.put, sA, sB, sC]
              refine takeQ (i := 7) (gt rfl) (by kernel_rfl) (fun _ _ _ h => h) (by rfl) (by intro wq _; go_simp <;> with_reducible rfl) (by assumption) ?_
              try simp only [Act.put, sA, sB, sC]
              refine takeN (i := 8) (gt rfl) (by kernel_rfl) (by kernel_rfl) (by kernel_rfl) (by exact fun _ _ _ h => h) (by rfl) (by assumption) ?_
              try simp only [Act.put, sA, sB, sC]
              refine takeN (i := 9) (gt rfl) (by kernel_rfl) (by kernel_rfl) (by kernel_rfl) (by exact fun _ _ _ h => h) (by rfl) (by assumption) ?_
              try simp only [Act.put, sA, sB, sC]
              refine takeN (i := 10) (gt rfl) (by kernel_rfl) (by kernel_rfl) (by kernel_rfl) (by exact fun _ _ _ h => h) (by rfl) (by assumption) ?_
              try simp only [Act.put, sA, sB, sC]
              refine takeN (i := 11) (gt rfl) (by kernel_rfl) (by kernel_rfl) (by kernel_rfl) (by exact fun _ _ _ h => h) (by rfl) (by assumption) ?_
              try simp only [Act.put, sA, sB, sC]
              refine takeN (i := 12) (gt rfl) (by kernel_rfl) (by kernel_rfl) (by kernel_rfl) (by exact fun _ _ _ h => h) (by rfl) (by assumption) ?_
              try simp only [Act.put, sA, sB, sC]
              refine takeN (i := 13) (gt rfl) (by kernel_rfl) (by kernel_rfl) (by kernel_rfl) (by exact fun _ _ _ h => h) (by rfl) (by assumption) ?_
              try simp only [Act.put, sA, sB, sC]
              refine takeN (i := 14) (gt rfl) (by kernel_rfl) (by kernel_rfl) (by kernel_rfl) (by exact fun _ _ _ h => h) (by rfl) (by assumption) ?_
              try simp only [Act.put, sA, sB, sC]
              refine takeN (i := 15) (gt rfl) (by kernel_rfl) (by kernel_rfl) (by kernel_rfl) (by exact fun _ _ _ h => h) (by rfl) (by assumption) ?_
              try simp only [Act.put, sA, sB, sC]
              refine takeN (i := 16) (gt rfl) (by kernel_rfl) (by kernel_rfl) (by kernel_rfl) (by exact fun _ _ _ h => h) (by rfl) (by assumption) ?_
              try simp only [Act.put, sA, sB, sC]
              refine takeN (i := 17) (gt rfl) (by kernel_rfl) (by kernel_rfl) (by kernel_rfl) (by exact fun _ _ _ h => h) (by rfl) (by assumption) ?_
              try simp only [Act.put, sA, sB, sC]
              refine takeQ (i := 18) (gt rfl) (by kernel_rfl) (fun _ _ _ h => h) (by rfl) (by intro wq _; go_simp <;> with_reducible rfl) (by assumption) ?_
              try simp only [Act.put, sA, sB, sC]
              refine takeQ (i := 19) (gt rfl) (by kernel_rfl) (fun _ _ _ h => h) (by rfl) (by intro wq _; go_simp <;> with_reducible rfl) (by assumption) ?_
              try simp only [Act.put, sA, sB, sC]
              refine wpAnyH_done (by kernel_rfl) ?_ _
              have MBl3 := MB.lt
              replace BB := BB.trans (N.mono (Nat.le_of_lt MBl3))
              replace MB := MB.below N
              clear N
              go_wp2
              go_roundw
              case rel => exact ⟨i + 1 + 1, by omega, by go_num, MB, BB⟩
              case measure => simp [intOf] <;> omega
        · obtain rfl : i = m := by omega
          go_wp2
          go_ret
          exact ⟨by simp, B.trans (BB.mono (by have := B.size; omega))⟩
    · clear hB HM
      go_wp2_with fail
      refine (implCurveSort_big aB 501 cB _ (by omega) (by omega)).mono ?_
      rintro e w2 ⟨rfl, rfl⟩
      go_wp2
      go_ret
      exact ⟨rfl, B⟩
  · have hd : decide (1048576 < (n : Int)) = true := decide_eq_true (by omega)
    go_enter Try.func3, Try.ntmps3
    go_wp2_with fail
    refine (bigB_any a n cap _).mono ?_
    rintro e w0 ⟨rfl, rfl⟩
    rw [hd]
    go_wp2
    go_ret
    exact ⟨rfl, Below.refl _ _⟩
end Go.Proofs.Ytbnoddemohhpgaa
