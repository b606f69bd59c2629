/- The writes of a record, the specification's side. -/
import Derived.Test.YtonbmeepfgejmaaGreatDoorLgG
import Derived.Test.YtonbmeepfgejmaaGreatDoorQuR
import Derived.Test.YtonbmeepfgejmaaGreatDoorDkU
import Derived.Test.YtonbmeepfgejmaaGreatDoorPtG
import Derived.Deep.DeepCutAuto
namespace Go.Proofs.YtonbmeepfgejmaaGreatDoor
open Go.RowKit

/-- How many pieces a record has. -/
def lgMany (n : Nat) : Nat := if n = 0 then 1 else (n + 43) / 44
/-- A piece of a record. -/
def lgP (rs : List Int) (i : Nat) : List Int := (rs.drop (i * 44)).take 44
/-- The first writes of a record. -/
def lgWs (F N E : Int) (rs : List Int) (j : Nat) : List Wr := (List.range j).map fun (i : Nat) => (F + N + (i : Int), lgSec E (N + (i : Int)) (decide (i + 1 < lgMany rs.length)) (lgP rs i))
/-- The record may be added. -/
def LwOk (F L N E : Int) (n : Nat) : Prop := LgFine F L N E ∧ n ≤ 4000 ∧ (lgMany n : Int) ≤ L - F + 1 - N
/-- What LogWrites answers. -/
def LwRes (F L N E : Int) (rs : List Int) (qs : List Wr) : Prop := (LwOk F L N E rs.length ∧ qs = lgWs F N E rs (lgMany rs.length)) ∨ (¬LwOk F L N E rs.length ∧ qs = [])
theorem LwRes.one {F L N E : Int} {rs : List Int} {qs qs' : List Wr} (h : LwRes F L N E rs qs) (k : LwRes F L N E rs qs') : qs = qs' := by
  rcases h with ⟨a, b⟩ | ⟨a, b⟩ <;> rcases k with ⟨c, d⟩ | ⟨c, d⟩
  · rw [b, d]
  · exact absurd a c
  · exact absurd c a
  · rw [b, d]
theorem lgWs_step (F N E : Int) (rs : List Int) (j : Nat) : lgWs F N E rs (j + 1) = lgWs F N E rs j ++ [(F + N + (j : Int), lgSec E (N + (j : Int)) (decide (j + 1 < lgMany rs.length)) (lgP rs j))] := by simp [lgWs, List.range_succ]
theorem lgWs_len (F N E : Int) (rs : List Int) (j : Nat) : (lgWs F N E rs j).length = j := by simp [lgWs]
theorem lgP_len (rs : List Int) (i : Nat) : (lgP rs i).length ≤ 44 := by simp [lgP]; omega
theorem lgP_u8 {rs : List Int} (h : ∀ x ∈ rs, 0 ≤ x ∧ x < 256) (i : Nat) : ∀ x ∈ lgP rs i, 0 ≤ x ∧ x < 256 := fun x hx => h x (List.mem_of_mem_drop (List.mem_of_mem_take hx))
theorem lgMany_pos (n : Nat) : 1 ≤ lgMany n := by unfold lgMany; split <;> omega
theorem lgMany_lt {n i : Nat} (h : i < lgMany n) : i * 44 ≤ n := by unfold lgMany at h; split at h <;> omega
theorem lgMany_last {n i : Nat} (h : i < lgMany n) : (i + 1 < lgMany n) ↔ 44 < n - i * 44 := by
  unfold lgMany at h ⊢
  by_cases hz : n = 0
  · rw [if_pos hz] at h ⊢; omega
  · rw [if_neg hz] at h ⊢; omega
theorem lgRoom_fine {F L N E : Int} (h : LgFine F L N E) : lgRoom F L N = L - F + 1 - N := by
  obtain ⟨h1, h2, h3, h4, h5, _, _⟩ := h
  have e : wrap64 (wrap64 (wrap64 (L - F) + 1) - N) = L - F + 1 - N := by unfold wrap64; omega
  unfold lgRoom
  rw [e, if_neg (by omega)]
theorem lgP_part {rs : List Int} {j t : Nat} (ht : t = min ((j + 1) * 44) rs.length) : (rs.drop (j * 44)).take (t - j * 44) = lgP rs j := by
  unfold lgP
  rcases Nat.le_total ((j + 1) * 44) rs.length with q | q
  · rw [ht, Nat.min_eq_left q, show (j + 1) * 44 - j * 44 = 44 by omega]
  · rw [ht, Nat.min_eq_right q, List.take_of_length_le (by rw [List.length_drop]; exact Nat.le_refl _), List.take_of_length_le (by rw [List.length_drop]; omega)]
theorem Box4.grownW {lo q : Nat} {w w' : World} {x0 x1 x2 x3 : Value} {row : Option Nat} (h : Box4 lo w q x0 x1 x2 x3) (g : w.grownBy w' row) (ne : row ≠ some q) : Box4 lo w' q x0 x1 x2 x3 := by
  obtain ⟨hc, hf⟩ := grown_at g h.lt (fun e => ne e.symm)
  exact ⟨(hc 0).trans h.c0, (hc 1).trans h.c1, (hc 2).trans h.c2, (hc 3).trans h.c3, fun o => (hf o).trans (h.fr o), h.lo⟩
/-- The part of bytes that are seen, in any block. -/
theorem SeesB.part' {w : World} {a : Option Addr} {c : Nat} {bs : List Int} (h : SeesB w a c bs) {i n : Nat} (hi : i + n ≤ bs.length) (hn : bs ≠ []) : ∃ b off, a = some ⟨b, off, none⟩ ∧ SeesB w (some ⟨b, off + i, none⟩) (c - i) ((bs.drop i).take n) := by
  obtain ⟨b, off, rfl, _⟩ := h.cells hn
  exact ⟨b, off, rfl, h.part hi⟩

set_option maxRecDepth 20000 in
set_option maxHeartbeats 4000000 in
theorem specLogWrites (F L X E : Int) (b off c : Nat) (rs : List Int) (w : World) (h : SeesB w (some ⟨b, off, none⟩) c rs) (hl : rs.length ≤ 1048576) (h8 : ∀ x ∈ rs, 0 ≤ x ∧ x < 256) :
    Calls Tryz.prog 19 #[.agg #[.int .i64 F, .int .i64 L, .int .i64 X, .int .i64 E], .slice (some ⟨b, off, none⟩) rs.length c] w fun e w' => ∃ v vs qs, e = .returned v ∧ LwRes F L X E rs qs ∧ QuR w.heap.size w' v vs qs ∧ Below w.heap.size w w' := by
  obtain ⟨iW, hiW, hW0, hW1, hW2⟩ := info_parts infoW
  have hm := h.max
  have hf := h.fits
  unfold maxLen at hm
  have HS : Hid (SeesB w (some ⟨b, off, none⟩) c rs) := h
  have H8 : Hid (∀ x ∈ rs, 0 ≤ x ∧ x < 256) := h8
  have HL : Hid (rs.length ≤ 1048576) := hl
  obtain ⟨m, hm0⟩ : ∃ m : Nat, Hid (lgMany rs.length = m) := ⟨_, rfl⟩
  have hm1 : 1 ≤ m := by rw [← hm0.out]; exact lgMany_pos _
  have hmb : m ≤ 30000 := by rw [← hm0.out]; unfold lgMany; split <;> omega
  have HQ : Hid ((rs.length = 0 ∧ m = 1) ∨ (rs.length ≠ 0 ∧ ((rs.length : Int) + 44 - 1) / 44 = (m : Int))) := by
    by_cases hz : rs.length = 0
    · exact .inl ⟨hz, by rw [← hm0.out]; unfold lgMany; rw [if_pos hz]⟩
    · exact .inr ⟨hz, by rw [← hm0.out]; unfold lgMany; rw [if_neg hz]; omega⟩
  have B := below2 w (.cells #[.int .i64 F, .int .i64 L, .int .i64 X, .int .i64 E] 32) (.cells #[] 55)
  have V := (Box4.new w (lo := w.heap.size) (Nat.le_refl _) (.int .i64 F) (.int .i64 L) (.int .i64 X) (.int .i64 E) 32).below (below1 _ (.cells #[] 55))
  have Q0 := QuR.empty (w.alloc (.cells #[.int .i64 F, .int .i64 L, .int .i64 X, .int .i64 E] 32)) (lo := w.heap.size + 1) (by simp)
  rw [World.size_alloc] at Q0
  have NO : Hid (¬LwOk F L X E rs.length → LwRes F L X E rs []) := fun q => .inr ⟨q, rfl⟩
  clear h h8
  go_enter Tryz.func19, Tryz.ntmps19
  go_upto_region 2 with fail
  generalize (w.alloc (.cells #[.int .i64 F, .int .i64 L, .int .i64 X, .int .i64 E] 32)).alloc (.cells #[] 55) = W0 at *
  go_upto_if 17 with fail
  go_cut [6] (fun s6 W => s6 = .int .i64 (m : Int) ∧ W = W0)
  case first =>
    rcases HQ.out with ⟨z1, z2⟩ | ⟨z1, z2⟩
    · skip
      go_wp2
      go_meet
      case rel => exact ⟨by rw [z2]; rfl, rfl⟩
    · have z3 : ¬((m : Int) = 0) := by omega
      have z4 : ((m : Int) == 0) = false := by simp; omega
      rw [z2]
      go_wp2
      go_meet
      case rel => exact ⟨rfl, rfl⟩
  case rest =>
    obtain ⟨rfl, rfl⟩ := hcut
    clear HQ
    obtain ⟨v0, v1, v2, v3, vf, _⟩ := id V
    go_wp2_with fail
    refine (l12Fine_any F L X E _).mono ?_
    rintro e w1 ⟨r, rfl, hr, hb⟩
    have HR : Hid (r = true ↔ LgFine F L X E) := hr
    replace V := V.below hb
    replace Q0 := Q0.below hb
    replace B := B.trans (hb.mono B.size)
    clear hb hr v0 v1 v2 v3 vf
    cases r with
    | false =>
      have NR : Hid (LwRes F L X E rs []) := NO.out (fun q => by have := HR.out.2 q.1; cases this)
      clear NO HR
      go_wp2
      go_ret
      first | exact ⟨_, [], [], rfl, NR.out, Q0.base (by omega), B⟩ | exact ⟨_, rfl, [], [], NR.out, Q0.base (by omega), B⟩
    | true =>
      have HF : Hid (LgFine F L X E) := HR.out.1 rfl
      by_cases h4 : 4000 < rs.length
      · have NR : Hid (LwRes F L X E rs []) := NO.out (fun q => by have := q.2.1; omega)
        clear NO HR
        go_wp2
        go_ret
        first | exact ⟨_, [], [], rfl, NR.out, Q0.base (by omega), B⟩ | exact ⟨_, rfl, [], [], NR.out, Q0.base (by omega), B⟩
      · obtain ⟨v0, v1, v2, v3, vf, _⟩ := id V
        clear HR
        go_wp2_with fail
        refine (specLogRoom F L X E _).mono ?_
        rintro e w2 ⟨rfl, hb⟩
        rw [lgRoom_fine HF.out]
        obtain ⟨f1, f2, f3, f4, f5, f6, f7⟩ := HF.out
        replace V := V.below hb
        replace Q0 := Q0.below hb
        replace B := B.trans (hb.mono B.size)
        clear hb v0 v1 v2 v3 vf
        by_cases h5 : L - F + 1 - X < (m : Int)
        · have NR : Hid (LwRes F L X E rs []) := NO.out (fun q => by have := q.2.2; rw [hm0.out] at this; omega)
          clear NO
          go_wp2
          go_ret
          first | exact ⟨_, [], [], rfl, NR.out, Q0.base (by omega), B⟩ | exact ⟨_, rfl, [], [], NR.out, Q0.base (by omega), B⟩
        · have YR : Hid (LwRes F L X E rs (lgWs F X E rs m)) := .inl ⟨⟨HF.out, by omega, by rw [hm0.out]; omega⟩, by rw [hm0.out]⟩
          clear NO
          go_wp2
          go_loopw [5, 7] (fun s5 s7 wr => ∃ (j : Nat) (vs : List Value), j ≤ m ∧ s7 = .int .i64 j ∧ QuR (w.heap.size + 1) wr s5 vs (lgWs F X E rs j) ∧ Box4 w.heap.size wr w.heap.size (.int .i64 F) (.int .i64 L) (.int .i64 X) (.int .i64 E) ∧ Below w.heap.size w wr) (fun _ s7 _ => m - (intOf s7).toNat)
          case atStart => exact ⟨0, [], Nat.zero_le _, rfl, Q0, V, B⟩
          case round =>
            clear V Q0 B
            obtain ⟨j, vs, hj, rfl, R, V, B⟩ := hrel
            rename World => wr
            by_cases hlt : j < m
            · obtain ⟨t, ht⟩ : ∃ t : Nat, Hid (t = min ((j + 1) * 44) rs.length) := ⟨_, rfl⟩
              have hjm := lgMany_lt (n := rs.length) (i := j) (by rw [hm0.out]; exact hlt)
              have ht1 : j * 44 ≤ t ∧ t ≤ rs.length := by have := ht.out; omega
              obtain ⟨t1, t2⟩ := ht1
              go_wp2_with fail
              refine (l4Min_any _ _ _).mono ?_
              rintro e w3 ⟨rfl, rfl⟩
              rw [show min (((j : Int) + 1) * 44) (rs.length : Int) = (t : Int) from by have := ht.out; omega]
              obtain ⟨ad, had⟩ : ∃ ad : Option Addr, Hid ((if c = ((j : Int) * 44).toNat then some (⟨b, off, none⟩ : Addr) else some ⟨b, off + ((j : Int) * 44).toNat, none⟩) = ad) := ⟨_, rfl⟩
              have e44 : ((j : Int) * 44).toNat = j * 44 := by omega
              have SP : Hid (SeesB w3 ad (c - ((j : Int) * 44).toNat) (lgP rs j)) := by
                have := (HS.out.below B).part (i := j * 44) (n := t - j * 44) (by omega)
                rw [lgP_part ht.out] at this
                rw [← had.out, e44]
                by_cases hc : c = j * 44
                · have e0 : lgP rs j = [] := by rw [← lgP_part ht.out, show t - j * 44 = 0 by omega]; simp
                  rw [e0]
                  exact ⟨by simp, by unfold maxLen; omega, fun q => absurd rfl q⟩
                · rw [if_neg hc]
                  exact this
              have CN : Hid (t - ((j : Int) * 44).toNat = (lgP rs j).length) := by show _ = _; rw [e44, ← lgP_part ht.out, List.length_take, List.length_drop]; omega
              clear e44
              have P44 : Hid ((lgP rs j).length ≤ 44) := lgP_len rs j
              have P8 : Hid (∀ x ∈ lgP rs j, 0 ≤ x ∧ x < 256) := lgP_u8 H8.out j
              have WS : Hid (lgWs F X E rs (j + 1) = lgWs F X E rs j ++ [(F + X + (j : Int), lgSec E (X + (j : Int)) (decide ((j : Int) + 1 < (m : Int))) (lgP rs j))]) := by
                show _ = _
                rw [lgWs_step, hm0.out]
                congr 4
                simp only [decide_eq_decide]
                omega
              have SL : Hid ((lgSec E (X + (j : Int)) (decide ((j : Int) + 1 < (m : Int))) (lgP rs j)).length = 64) := lgSec_len P44.out
              generalize hq0 : lgWs F X E rs j = qs0 at *
              generalize lgP rs j = ps at *
              obtain ⟨v0, v1, v2, v3, vf, _⟩ := id V
              obtain ⟨mo, hmo⟩ : ∃ mo : Bool, Hid (decide ((j : Int) + 1 < (m : Int)) = mo) := ⟨_, rfl⟩
              have hw1 : IntKind.i64.wrap (X + (j : Int)) = X + j := by rw [IntKind.wrap_i64]; omega
              have hw2 : IntKind.i64.wrap ((j : Int) + 1) = (j : Int) + 1 := by rw [IntKind.wrap_i64]; omega
              have hw3 : IntKind.i64.wrap ((j : Int) * 44) = (j : Int) * 44 := by rw [IntKind.wrap_i64]; omega
              have hn1 : ¬((j : Int) * 44 < 0) := by omega
              have hn2 : ¬((t : Int) < (j : Int) * 44) := by omega
              have hn3 : ¬((c : Int) < (t : Int)) := by omega
              rw [hmo.out] at WS SL
              go_upto_region 11 with fail
              refine wp_region_held_drew (S := Below w3.heap.size w3) (by kernel_rfl) ((Below.refl _ _).drew) (fun hHeld => ?_)
              have N : Below w3.heap.size w3 w3.drew := hHeld
              revert hHeld N
              generalize w3.drew = ww0
              intro hHeld N
              refine takeQ (i := 0) (gt rfl) (by kernel_rfl) (fun _ _ _ h => h) (by rfl) (by intro wq _; go_simp <;> with_reducible rfl) (by assumption) ?_
              try simp only [Act.put, sA, sB, sC]
              refine takeQ (i := 1) (gt rfl) (by kernel_rfl) (fun _ _ _ h => h) (by rfl) (by intro wq hSw; have q0 := bat hSw v2; have q1 := bat hSw v3; go_simp <;> with_reducible rfl) (by assumption) ?_
              try simp only [Act.put, sA, sB, sC]
              refine takeQ (i := 2) (gt rfl) (by kernel_rfl) (fun _ _ _ h => h) (by rfl) (by intro wq _; go_simp <;> with_reducible rfl) (by assumption) ?_
              try simp only [Act.put, sA, sB, sC]
              refine takeQ (i := 3) (gt rfl) (by kernel_rfl) (fun _ _ _ h => h) (by rfl) (by intro wq hSw; have q0 := bat hSw v2; have q1 := bat hSw v3; go_simp <;> with_reducible rfl) (by assumption) ?_
              try simp only [Act.put, sA, sB, sC]
              refine takeQ (i := 4) (gt rfl) (by kernel_rfl) (fun _ _ _ h => h) (by rfl) (by intro wq _; go_simp <;> with_reducible rfl) (by assumption) ?_
              try simp only [Act.put, sA, sB, sC]
              refine takeQ (i := 5) (gt rfl) (by kernel_rfl) (fun _ _ _ h => h) (by rfl) (by intro wq _; go_simp <;> with_reducible rfl) (by assumption) ?_
              try simp only [Act.put, sA, sB, sC]
              refine takeQ (i := 6) (gt rfl) (by kernel_rfl) (fun _ _ _ h => h) (by rfl) (by intro wq _; go_simp <;> with_reducible rfl) (by assumption) ?_
              try simp only [Act.put, sA, sB, sC]
              refine takeQ (i := 7) (gt rfl) (by kernel_rfl) (fun _ _ _ h => h) (by rfl) (by intro wq _; go_simp <;> with_reducible rfl) (by assumption) ?_
              try simp only [Act.put, sA, sB, sC]
              refine takeQ (i := 8) (gt rfl) (by kernel_rfl) (fun _ _ _ h => h) (by rfl) (by intro wq _; go_simp <;> with_reducible rfl) (by assumption) ?_
              try simp only [Act.put, sA, sB, sC]
              refine takeQ (i := 9) (gt rfl) (by kernel_rfl) (fun _ _ _ h => h) (by rfl) (by intro wq _; go_simp <;> with_reducible rfl) (by assumption) ?_
              try simp only [Act.put, sA, sB, sC]
              refine takeQ (i := 10) (gt rfl) (by kernel_rfl) (fun _ _ _ h => h) (by rfl) (by intro wq _; go_simp <;> with_reducible rfl) (by assumption) ?_
              try simp only [Act.put, sA, sB, sC]
              refine takeQ (i := 11) (gt rfl) (by kernel_rfl) (fun _ _ _ h => h) (by rfl) (by intro wq _; go_simp <;> with_reducible rfl) (by assumption) ?_
              try simp only [Act.put, sA, sB, sC]
              refine takeQ (i := 12) (gt rfl) (by kernel_rfl) (fun _ _ _ h => h) (by rfl) (by intro wq _; go_simp <;> with_reducible rfl) (by assumption) ?_
              try simp only [Act.put, sA, sB, sC]
              refine takeQ (i := 13) (gt rfl) (by kernel_rfl) (fun _ _ _ h => h) (by rfl) (by intro wq _; go_simp <;> with_reducible rfl) (by assumption) ?_
              try simp only [Act.put, sA, sB, sC]
              refine takeQ (i := 14) (gt rfl) (by kernel_rfl) (fun _ _ _ h => h) (by rfl) (by intro wq _; go_simp <;> with_reducible rfl) (by assumption) ?_
              try simp only [Act.put, sA, sB, sC]
              refine wpAnyH_ready (rs := [15]) (by kernel_rfl) (by simp) (AllReadyH.cons (gt rfl) (fun K hK => ?_) AllReadyH.nil)
              go_simp
              have N0 := N.size
              rw [hmo.out, had.out, CN.out]
              refine (l12Sector_any E (X + (j : Int)) mo _ _ ps _ (SP.out.below N) P44.out P8.out).mono ?_
              rintro e1 ww1 ⟨v9, rfl, R9, hb⟩
              replace N := N.trans (hb.mono N.size)
              clear hb
              refine hK.out _ _ N (fun hHeld => ?_)
              clear hK K
              try simp only [Act.put, sA, sB, sC]
              refine takeQ (i := 16) (gt rfl) (by kernel_rfl) (fun _ _ _ h => h) (by rfl) (by intro wq _; go_simp <;> with_reducible rfl) (by assumption) ?_
              try simp only [Act.put, sA, sB, sC]
              refine wpAnyH_done (by kernel_rfl) ?_ _
              obtain ⟨q9, c9, rfl, q90, q91⟩ := R9.shape (ne_of_len SL.out (by omega))
              have VL := V.lt
              replace V := V.below N
              have L9 := R.lts
              replace R := R.below N
              have q92 : w3.heap.size ≤ q9 := Nat.le_trans N0 q90
              replace B := B.trans (N.mono B.size)
              generalize lgSec E (X + (j : Int)) mo ps = ds at *
              obtain ⟨v0, v1, v2, v3, vf, _⟩ := id V
              have bn := below1 ww1 (.cells #[.int .i64 (F + X + (j : Int)), .slice (some ⟨q9, 0, none⟩) ds.length c9] 55)
              have NW := two_newW ww1 55 (.int .i64 (F + X + (j : Int))) (.slice (some ⟨q9, 0, none⟩) ds.length c9)
              have R2 := R.below bn
              have hvl : Hid (vs.length = j) := by show _ = _; have := R.len.out; rw [← hq0, lgWs_len] at this; exact this
              have HZ : w.heap.size + 1 ≤ (ww1.alloc (.cells #[.int .i64 (F + X + (j : Int)), .slice (some ⟨q9, 0, none⟩) ds.length c9] 55)).heap.size := by have := V.lt; simp; omega
              have vl : vs.length ≤ 30000 := by have := hvl.out; omega
              go_wp2_with (at_builtin; refine wpList_append_own_at _ rfl (.tmp 60) (.tmp 70) 29 rfl (w.heap.size + 1) 55 iW (.agg #[.int .i64 0, .slice none 0 0]) 2 32 Tryz.underlying29 hiW hW0 hW1 hW2 rfl (by decide) u5 vs.length (wrC qs0 vs) rfl R2.own ⟨ww1.heap.size, 0, none⟩ 1 _ [.int .i64 (F + X + (j : Int)), .slice (some ⟨q9, 0, none⟩) ds.length c9] rfl rfl NW (by intro y hy; simp at hy; rcases hy with rfl | rfl <;> rfl) (by unfold maxLen; omega) (by omega) HZ ?_; intro v7 w7 R7 G7 _ A7)
              have nu : ∀ k, (Value.slice (some ⟨q9, 0, none⟩) ds.length c9).ownBlock = some k → u5.ownBlock ≠ some k ∧ v7.ownBlock ≠ some k ∧ ∀ x ∈ vs, x.ownBlock ≠ some k := fun k hk => by
                obtain rfl : q9 = k := by injection hk
                refine ⟨fun e => ?_, fun e => ?_, fun x hx e => ?_⟩
                · have := (L9.1 _ e).2; omega
                · rcases A7 with q | q
                  · rw [q] at e; have := (L9.1 _ e).2; omega
                  · rw [q, World.size_alloc] at e; injection e with e; omega
                · have := (L9.2 x hx _ e).2; omega
              have QN := QuR.snoc (q := (F + X + (j : Int), ds)) R2 (row_base (R9.below bn) (by omega)) nu R7 G7 A7
              rw [← WS.out] at QN
              have V7 := (V.below bn).grownW G7 (fun e => by have := (L9.1 _ e).1; omega)
              have B7 := (B.trans (bn.mono B.size)).grown G7 (by omega) (fun k hk => by have := (L9.1 k hk).1; omega)
              clear R7 G7 A7 R2 NW bn R V B nu
              go_roundw
              case rel => exact ⟨j + 1, _, by omega, by go_num, QN, V7, B7⟩
              case measure => simp [intOf]; omega
            · obtain rfl : j = m := by omega
              go_wp2
              go_ret
              exact ⟨_, vs, _, rfl, YR.out, R.base (by omega), B⟩
end Go.Proofs.YtonbmeepfgejmaaGreatDoor
