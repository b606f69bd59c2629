/- The laws' helpers on disks: their sizes, their copies. -/
import Derived.Test.YtjpnkmhmipendaaDoorQuM
namespace Go.Proofs.YtjpnkmhmipendaaDoor
open Go.RowKit

/-- Writes that lie in memory, one behind the other. -/
structure SeesQ (w : World) (a : Option Addr) (cap : Nat) (qs : List Wr) : Prop where
  fits : qs.length ≤ cap
  max : cap ≤ maxLen
  cells : qs ≠ [] → ∃ b off, a = some ⟨b, off, none⟩ ∧ ∀ i, i < qs.length → ∃ a' c', w.cell? ⟨b, off + i * 2, none⟩ = some (.int .i64 (wrN qs i).1) ∧ w.cell? ⟨b, off + i * 2 + 1, none⟩ = some (.slice a' (wrN qs i).2.length c') ∧ SeesB w a' c' (wrN qs i).2
theorem SeesQ.below {w w' : World} {a : Option Addr} {cap : Nat} {qs : List Wr} (h : SeesQ w a cap qs) (hb : Below w.heap.size w w') : SeesQ w' a cap qs :=
  ⟨h.fits, h.max, fun hn => by
    obtain ⟨b, off, ha, hc⟩ := h.cells hn
    exact ⟨b, off, ha, fun i hi => by obtain ⟨a', c', h1, h2, h3⟩ := hc i hi; exact ⟨a', c', bat hb h1, bat hb h2, h3.below hb⟩⟩⟩
theorem infoW : (Tryd.prog.info? 51).map (fun i => (i.zero, i.size, i.bytes)) = some (some (.agg #[.int .i64 0, .slice none 0 0]), 2, 32) := by kernel_rfl

theorem szWrite_any (x : Int) (a : Option Addr) (c n : Nat) (left : Int) (w : World) (hl : 0 ≤ left ∧ left ≤ 1048576) (hn : n ≤ 9223372036854775807) :
    Calls Tryd.prog 46 #[.agg #[.int .i64 x, .slice a n c], .int .i64 left] w fun e w' => e = .returned (.int .i64 (if left - n < 0 then -1 else left - n)) ∧ Below w.heap.size w w' := by
  have B := below1 w (.cells #[.int .i64 x, .slice a n c] 70)
  obtain ⟨l0, l1⟩ := hl
  go_enter Tryd.func46, Tryd.ntmps46
  go_wp2_with fail
  refine (szBytes a c n left _ ⟨l0, l1⟩ hn).mono ?_
  rintro e w1 ⟨rfl, rfl⟩
  by_cases hc : left - n < 0
  · rw [if_pos hc]
    go_wp2
    go_ret
    exact ⟨rfl, B⟩
  · rw [if_neg hc]
    go_wp2
    go_ret
    exact ⟨rfl, B⟩

set_option maxRecDepth 20000 in
set_option maxHeartbeats 2000000 in
theorem szWrites (a : Option Addr) (c : Nat) (qs : List Wr) (left : Int) (w : World) (h : SeesQ w a c qs) (hl : 0 ≤ left ∧ left ≤ 1048576) :
    Calls Tryd.prog 28 #[.slice a qs.length c, .int .i64 left] w fun e w' => ∃ z : Int, e = .returned (.int .i64 z) ∧ (z = -1 ∨ (0 ≤ z ∧ z + (uptoQ qs qs.length : Nat) = left)) ∧ Below w.heap.size w w' := by
  have hm := h.max
  have hf := h.fits
  unfold maxLen at hm
  obtain ⟨l0, l1⟩ := hl
  have HH : Hid (SeesQ w a c qs) := h
  clear h
  by_cases hc : left - qs.length < 0
  · go_enter Tryd.func28, Tryd.ntmps28
    go_wp2
    go_ret
    exact ⟨-1, rfl, .inl rfl, Below.refl _ _⟩
  · go_enter Tryd.func28, Tryd.ntmps28
    go_wp2
    go_loopw [1, 5] (fun s1 i wr => ∃ (j : Nat) (z : Int), j ≤ qs.length ∧ i = .int .i64 j ∧ s1 = .int .i64 z ∧ 0 ≤ z ∧ z ≤ 1048576 ∧ Hid (z + (uptoQ qs j : Nat) + (qs.length - j : Nat) = left) ∧ Below w.heap.size w wr) (fun _ i _ => qs.length - (intOf i).toNat)
    case atStart => exact ⟨0, left - qs.length, Nat.zero_le _, rfl, rfl, by omega, by omega, (by show _ = _; simp only [uptoQ]; omega), Below.refl _ _⟩
    case round =>
      obtain ⟨j, z, hj, rfl, rfl, z0, z1, hz, B⟩ := hrel
      rename World => wr
      by_cases hlt : j < qs.length
      · obtain ⟨b1, o1, rfl, hcs⟩ := (HH.out.below B).cells (by intro e; simp [e] at hlt)
        obtain ⟨a', c', g1, g2, sb⟩ := hcs j hlt
        have KN : Hid (z - ((wrN qs j).2.length : Int) + (uptoQ qs (j + 1) : Nat) + (qs.length - (j + 1) : Nat) = left) := by show _ = _; simp only [uptoQ]; have := hz.out; omega
        have hn : (wrN qs j).2.length ≤ 9223372036854775807 := by have := sb.fits; have := sb.max; unfold maxLen at this; omega
        clear hcs sb hz
        generalize (wrN qs j).2.length = n at *
        generalize (wrN qs j).1 = x at *
        go_wp2_with fail
        refine (szWrite_any x a' c' n z _ ⟨z0, z1⟩ hn).mono ?_
        rintro e w3 ⟨rfl, hb⟩
        replace B := B.trans (hb.mono B.size)
        clear hb g1 g2
        by_cases hc2 : z - n < 0
        · rw [if_pos hc2]
          go_wp2
          go_ret
          exact ⟨-1, rfl, .inl rfl, B⟩
        · rw [if_neg hc2]
          go_wp2
          go_roundw
          case rel => exact ⟨j + 1, _, by omega, by go_num, rfl, by omega, by omega, KN, B⟩
          case measure => simp [intOf]; omega
      · obtain rfl : j = qs.length := by omega
        go_wp2
        go_ret
        exact ⟨z, rfl, .inr ⟨z0, by have := hz.out; omega⟩, B⟩

set_option maxHeartbeats 1000000 in
theorem szDisk_any (a a2 : Option Addr) (c c2 n : Nat) (qs : List Wr) (left : Int) (w : World) (hn : n ≤ 9223372036854775807) (h : SeesQ w a2 c2 qs) (hl : 0 ≤ left ∧ left ≤ 1048576) :
    Calls Tryd.prog 8 #[.agg #[.slice a n c, .slice a2 qs.length c2], .int .i64 left] w fun e w' => ∃ z : Int, e = .returned (.int .i64 z) ∧ (z = -1 ∨ (0 ≤ z ∧ z + n + (uptoQ qs qs.length : Nat) = left)) ∧ Below w.heap.size w w' := by
  have B := below1 w (.cells #[.slice a n c, .slice a2 qs.length c2] 25)
  obtain ⟨l0, l1⟩ := hl
  have S : Hid (SeesQ (w.alloc (.cells #[.slice a n c, .slice a2 qs.length c2] 25)) a2 c2 qs) := h.below B
  clear h
  go_enter Tryd.func8, Tryd.ntmps8
  go_wp2_with fail
  refine (szBytes a c n left _ ⟨l0, l1⟩ hn).mono ?_
  rintro e w1 ⟨rfl, rfl⟩
  by_cases hc : left - n < 0
  · rw [if_pos hc]
    go_wp2
    go_ret
    exact ⟨-1, rfl, .inl rfl, B⟩
  · rw [if_neg hc]
    go_wp2_with fail
    refine (szWrites a2 c2 qs (left - n) _ S.out ⟨by omega, by omega⟩).mono ?_
    rintro e w2 ⟨z, rfl, hz, hb⟩
    replace B := B.trans (hb.mono B.size)
    have HZ : Hid (z = -1 ∨ (0 ≤ z ∧ z + (uptoQ qs qs.length : Nat) = left - n)) := hz
    by_cases h0 : z < 0
    · clear hz
      go_wp2
      go_ret
      exact ⟨-1, rfl, .inl rfl, B⟩
    · have h0' : 0 ≤ z := by omega
      clear hz
      go_wp2
      go_ret
      exact ⟨z, rfl, HZ.out.elim .inl (fun q => .inr ⟨q.1, by have := q.2; omega⟩), B⟩

set_option maxHeartbeats 1000000 in
theorem toWrite_any (x : Int) (a : Option Addr) (cap : Nat) (ds : List Int) (w : World) (h : SeesB w a cap ds) (hs : ds.length ≤ 1048576) :
    Calls Tryd.prog 47 #[.agg #[.int .i64 x, .slice a ds.length cap]] w fun e w' => e = .returned (.agg #[.int .i64 x, .slice (some ⟨w.heap.size + 3, 0, none⟩) ds.length ds.length]) ∧ RowB (w.heap.size + 3) w' (.slice (some ⟨w.heap.size + 3, 0, none⟩) ds.length ds.length) ds ∧ Below w.heap.size w w' := by
  have B := below3 w (.cells #[.int .i64 x, .slice a ds.length cap] 70) (.cells #[.int .i64 0, .slice none 0 0] 51) (.cells #[.int .i64 x, .slice none 0 0] 51)
  go_enter Tryd.func47, Tryd.ntmps47
  go_wp2_with fail
  have R1 : Box2 0 (((w.alloc (.cells #[.int .i64 x, .slice a ds.length cap] 70)).alloc (.cells #[.int .i64 0, .slice none 0 0] 51)).alloc (.cells #[.int .i64 x, .slice none 0 0] 51)) (w.heap.size + 1) (.int .i64 0) (.slice none 0 0) := by
    have := (Box2.new (w.alloc (.cells #[.int .i64 x, .slice a ds.length cap] 70)) (lo := 0) (by omega) (.int .i64 0) (.slice none 0 0) 51).below (below1 _ (.cells #[.int .i64 x, .slice none 0 0] 51))
    simpa using this
  have R2 : Box2 0 (((w.alloc (.cells #[.int .i64 x, .slice a ds.length cap] 70)).alloc (.cells #[.int .i64 0, .slice none 0 0] 51)).alloc (.cells #[.int .i64 x, .slice none 0 0] 51)) (w.heap.size + 2) (.int .i64 x) (.slice none 0 0) := by
    have := Box2.new ((w.alloc (.cells #[.int .i64 x, .slice a ds.length cap] 70)).alloc (.cells #[.int .i64 0, .slice none 0 0] 51)) (lo := 0) (by omega) (.int .i64 x) (.slice none 0 0) 51
    simpa using this
  refine (toBytes a cap ds _ (h.below B) hs).mono ?_
  rintro e w3 ⟨rfl, O3, hb⟩
  replace B := B.trans (hb.mono B.size)
  replace R1 := R1.below hb
  replace R2 := R2.below hb
  clear hb h
  rw [show (((w.alloc (.cells #[.int .i64 x, .slice a ds.length cap] 70)).alloc (.cells #[.int .i64 0, .slice none 0 0] 51)).alloc (.cells #[.int .i64 x, .slice none 0 0] 51)).heap.size = w.heap.size + 3 by simp] at O3 ⊢
  obtain ⟨r0, r1, rf, _⟩ := id R1
  obtain ⟨r2, r3, rg, _⟩ := id R2
  have put : ∀ {W : World} (g o : Nat) (u : Value), g < w.heap.size + 3 → RowB (w.heap.size + 3) W (.slice (some ⟨w.heap.size + 3, 0, none⟩) ds.length ds.length) ds → RowB (w.heap.size + 3) (W.setCell ⟨g, o, none⟩ u) (.slice (some ⟨w.heap.size + 3, 0, none⟩) ds.length ds.length) ds := fun {W} g o u hg q => owns_kept' q (grownBy_setCell (grownBy_refl W (some g)) rfl u) (fun k hk e => by injection e with e; injection hk with hk; dsimp only at hk; omega)
  have O4 : Hid (RowB (w.heap.size + 3) _ (.slice (some ⟨w.heap.size + 3, 0, none⟩) ds.length ds.length) ds) := put (w.heap.size + 1) 1 (.slice (some ⟨w.heap.size + 3, 0, none⟩) ds.length ds.length) (by omega) (put (w.heap.size + 1) 0 (.int .i64 x) (by omega) (put (w.heap.size + 2) 1 (.slice (some ⟨w.heap.size + 3, 0, none⟩) ds.length ds.length) (by omega) O3))
  have B4 := ((B.setCell (p := ⟨w.heap.size + 2, 1, none⟩) (by dsimp only; omega) (.slice (some ⟨w.heap.size + 3, 0, none⟩) ds.length ds.length)).setCell (p := ⟨w.heap.size + 1, 0, none⟩) (by dsimp only; omega) (.int .i64 x)).setCell (p := ⟨w.heap.size + 1, 1, none⟩) (by dsimp only; omega) (.slice (some ⟨w.heap.size + 3, 0, none⟩) ds.length ds.length)
  clear O3 B R1 R2 put
  go_wp2
  exact bodyPost_ret (v := .agg #[.int .i64 x, .slice (some ⟨w.heap.size + 3, 0, none⟩) ds.length ds.length]) (by simp [results, Tryd.results47, go_sem, r0, r1]) rfl ⟨rfl, O4.out, B4⟩

theorem wrC_store : ∀ (qs : List Wr) (vs : List Value) (i : Nat) (x : Int) (u : Value) (d : List Int), ((wrC qs vs).set (i * 2) (.int .i64 x)).set (i * 2 + 1) u = wrC (qs.set i (x, d)) (vs.set i u)
  | [], vs, i, x, u, d => by simp [wrC]
  | q :: qs, [], 0, x, u, d => by simp [wrC]
  | q :: qs, [], i + 1, x, u, d => by simp [wrC]
  | q :: qs, v :: vs, 0, x, u, d => by simp [wrC]
  | q :: qs, v :: vs, i + 1, x, u, d => by
    have := wrC_store qs vs i x u d
    simp only [List.set_cons_succ, wrC]
    rw [show (i + 1) * 2 = i * 2 + 1 + 1 by omega, List.set_cons_succ, List.set_cons_succ, List.set_cons_succ, List.set_cons_succ, this]
/-- The write i is written whole. -/
theorem QuR.store {lo g n c : Nat} {w : World} {vs : List Value} {qs : List Wr} (h : QuR lo w (.slice (some ⟨g, 0, none⟩) n c) vs qs) {i : Nat} (hi : i < qs.length) (x : Int) (u : Value) (d : List Int) (Ru : RowB lo w u d) (nu : ∀ k, u.ownBlock = some k → k ≠ g ∧ ∀ y ∈ vs, y.ownBlock ≠ some k) :
    QuR lo ((w.setCell ⟨g, i * 2, none⟩ (.int .i64 x)).setCell ⟨g, i * 2 + 1, none⟩ u) (.slice (some ⟨g, 0, none⟩) n c) (vs.set i u) (qs.set i (x, d)) ∧ w.grownBy ((w.setCell ⟨g, i * 2, none⟩ (.int .i64 x)).setCell ⟨g, i * 2 + 1, none⟩ u) (some g) := by
  have hl := h.len.out
  obtain ⟨en, _, _⟩ := h.caps
  have own := h.own
  rw [hl, ← en] at own
  obtain ⟨h1, g1⟩ := own.stored (i * 2) (.int .i64 x)
  obtain ⟨h2, g2⟩ := h1.stored (i * 2 + 1) u
  rw [wrC_store _ _ _ _ _ d] at h2
  have G := grownBy_trans g1 g2
  have mem : ∀ {y : Value} {j : Nat}, (vs.set i u)[j]? = some y → (j = i ∧ y = u) ∨ (j ≠ i ∧ vs[j]? = some y) := fun {y j} q => by
    by_cases e : i = j
    · subst e
      rw [List.getElem?_set_self (by omega)] at q
      injection q with q
      exact .inl ⟨rfl, q.symm⟩
    · rw [List.getElem?_set_ne e] at q
      exact .inr ⟨fun e' => e e'.symm, q⟩
  refine ⟨⟨by rw [List.length_set, hl, ← en]; exact h2, (by show _ = _; rw [List.length_set, List.length_set]; exact hl), fun j y hy => ?_, fun y hy k hk => ?_, fun j j' y y' hjj hj hj' k hk => ?_⟩, G⟩
  · rcases mem hy with ⟨rfl, rfl⟩ | ⟨e, q⟩
    · rw [wrN_set_same hi]
      exact owns_kept' Ru G (fun k hk e => (nu k hk).1 (by injection e with e; exact e.symm))
    · rw [wrN_set_other (Ne.symm e)]
      exact owns_kept' (h.rows j y q) G (fun k hk e => h.ne y (List.mem_of_getElem? q) k hk e)
  · obtain ⟨j, hj, e⟩ := List.getElem_of_mem hy
    rcases mem (j := j) (y := y) (by rw [List.getElem?_eq_getElem hj, e]) with ⟨_, rfl⟩ | ⟨_, q⟩
    · exact fun e => (nu k hk).1 (by injection e with e; exact e.symm)
    · exact h.ne y (List.mem_of_getElem? q) k hk
  · rcases mem hj with ⟨_, rfl⟩ | ⟨e1, q1⟩
    · rcases mem hj' with ⟨e2, _⟩ | ⟨_, q2⟩
      · omega
      · exact (nu k hk).2 y' (List.mem_of_getElem? q2)
    · rcases mem hj' with ⟨_, rfl⟩ | ⟨_, q2⟩
      · intro e
        exact (nu k e).2 y (List.mem_of_getElem? q1) hk
      · exact h.apart j j' y y' hjj q1 q2 k hk
theorem wrC_zero : ∀ n, wrC (List.replicate n (0, [])) (List.replicate n (.slice none 0 0)) = (madeCells #[.int .i64 0, .slice none 0 0] (n * 2)).toList := by
  intro n
  apply List.ext_getElem
  · rw [wrC_len _ _ (by simp)]; simp [madeCells]
  · intro i h1 h2
    have hn : i < n * 2 := by rw [wrC_len _ _ (by simp)] at h1; simpa using h1
    obtain ⟨p0, p1⟩ := wrC_at (List.replicate n ((0, []) : Wr)) (List.replicate n (.slice none 0 0)) (i / 2) (by simp) (by simp; omega)
    have hm : i = i / 2 * 2 ∨ i = i / 2 * 2 + 1 := by omega
    apply Option.some.inj
    rw [← List.getElem?_eq_getElem h1, ← List.getElem?_eq_getElem h2]
    have hi2 : i / 2 < n := by omega
    rcases hm with m | m
    · have z : i % 2 = 0 := by omega
      rw [show (wrC (List.replicate n ((0, []) : Wr)) (List.replicate n (.slice none 0 0)))[i]? = _ from (congrArg _ m).trans p0]
      simp [madeCells, wrN, z, hi2, hn]
    · have z : i % 2 = 1 := by omega
      rw [show (wrC (List.replicate n ((0, []) : Wr)) (List.replicate n (.slice none 0 0)))[i]? = _ from (congrArg _ m).trans p1]
      simp [madeCells, z, hi2, hn]

theorem QuR.start {w : World} {lo g n : Nat} (h : w.ownsRow lo 51 2 (.slice (some ⟨g, 0, none⟩) n n) n (madeCells #[.int .i64 0, .slice none 0 0] (n * 2)).toList) : QuR lo w (.slice (some ⟨g, 0, none⟩) n n) (List.replicate n (.slice none 0 0)) (List.replicate n (0, [])) := by
  have all : ∀ {i : Nat} {u : Value}, (List.replicate n (Value.slice none 0 0))[i]? = some u → u = .slice none 0 0 := fun {i u} q => by
    have := List.mem_of_getElem? q
    exact List.eq_of_mem_replicate this
  refine ⟨by rw [List.length_replicate, wrC_zero]; exact h, (by show _ = _; simp), fun i u hu => ?_, fun u hu k hk => ?_, fun i j u u' _ hi _ k hk => ?_⟩
  · rw [all hu]
    have : (wrN (List.replicate n ((0, []) : Wr)) i).2 = [] := by
      unfold wrN
      rcases Nat.lt_or_ge i n with q | q
      · rw [List.getElem?_replicate_of_lt q]; rfl
      · rw [List.getElem?_eq_none (by simpa using q)]; rfl
    rw [this]
    exact RowB.nil _ _
  · rw [List.eq_of_mem_replicate hu] at hk
    cases hk
  · rw [all hi] at hk
    cases hk

set_option maxRecDepth 20000 in
set_option maxHeartbeats 2000000 in
theorem toWrites (a : Option Addr) (cap : Nat) (qs : List Wr) (w : World) (h : SeesQ w a cap qs) (hs : uptoQ qs qs.length ≤ 1048576) :
    Calls Tryd.prog 31 #[.slice a qs.length cap] w fun e w' => e = .returned (.slice (some ⟨w.heap.size, 0, none⟩) qs.length qs.length) ∧ (∃ vs, QuR w.heap.size w' (.slice (some ⟨w.heap.size, 0, none⟩) qs.length qs.length) vs qs ∧ SomeV vs) ∧ Below w.heap.size w w' := by
  obtain ⟨i0, hi, hz0, hz1, hz2⟩ := info_parts infoW
  have hrl : qs.length ≤ 1048576 := by have := uptoQ_mono qs (Nat.zero_le qs.length); simp only [uptoQ] at this; omega
  have HS : Hid (uptoQ qs qs.length ≤ 1048576) := hs
  have HH : Hid (SeesQ w a cap qs) := h
  have hm := h.max
  have hf := h.fits
  unfold maxLen at hm
  clear hs h
  go_enter Tryd.func31, Tryd.ntmps31
  go_wp2_with (at_make; refine wpList_make_full _ rfl _ _ 28 rfl w.heap.size 51 i0 (.agg #[.int .i64 0, .slice none 0 0]) 2 Tryd.underlying28 hi hz0 hz1 .i64 .i64 _ _ qs.length rfl rfl rfl rfl ?b2 ?b3 (Nat.le_refl _) ?_)
  case b2 => rw [hz2]; omega
  case b3 => unfold maxLen; omega
  intro w0 hown0 hgrow0
  have R0 : Hid (QuR w.heap.size w0 (.slice (some ⟨w.heap.size, 0, none⟩) qs.length qs.length) (List.replicate qs.length (.slice none 0 0)) (List.replicate qs.length (0, []))) := QuR.start hown0
  have hb0 : Below w.heap.size w w0 := (Below.refl _ _).grown hgrow0 (Nat.le_refl _) (fun k h => by cases h)
  clear hown0 hgrow0 hi hz0 hz1 hz2
  go_wp2
  go_loopw [4] (fun i wr => ∃ (j : Nat) (vs : List Value) (zs : List Wr), j ≤ qs.length ∧ i = .int .i64 j ∧ Hid (zs.length = qs.length) ∧ Hid ((∀ k, k < j → wrN zs k = wrN qs k) ∧ ∀ k, k < j → ∃ ad l c, vs[k]? = some (.slice (some ad) l c)) ∧ Hid (QuR w.heap.size wr (.slice (some ⟨w.heap.size, 0, none⟩) qs.length qs.length) vs zs) ∧ Below w.heap.size w wr) (fun i _ => qs.length - (intOf i).toNat)
  case atStart => exact ⟨0, _, _, Nat.zero_le _, rfl, (by show _ = _; simp), ⟨fun k hk => absurd hk (by omega), fun k hk => absurd hk (by omega)⟩, R0, hb0⟩
  case round =>
    clear R0 hb0
    obtain ⟨j, vs, zs, hj, rfl, hz, hk, R, B⟩ := hrel
    rename World => wr
    by_cases hlt : j < qs.length
    · obtain ⟨b1, o1, rfl, hc⟩ := (HH.out.below B).cells (by intro e; simp [e] at hlt)
      obtain ⟨a', c', g1, g2, sb⟩ := hc j hlt
      have hrow := uptoQ_row qs hlt
      have HR : Hid ((wrN qs j).2.length ≤ 1048576) := by show _ ≤ _; have := HS.out; omega
      have SB : Hid (SeesB wr a' c' (wrN qs j).2) := sb
      have gl : w.heap.size < wr.heap.size := (R.out.lts.1 w.heap.size rfl).2
      have HK : Hid (∀ W x ds, wrN qs j = (x, ds) → QuR w.heap.size W (.slice (some ⟨w.heap.size, 0, none⟩) qs.length qs.length) (vs.set j (.slice (some ⟨wr.heap.size + 3, 0, none⟩) ds.length ds.length)) (zs.set j (x, ds)) → ∃ vs' zs', Hid (zs'.length = qs.length) ∧ Hid ((∀ k, k < j + 1 → wrN zs' k = wrN qs k) ∧ ∀ k, k < j + 1 → ∃ ad l c, vs'[k]? = some (.slice (some ad) l c)) ∧ Hid (QuR w.heap.size W (.slice (some ⟨w.heap.size, 0, none⟩) qs.length qs.length) vs' zs')) := fun W x ds e Q => by
        refine ⟨_, _, (by show _ = _; rw [List.length_set]; exact hz.out), ⟨fun k hk' => ?_, fun k hk' => ?_⟩, Q⟩
        · by_cases e2 : j = k
          · subst e2
            rw [wrN_set_same (by rw [hz.out]; exact hlt), e]
          · rw [wrN_set_other e2]
            exact hk.out.1 k (by omega)
        · by_cases e2 : j = k
          · subst e2
            exact ⟨_, _, _, List.getElem?_set_self (by have := R.out.len.out; have := hz.out; omega)⟩
          · rw [List.getElem?_set_ne e2]
            exact hk.out.2 k (by omega)
      have hjz : Hid (j < zs.length) := by show _ < _; rw [hz.out]; exact hlt
      obtain ⟨q, eq⟩ : ∃ q, Hid (wrN qs j = q) := ⟨_, rfl⟩
      rw [eq.out] at g1 g2 HR SB
      obtain ⟨x, ds⟩ := q
      dsimp only at g1 g2 HR SB
      clear hc hrow sb hz hk
      go_wp2_with fail
      refine (toWrite_any x a' c' ds _ SB.out HR.out).mono ?_
      rintro e w3 ⟨rfl, R3, hb⟩
      have Q3 := R.out.below hb
      obtain ⟨q1, q2⟩ := QuR.store Q3 (i := j) hjz.out x (.slice (some ⟨wr.heap.size + 3, 0, none⟩) ds.length ds.length) ds (row_base R3 (by omega)) (fun k hk => ⟨by injection hk with hk; dsimp only at hk; omega, fun y hy e => by have := (R.out.lts.2 y hy k e).2; injection hk with hk; dsimp only at hk; omega⟩)
      obtain ⟨vs', zs', z1, z2, z3⟩ := HK.out _ x ds eq.out q1
      obtain ⟨g, c0, a4, c4, e, _, d0, d1, _, fz⟩ := Q3.at' (i := j) hjz.out
      injection e with e1 e2 e3
      injection e1 with e1
      injection e1 with e1
      subst e1
      have B3 := (B.trans (hb.mono B.size)).setCell (p := ⟨w.heap.size, j * 2, none⟩) (Nat.le_refl _) (.int .i64 x)
      have B4 := B3.setCell (p := ⟨w.heap.size, j * 2 + 1, none⟩) (Nat.le_refl _) (.slice (some ⟨wr.heap.size + 3, 0, none⟩) ds.length ds.length)
      have d1' : (w3.setCell ⟨w.heap.size, j * 2, none⟩ (.int .i64 x)).cell? ⟨w.heap.size, j * 2 + 1, none⟩ = _ := (cell_other (.inr (by simp)) _).trans d1
      clear q1 q2 Q3 R3 hb B B3 HK R g1 g2 e2 e3 SB
      generalize Value.slice a4 (wrN zs j).2.length c4 = y1 at *
      generalize (wrN zs j).1 = y0 at *
      go_wp2_with fail
      go_roundw
      case rel => exact ⟨j + 1, vs', zs', by omega, by go_num, z1, z2, z3, B4⟩
      case measure => simp [intOf]; omega
    · obtain rfl : j = qs.length := by omega
      have e : zs = qs := by
        refine List.ext_getElem hz.out fun i h1 h2 => ?_
        have := hk.out.1 i h2
        unfold wrN at this
        rw [List.getElem?_eq_getElem h1, List.getElem?_eq_getElem h2] at this
        exact this
      have RR := R.out
      have SV : Hid (SomeV vs) := fun u hu => by
        obtain ⟨i, hi, e⟩ := List.getElem_of_mem hu
        obtain ⟨ad, l, c, q⟩ := hk.out.2 i (by have := R.out.len.out; have := hz.out; omega)
        rw [List.getElem?_eq_getElem hi, e] at q
        injection q with q
        exact ⟨ad, l, c, q⟩
      rw [e] at RR
      have R5 : Hid (QuR w.heap.size wr (.slice (some ⟨w.heap.size, 0, none⟩) qs.length qs.length) vs qs) := RR
      clear RR R hz hk e
      go_wp2
      go_ret
      exact ⟨rfl, ⟨_, R5.out, SV.out⟩, B⟩

set_option maxHeartbeats 1000000 in
theorem toDisk_any (a a2 : Option Addr) (c c2 : Nat) (bs : List Int) (qs : List Wr) (w : World) (h : SeesB w a c bs) (k : SeesQ w a2 c2 qs) (hb1 : bs.length ≤ 1048576) (hs : uptoQ qs qs.length ≤ 1048576) :
    Calls Tryd.prog 10 #[.agg #[.slice a bs.length c, .slice a2 qs.length c2]] w fun e w' => ∃ a' b' vs, e = .returned (.agg #[.slice (some a') bs.length bs.length, .slice b' qs.length qs.length]) ∧ DkR w.heap.size w' (.slice (some a') bs.length bs.length) (.slice b' qs.length qs.length) vs bs qs ∧ SomeV vs ∧ Below w.heap.size w w' := by
  have B := below3 w (.cells #[.slice a bs.length c, .slice a2 qs.length c2] 25) (.cells #[.slice none 0 0, .slice none 0 0] 30) (.cells #[.slice none 0 0, .slice none 0 0] 30)
  have KW : Hid (SeesQ w a2 c2 qs) := k
  have K1 : Hid (SeesQ (((w.alloc (.cells #[.slice a bs.length c, .slice a2 qs.length c2] 25)).alloc (.cells #[.slice none 0 0, .slice none 0 0] 30)).alloc (.cells #[.slice none 0 0, .slice none 0 0] 30)) a2 c2 qs) := k.below B
  have HS : Hid (uptoQ qs qs.length ≤ 1048576) := hs
  clear hs k
  go_enter Tryd.func10, Tryd.ntmps10
  go_wp2_with fail
  have R0 : Box2 0 (((w.alloc (.cells #[.slice a bs.length c, .slice a2 qs.length c2] 25)).alloc (.cells #[.slice none 0 0, .slice none 0 0] 30)).alloc (.cells #[.slice none 0 0, .slice none 0 0] 30)) w.heap.size (.slice a bs.length c) (.slice a2 qs.length c2) :=
    ((Box2.new w (lo := 0) (by omega) (.slice a bs.length c) (.slice a2 qs.length c2) 25).below (below1 _ _)).below (below1 _ _)
  have R1 : Box2 0 (((w.alloc (.cells #[.slice a bs.length c, .slice a2 qs.length c2] 25)).alloc (.cells #[.slice none 0 0, .slice none 0 0] 30)).alloc (.cells #[.slice none 0 0, .slice none 0 0] 30)) (w.heap.size + 1) (.slice none 0 0) (.slice none 0 0) := by
    have := (Box2.new (w.alloc (.cells #[.slice a bs.length c, .slice a2 qs.length c2] 25)) (lo := 0) (by omega) (.slice none 0 0) (.slice none 0 0) 30).below (below1 _ (.cells #[.slice none 0 0, .slice none 0 0] 30))
    simpa using this
  have R2 : Box2 0 (((w.alloc (.cells #[.slice a bs.length c, .slice a2 qs.length c2] 25)).alloc (.cells #[.slice none 0 0, .slice none 0 0] 30)).alloc (.cells #[.slice none 0 0, .slice none 0 0] 30)) (w.heap.size + 2) (.slice none 0 0) (.slice none 0 0) := by
    have := Box2.new ((w.alloc (.cells #[.slice a bs.length c, .slice a2 qs.length c2] 25)).alloc (.cells #[.slice none 0 0, .slice none 0 0] 30)) (lo := 0) (by omega) (.slice none 0 0) (.slice none 0 0) 30
    simpa using this
  refine (toBytes a c bs _ (h.below B) hb1).mono ?_
  rintro e w3 ⟨rfl, O3, hb⟩
  have K5 : ∀ o u, Hid (SeesQ (w3.setCell ⟨w.heap.size + 2, o, none⟩ u) a2 c2 qs) := fun o u => KW.out.below (((B.trans (hb.mono B.size))).setCell (p := ⟨w.heap.size + 2, o, none⟩) (by dsimp only; omega) u)
  replace B := B.trans (hb.mono B.size)
  replace R0 := R0.below hb
  replace R1 := R1.below hb
  replace R2 := R2.below hb
  clear hb h K1
  rw [show (((w.alloc (.cells #[.slice a bs.length c, .slice a2 qs.length c2] 25)).alloc (.cells #[.slice none 0 0, .slice none 0 0] 30)).alloc (.cells #[.slice none 0 0, .slice none 0 0] 30)).heap.size = w.heap.size + 3 by simp] at O3 ⊢
  obtain ⟨z0, z1, zf, _⟩ := id R0
  obtain ⟨r2, r3, rg, _⟩ := id R2
  have lt3 := (World.ownsRow.lt O3 (w.heap.size + 3) rfl).2
  have put : ∀ {W : World} (g o : Nat) (u : Value), g < w.heap.size + 3 → RowB (w.heap.size + 3) W (.slice (some ⟨w.heap.size + 3, 0, none⟩) bs.length bs.length) bs → RowB (w.heap.size + 3) (W.setCell ⟨g, o, none⟩ u) (.slice (some ⟨w.heap.size + 3, 0, none⟩) bs.length bs.length) bs := fun {W} g o u hg q => owns_kept' q (grownBy_setCell (grownBy_refl W (some g)) rfl u) (fun k hk e => by injection e with e; injection hk with hk; dsimp only at hk; omega)
  have O4 : Hid (RowB (w.heap.size + 3) _ (.slice (some ⟨w.heap.size + 3, 0, none⟩) bs.length bs.length) bs) := put (w.heap.size + 2) 0 (.slice (some ⟨w.heap.size + 3, 0, none⟩) bs.length bs.length) (by omega) O3
  have B4 := B.setCell (p := ⟨w.heap.size + 2, 0, none⟩) (by dsimp only; omega) (.slice (some ⟨w.heap.size + 3, 0, none⟩) bs.length bs.length)
  have R4 : Box2 0 (w3.setCell ⟨w.heap.size + 2, 0, none⟩ (.slice (some ⟨w.heap.size + 3, 0, none⟩) bs.length bs.length)) (w.heap.size + 2) (.slice (some ⟨w.heap.size + 3, 0, none⟩) bs.length bs.length) (.slice none 0 0) :=
    ⟨cell_same R2.c0 _, (cell_other (.inr (by simp)) _).trans R2.c1, fun o => (World.frozen?_setCell ..).trans (R2.fr o), R2.lo⟩
  have R5 : Box2 0 (w3.setCell ⟨w.heap.size + 2, 0, none⟩ (.slice (some ⟨w.heap.size + 3, 0, none⟩) bs.length bs.length)) (w.heap.size + 1) (.slice none 0 0) (.slice none 0 0) :=
    ⟨(cell_other (.inl (by simp)) _).trans R1.c0, (cell_other (.inl (by simp)) _).trans R1.c1, fun o => (World.frozen?_setCell ..).trans (R1.fr o), R1.lo⟩
  have z1' : (w3.setCell ⟨w.heap.size + 2, 0, none⟩ (.slice (some ⟨w.heap.size + 3, 0, none⟩) bs.length bs.length)).cell? ⟨w.heap.size, 1, none⟩ = _ := (cell_other (.inl (by simp)) _).trans z1
  have K4 : Hid (SeesQ (w3.setCell ⟨w.heap.size + 2, 0, none⟩ (.slice (some ⟨w.heap.size + 3, 0, none⟩) bs.length bs.length)) a2 c2 qs) := K5 _ _
  clear O3 B R0 R1 R2 K5
  go_wp2_with fail
  refine (toWrites a2 c2 qs _ K4.out HS.out).mono ?_
  rintro e w5 ⟨rfl, ⟨vs, Q5, SV5⟩, hb⟩
  have SV6 : Hid (SomeV vs) := SV5
  clear SV5
  rw [show (w3.setCell ⟨w.heap.size + 2, 0, none⟩ (.slice (some ⟨w.heap.size + 3, 0, none⟩) bs.length bs.length)).heap.size = w3.heap.size by simp] at Q5 ⊢
  have B5 := B4.trans (hb.mono B4.size)
  have O5 := O4.out.below hb
  obtain ⟨q0, q1, qf, _⟩ := R4.below hb
  obtain ⟨p0, p1, pf, _⟩ := R5.below hb
  clear hb z1' r2 r3 rg z0 z1 zf O4 B4 R4 R5 K4
  have putQ : ∀ {W : World} (g o : Nat) (u : Value), g < w.heap.size + 3 → QuR w3.heap.size W (.slice (some ⟨w3.heap.size, 0, none⟩) qs.length qs.length) vs qs → QuR w3.heap.size (W.setCell ⟨g, o, none⟩ u) (.slice (some ⟨w3.heap.size, 0, none⟩) qs.length qs.length) vs qs := fun {W} g o u hg q => q.kept (grownBy_setCell (grownBy_refl W (some g)) rfl u) (fun k hk e => by injection e with e; have := (q.lts.1 k hk).1; omega) (fun y hy k hk e => by injection e with e; have := (q.lts.2 y hy k hk).1; omega)
  have O6 := put (w.heap.size + 1) 1 (.slice (some ⟨w3.heap.size, 0, none⟩) qs.length qs.length) (by omega) (put (w.heap.size + 1) 0 (.slice (some ⟨w.heap.size + 3, 0, none⟩) bs.length bs.length) (by omega) (put (w.heap.size + 2) 1 (.slice (some ⟨w3.heap.size, 0, none⟩) qs.length qs.length) (by omega) O5))
  have Q6 := putQ (w.heap.size + 1) 1 (.slice (some ⟨w3.heap.size, 0, none⟩) qs.length qs.length) (by omega) (putQ (w.heap.size + 1) 0 (.slice (some ⟨w.heap.size + 3, 0, none⟩) bs.length bs.length) (by omega) (putQ (w.heap.size + 2) 1 (.slice (some ⟨w3.heap.size, 0, none⟩) qs.length qs.length) (by omega) Q5))
  have B6 := ((B5.setCell (p := ⟨w.heap.size + 2, 1, none⟩) (by dsimp only; omega) (.slice (some ⟨w3.heap.size, 0, none⟩) qs.length qs.length)).setCell (p := ⟨w.heap.size + 1, 0, none⟩) (by dsimp only; omega) (.slice (some ⟨w.heap.size + 3, 0, none⟩) bs.length bs.length)).setCell (p := ⟨w.heap.size + 1, 1, none⟩) (by dsimp only; omega) (.slice (some ⟨w3.heap.size, 0, none⟩) qs.length qs.length)
  have D6 : Hid (DkR w.heap.size _ (.slice (some ⟨w.heap.size + 3, 0, none⟩) bs.length bs.length) (.slice (some ⟨w3.heap.size, 0, none⟩) qs.length qs.length) vs bs qs) := ⟨row_base O6 (by omega), Q6.base (by omega), fun k hk => by
    injection hk with hk
    dsimp only at hk
    exact ⟨fun e => by injection e with e; dsimp only at e; omega, fun u hu e => by have := (Q6.lts.2 u hu k e).1; omega⟩⟩
  clear put putQ O6 Q6 O5 Q5 B5
  go_wp2
  exact bodyPost_ret (v := .agg #[.slice (some ⟨w.heap.size + 3, 0, none⟩) bs.length bs.length, .slice (some ⟨w3.heap.size, 0, none⟩) qs.length qs.length]) (by simp [results, Tryd.results10, go_sem, p0, p1]) rfl ⟨_, _, _, rfl, D6.out, SV6.out, B6⟩
end Go.Proofs.YtjpnkmhmipendaaDoor
