/- Points are compared; the library's sort of points. -/
import Derived.Test.YtbdpnfdpnaoicaaCsC
import Derived.Test.YtbdpnfdpnaoicaaHullM
import Derived.Test.YtbdpnfdpnaoicaaPtX
import Derived.Test.YtbdpnfdpnaoicaaShelf
namespace Go.Proofs.Ytbdpnfdpnaoicaa
open Go.RowKit

theorem Grw.refl (W : World) : Grw W W := ⟨0, #[], by rw [Go.Sort.grow_empty]; rfl⟩
theorem Grw.trans {a b c : World} (h : Grw a b) (k : Grw b c) : Grw a c := by
  obtain ⟨q, os, rfl⟩ := h.ex
  obtain ⟨q', os', rfl⟩ := k.ex
  refine ⟨q + q', os ++ os', ?_⟩
  simp [Go.Sort.grow, World.drewN, Nat.add_assoc]
set_option maxRecDepth 20000 in
set_option maxHeartbeats 2000000 in
theorem comparePts_any (x y u v : Int) (w : World) :
    Calls Try.prog 20 #[.agg #[.int .i64 x, .int .i64 y], .agg #[.int .i64 u, .int .i64 v]] w fun e w' => e = .returned (.int .i64 (or2 (cmp2 x u) (cmp2 y v))) ∧ Grw w w' := by
  have P := Box2.new w (lo := w.heap.size) (Nat.le_refl _) (.int .i64 x) (.int .i64 y) 29
  have Q := Box2.new (w.alloc (.cells #[.int .i64 x, .int .i64 y] 29)) (lo := w.heap.size) (by simp) (.int .i64 u) (.int .i64 v) 29
  replace P := P.below (below1 _ (.cells #[.int .i64 u, .int .i64 v] 29))
  have G0 := ((Grw.refl w).alloc (.cells #[.int .i64 x, .int .i64 y] 29)).alloc (.cells #[.int .i64 u, .int .i64 v] 29)
  obtain ⟨k0, k1, _, _⟩ := P
  obtain ⟨k2, k3, _, _⟩ := Q
  rw [World.size_alloc] at k2 k3
  go_enter Try.func20, Try.ntmps20
  go_upto_region 1 with fail
  generalize (w.alloc (.cells #[.int .i64 x, .int .i64 y] 29)).alloc (.cells #[.int .i64 u, .int .i64 v] 29) = W at *
  refine wp_region_held_drew (S := Grw W) (by kernel_rfl) (Grw.start W) (fun hHeld => ?_)
  have N : Grw W W.drew := hHeld
  revert hHeld N
  generalize W.drew = ww0
  intro hHeld N
  refine takeQ (i := 0) (gt rfl) (by kernel_rfl) (fun _ _ _ h => h) (by rfl) (by intro wq _; go_simp <;> with_reducible rfl) (by assumption) ?_
  try simp only [Act.put, sA, sB, sC]
  refine takeQ (i := 1) (gt rfl) (by kernel_rfl) (fun _ _ _ h => h) (by rfl) (by intro wq hSw; have q0 := bat hSw.below k0; have q1 := bat hSw.below k1; have q2 := bat hSw.below k2; have q3 := bat hSw.below k3; go_simp <;> with_reducible rfl) (by assumption) ?_
  try simp only [Act.put, sA, sB, sC]
  refine takeQ (i := 2) (gt rfl) (by kernel_rfl) (fun _ _ _ h => h) (by rfl) (by intro wq _; go_simp <;> with_reducible rfl) (by assumption) ?_
  try simp only [Act.put, sA, sB, sC]
  refine takeQ (i := 3) (gt rfl) (by kernel_rfl) (fun _ _ _ h => h) (by rfl) (by intro wq hSw; have q0 := bat hSw.below k0; have q1 := bat hSw.below k1; have q2 := bat hSw.below k2; have q3 := bat hSw.below k3; go_simp <;> with_reducible rfl) (by assumption) ?_
  try simp only [Act.put, sA, sB, sC]
  refine takeQ (i := 5) (gt rfl) (by kernel_rfl) (fun _ _ _ h => h) (by rfl) (by intro wq _; go_simp <;> with_reducible rfl) (by assumption) ?_
  try simp only [Act.put, sA, sB, sC]
  refine takeQ (i := 6) (gt rfl) (by kernel_rfl) (fun _ _ _ h => h) (by rfl) (by intro wq hSw; have q0 := bat hSw.below k0; have q1 := bat hSw.below k1; have q2 := bat hSw.below k2; have q3 := bat hSw.below k3; go_simp <;> with_reducible rfl) (by assumption) ?_
  try simp only [Act.put, sA, sB, sC]
  refine takeQ (i := 7) (gt rfl) (by kernel_rfl) (fun _ _ _ h => h) (by rfl) (by intro wq _; go_simp <;> with_reducible rfl) (by assumption) ?_
  try simp only [Act.put, sA, sB, sC]
  refine takeQ (i := 8) (gt rfl) (by kernel_rfl) (fun _ _ _ h => h) (by rfl) (by intro wq hSw; have q0 := bat hSw.below k0; have q1 := bat hSw.below k1; have q2 := bat hSw.below k2; have q3 := bat hSw.below k3; go_simp <;> with_reducible rfl) (by assumption) ?_
  try simp only [Act.put, sA, sB, sC]
  refine wpAnyH_ready (rs := [4]) (by kernel_rfl) (by simp) (AllReadyH.cons (gt rfl) (fun K hK => ?_) AllReadyH.nil)
  go_simp
  refine (compare_any x u _).mono ?_
  rintro e1 ww1 ⟨rfl, ew⟩
  subst ew
  refine hK.out _ _ N (fun hHeld => ?_)
  clear hK K
  try simp only [Act.put, sA, sB, sC]
  refine wpAnyH_ready (rs := [9]) (by kernel_rfl) (by simp) (AllReadyH.cons (gt rfl) (fun K hK => ?_) AllReadyH.nil)
  go_simp
  refine (compare_any y v _).mono ?_
  rintro e1 ww2 ⟨rfl, ew⟩
  subst ew
  refine hK.out _ _ N (fun hHeld => ?_)
  clear hK K
  try simp only [Act.put, sA, sB, sC]
  refine wpAnyH_ready (rs := [10]) (by kernel_rfl) (by simp) (AllReadyH.cons (gt rfl) (fun K hK => ?_) AllReadyH.nil)
  go_simp
  have KB := Box2.new ww2 N.size (.int .i64 (cmp2 x u)) (.int .i64 (cmp2 y v)) 3
  replace N := N.alloc (.cells #[.int .i64 (cmp2 x u), .int .i64 (cmp2 y v)] 3)
  generalize ww2.alloc (.cells #[.int .i64 (cmp2 x u), .int .i64 (cmp2 y v)] 3) = ww3 at *
  refine hK.out _ _ N (fun hHeld => ?_)
  clear hK K
  try simp only [Act.put, sA, sB, sC]
  refine wpAnyH_ready (rs := [11]) (by kernel_rfl) (by simp) (AllReadyH.cons (gt rfl) (fun K hK => ?_) AllReadyH.nil)
  go_simp
  refine (or2_any _ (cmp2 x u) (cmp2 y v) _ KB.c0 KB.c1).mono ?_
  rintro e1 ww4 ⟨rfl, ew⟩
  subst ew
  refine hK.out _ _ N (fun hHeld => ?_)
  clear hK K
  try simp only [Act.put, sA, sB, sC]
  refine takeQ (i := 12) (gt rfl) (by kernel_rfl) (fun _ _ _ h => h) (by rfl) (by intro wq _; go_simp <;> with_reducible rfl) (by assumption) ?_
  try simp only [Act.put, sA, sB, sC]
  refine wpAnyH_done (by kernel_rfl) ?_ _
  go_wp2
  go_ret
  exact ⟨rfl, G0.trans N⟩
def ptE (p : Pn) : List Value := [.int .i64 p.1, .int .i64 p.2]
def ptCf (p q : Pn) : Int := or2 (cmp2 p.1 q.1) (cmp2 p.2 q.2)
theorem ptCf_lt (p q : Pn) : ltOf ptCf p q = true ↔ ltP p q := by
  unfold ltOf ptCf or2 cmp2 ltP
  rw [decide_eq_true_iff]
  generalize p.1 = x
  generalize q.1 = y
  generalize p.2 = z
  generalize q.2 = t
  split <;> split at * <;> (try split at *) <;> (try split) <;> (try split) <;> omega
theorem ptCf_nlt (p q : Pn) : ltOf ptCf p q = false ↔ ¬ ltP p q := by rw [← ptCf_lt, Bool.not_eq_true]
theorem ptSwo : Go.Sort.SWO (ltOf ptCf) where
  irrefl x := by rw [ptCf_nlt]; unfold ltP; omega
  trans x y z h1 h2 := by rw [ptCf_lt] at *; unfold ltP at *; omega
  ntrans x y z h1 h2 := by rw [ptCf_nlt] at *; unfold ltP at *; omega
theorem RowPt.of_cells {base : Nat} {w : World} {g cap : Nat} {cur : Array Value} {qs : List Pn} (hb : base ≤ g) (hh : w.heap[g]? = some (.cells cur 29 (0, 0))) (h1 : qs.length ≤ cap) (h2 : cap ≤ maxLen) (h3 : cur.size = cap * 2)
    (hc : ∀ k u, (ptC qs)[k]? = some u → w.cell? ⟨g, k, none⟩ = some u) : RowPt base w (.slice (some ⟨g, 0, none⟩) qs.length cap) qs := by
  refine ⟨ptC_len _, .inr ⟨g, cap, cur, rfl, hb, hh, h1, h2, h3, ?_⟩⟩
  apply List.ext_getElem?
  intro k
  by_cases hk : k < qs.length * 2
  · have hk' : k < (ptC qs).length := by rw [ptC_len]; exact hk
    have := hc k _ (List.getElem?_eq_getElem hk')
    rw [cell_of_row w g k cur _ _ hh] at this
    rw [List.getElem?_take_of_lt hk, Array.getElem?_toList, this, List.getElem?_eq_getElem hk']
  · rw [List.getElem?_take_eq_none (by omega), List.getElem?_eq_none (by rw [ptC_len]; omega)]
theorem RowPt.block {base : Nat} {w : World} {g cap : Nat} {qs : List Pn} (h : RowPt base w (.slice (some ⟨g, 0, none⟩) qs.length cap) qs) : base ≤ g ∧ (∃ cur, w.heap[g]? = some (.cells cur 29 (0, 0)) ∧ cur.size = cap * 2) ∧ qs.length ≤ cap ∧ cap ≤ maxLen ∧ ∀ k u, (ptC qs)[k]? = some u → w.cell? ⟨g, k, none⟩ = some u := by
  rcases h.2 with ⟨hv, _⟩ | ⟨q, cap', cur, hv, hb, hh, hf, hm, hs, ht⟩
  · cases hv
  · injection hv with h1 h2 h3
    injection h1 with h1
    injection h1 with h1
    subst h1 h3
    refine ⟨hb, ⟨cur, hh, hs⟩, hf, hm, fun k u hk => ?_⟩
    rw [← ht] at hk
    have hk2 : k < qs.length * 2 := by
      have := (List.getElem?_eq_some_iff.mp hk).1
      rw [List.length_take] at this
      omega
    rw [List.getElem?_take_of_lt hk2] at hk
    exact (cell_of_row w g k _ _ _ hh).trans (by simpa using hk)
theorem ptC_get (ps : List Pn) {k : Nat} (h : k < ps.length * 2) : (ptC ps)[k]? = some ((ptE (ps[k / 2]?.getD (0, 0)))[k % 2]!) := by
  obtain ⟨a, b⟩ := ptC_at ps (k / 2) (by omega)
  have hk := Nat.div_add_mod k 2
  rcases Nat.mod_two_eq_zero_or_one k with e | e
  · rw [e] at hk ⊢
    rw [show k / 2 * 2 = k by omega] at a
    rw [a]
    rfl
  · rw [e] at hk ⊢
    rw [show k / 2 * 2 + 1 = k by omega] at b
    rw [b]
    rfl
theorem ptC_flat (d : Array Pn) {k : Nat} {u : Value} (h : (ptC d.toList)[k]? = some u) : k < d.size * 2 ∧ (Go.Sort.flatK ptE 2 d)[k]! = u := by
  have hk : k < d.toList.length * 2 := by have := (List.getElem?_eq_some_iff.1 h).1; rwa [ptC_len] at this
  have hk' : k < d.size * 2 := by simpa using hk
  rw [ptC_get _ hk] at h
  injection h with h
  refine ⟨hk', ?_⟩
  rw [Go.Sort.get_flatK _ _ _ _ hk', ← h]
  have hd : k / 2 < d.size := by omega
  rw [getElem!_pos d (k / 2) hd]
  simp [hd]

set_option maxHeartbeats 1000000 in
theorem sortPts_any (lo g cap : Nat) (ps : List Pn) (w : World) (R : RowPt lo w (.slice (some ⟨g, 0, none⟩) ps.length cap) ps) (hl : ps.length ≤ 500) :
    Calls Try.prog 19 #[.slice (some ⟨g, 0, none⟩) ps.length cap, .func (.func 20) #[] #[]] w fun e w' => e = .returned (.tuple #[]) ∧ ∃ qs : List Pn, qs.length = ps.length ∧ RowPt lo w' (.slice (some ⟨g, 0, none⟩) ps.length cap) qs ∧ qs.Perm ps ∧ qs.Pairwise (fun a b => ¬ ltP b a) ∧ w.grownBy w' (some g) := by
  obtain ⟨hb, ⟨cur, hh, hs⟩, hf, hm, hc⟩ := R.block
  have hgs : g < w.heap.size := (Array.getElem?_eq_some_iff.1 hh).1
  have eg : ∀ args w, (callFunc 20 args).run Try.prog w = .ok (.enter 20 args) w := enters_of Try.func20 (by kernel_rfl) rfl
  have hcmp : CmpLays Try.prog 20 #[] ptE 2 ptCf g 0 ps.toArray.size w := fun m os dk hd x y =>
    (comparePts_any x.1 x.2 y.1 y.2 _).mono fun e w' ⟨he, hg⟩ => ⟨he, hg.ex⟩
  have hH : Go.Sort.HoldsK ptE 2 w g 0 ps.toArray := by
    intro j hj
    rw [Go.Sort.size_flatK] at hj
    have hj' : j < ps.length * 2 := by simpa using hj
    have h1 := ptC_get ps hj'
    have h2 := (ptC_flat ps.toArray (k := j) h1).2
    rw [Nat.zero_add]
    refine ⟨?_, by simp [World.frozen?, hh]⟩
    have h3 := hc j _ h1
    rw [← h2] at h3
    exact h3
  have hcon := AnyQ.slices_SortFunc Try.sortPts 2 Try.isAgg29 Try.sizeOf29 ptE (fun _ => rfl) (fun x v hv => by simp [ptE] at hv; rcases hv with rfl | rfl <;> rfl) ptCf ptSwo 20 #[] g 0 cap ps.toArray w eg hcmp hH hgs (by simp; omega)
  have hz : ps.toArray.size = ps.length := by simp
  rw [hz] at hcon
  change Calls Try.prog 19 _ _ _ at hcon
  refine hcon.mono fun e w' ⟨he, d', m, os, hp, hso, hw⟩ => ⟨he, d'.toList, ?_, ?_, ?_, ?_, ?_⟩
  · have := hp.1
    simpa using this
  · have hl' : d'.toList.length = ps.length := by have := hp.1; simpa using this
    have hd' : d'.size = ps.toArray.size := by rw [hz]; simpa using hl'
    have hK := holdsK_sortWorldK ptE 2 w g 0 m ps.toArray d' os hgs hH hd'
    rw [← hw] at hK
    have hh' : w'.heap[g]? = some (.cells (Go.Sort.putCells id 0 (Go.Sort.flatK ptE 2 d') cur) 29 (0, 0)) := by
      rw [hw]
      unfold sortWorldK Go.Sort.putRowK
      rw [Go.Sort.heap_grow_old _ _ (by simpa [size_putRow] using hgs)]
      simp [Go.Sort.putRow, Go.Sort.mapBlock, Go.Sort.ahead, Array.getElem?_modify, hh, Go.Sort.onCells]
    have R9 := RowPt.of_cells (qs := d'.toList) (cap := cap) hb hh' (by rw [hl']; exact hf) hm (by simp [Go.Sort.putCells, hs]) (fun k u hk => by
      obtain ⟨h1, h2⟩ := ptC_flat d' hk
      have := (hK k (by rw [Go.Sort.size_flatK]; exact h1)).1
      rw [Nat.zero_add] at this
      rw [this, ← h2]
      rfl)
    rwa [hl'] at R9
  · have h3 := hp.2.2
    have hd' : d'.size = ps.length := by have := hp.1; rwa [hz] at this
    have e1 : d'.extract 0 ps.length = d' := by rw [← hd']; simp
    have e2 : ps.toArray.extract 0 ps.length = ps.toArray := by rw [← hz]; simp
    rw [e1, e2] at h3
    exact h3
  · have hd' : d'.size = ps.length := by have := hp.1; rwa [hz] at this
    refine List.pairwise_iff_getElem.2 fun i j hi hj hij => ?_
    have hi' : i < d'.size := by simpa using hi
    have hj' : j < d'.size := by simpa using hj
    have hk := hso i j (Nat.zero_le _) hij (by omega)
    rw [ptCf_nlt, getElem!_pos d' j hj', getElem!_pos d' i hi'] at hk
    simpa using hk
  · rw [hw]
    unfold sortWorldK Go.Sort.putRowK
    refine ⟨rfl, rfl, rfl, by simp, fun k hk hne => ?_⟩
    rw [Go.Sort.heap_grow_old _ _ (by simpa [size_putRow] using hk)]
    have : g ≠ k := fun e => hne (by rw [e])
    simp [Go.Sort.putRow, Go.Sort.mapBlock, Go.Sort.ahead, Array.getElem?_modify, this]
end Go.Proofs.Ytbdpnfdpnaoicaa
