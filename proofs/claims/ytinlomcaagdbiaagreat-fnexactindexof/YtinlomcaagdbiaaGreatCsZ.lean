/- CurveSort of the program: the sort. -/
import Derived.Test.YtinlomcaagdbiaaGreatCsI
import Derived.Test.YtinlomcaagdbiaaGreatShelf
import Derived.Sort.OwnSortedInts
namespace Go.Proofs.YtinlomcaagdbiaaGreat
open Go.RowKit

def csCf (bs : List Bx) {n : Nat} (i j : Fin n) : Int := or2 (cmp2 (csK bs i.1) (csK bs j.1)) (cmp2 i.1 j.1)
theorem csCf_lt (bs : List Bx) {n : Nat} (i j : Fin n) : ltOf (csCf bs) i j = true ↔ csLt (csK bs) i.1 j.1 := by
 unfold ltOf csCf or2 cmp2 csLt
 rw [decide_eq_true_iff]
 generalize csK bs i.1 = x
 generalize csK bs j.1 = y
 split <;> split at * <;> (try split at *) <;> (try split) <;> (try split) <;> omega
theorem csCf_nlt (bs : List Bx) {n : Nat} (i j : Fin n) : ltOf (csCf bs) i j = false ↔ ¬ csLt (csK bs) i.1 j.1 := by
 rw [← csCf_lt, Bool.not_eq_true]
theorem csSwo (bs : List Bx) (n : Nat) : Go.Sort.SWO (ltOf (csCf bs (n := n))) where
 irrefl x := by rw [csCf_nlt]; unfold csLt; omega
 trans x y z h1 h2 := by rw [csCf_lt] at *; unfold csLt at *; omega
 ntrans x y z h1 h2 := by rw [csCf_nlt] at *; unfold csLt at *; omega
theorem sortWorld_cell {α : Type} [Inhabited α] (enc : α → Value) (w : World) (blk off m : Nat) (dk : Array α) (os : Array Obj) {b o : Nat} (hb : b < w.heap.size) (ne : b ≠ blk) :
  (sortWorld enc w blk off m dk os).cell? ⟨b, o, none⟩ = w.cell? ⟨b, o, none⟩ := by
 unfold sortWorld
 rw [Go.Sort.cell?_grow _ _ _ (by simpa [size_putRow] using hb), Go.Sort.cell?_putRow_other _ _ _ _ _ _ (.inl ne)]
 rfl

def finA (n : Nat) : Array (Fin n) := (List.finRange n).toArray
theorem finA_size (n : Nat) : (finA n).size = n := by simp [finA]
theorem finA_at {n : Nat} [Inhabited (Fin n)] {j : Nat} (h : j < n) : (finA n)[j]! = ⟨j, h⟩ := by
 rw [getElem!_pos _ j (by rw [finA_size]; exact h)]
 simp [finA]
theorem whole_extract {α : Type} {n : Nat} {d : Array α} (h : d.size = n) : d.extract 0 n = d := by subst h; simp
theorem finA_perm {n : Nat} [Inhabited (Fin n)] {d : Array (Fin n)} (h : Go.Sort.PermIn 0 n (finA n) d) : (d.toList.map (fun i => i.1)).Perm (List.range n) := by
 obtain ⟨h1, _, h3⟩ := h
 rw [finA_size] at h1
 rw [whole_extract h1, whole_extract (finA_size n)] at h3
 have e : (finA n).toList.map (fun i : Fin n => i.1) = List.range n := List.ext_getElem (by simp [finA]) (fun i h1 h2 => by simp [finA])
 rw [← e]
 exact h3.map (fun i : Fin n => i.1)
theorem csLt_tri {kf : Nat → Int} {a b : Nat} (h : ¬ csLt kf b a) (ne : a ≠ b) : csLt kf a b := by unfold csLt at *; omega
theorem finA_sorted {n : Nat} [Inhabited (Fin n)] {d : Array (Fin n)} (bs : List Bx) (h : Go.Sort.PermIn 0 n (finA n) d) (k : Go.Sort.SortedIn (ltOf (csCf bs)) 0 n d) : Srt (csK bs) n (d.toList.map (fun i => i.1)) := by
 have hp := finA_perm h
 refine ⟨hp, List.pairwise_iff_getElem.2 fun i j hi hj hij => ?_⟩
 have hs : d.size = n := h.1.trans (finA_size n)
 have hi' : i < d.size := by simpa using hi
 have hj' : j < d.size := by simpa using hj
 have nd : (d.toList.map (fun i => i.1)).Nodup := hp.nodup_iff.2 List.nodup_range
 have ne : (d.toList.map (fun i => i.1))[i] ≠ (d.toList.map (fun i => i.1))[j] := fun e => by
  have := (List.getElem_inj nd).1 e
  omega
 have hk := k i j (Nat.zero_le _) hij (by omega)
 rw [csCf_nlt, getElem!_pos _ j hj', getElem!_pos _ i hi'] at hk
 refine csLt_tri ?_ ne
 simpa using hk
theorem putRow_fin {n : Nat} [Inhabited (Fin n)] (w : World) (g : Nat) (d : Array (Fin n)) : Go.Sort.putRow (fun i : Fin n => Value.int .i64 ((i.1 : Nat) : Int)) w g 0 d = Go.Sort.putRow (Value.int .i64) w g 0 ((d.toList.map (fun i => i.1)).map Int.ofNat).toArray := by
 unfold Go.Sort.putRow
 congr 1
 funext c
 unfold Go.Sort.putCells
 congr 1
 funext k x
 have hs : ((d.toList.map (fun i => i.1)).map Int.ofNat).toArray.size = d.size := by simp
 rw [hs]
 by_cases hk : 0 ≤ k ∧ k < 0 + d.size
 ·rw [if_pos hk, if_pos hk, Nat.sub_zero, getElem!_pos _ k (by omega), getElem!_pos _ k (by rw [hs]; omega)]
  simp
 ·rw [if_neg hk, if_neg hk]

set_option maxHeartbeats 1000000 in
theorem sort_some (bs : List Bx) (w : World) (hs : bs.length ≤ 500) (h0 : 0 < bs.length) (vk v4 : Value) (W : World) (ST : CsSt w.heap.size w W vk v4 (ksL bs bs.length) (psL bs.length)) :
  Calls Tryz.prog 105 #[v4, .func (.func 106) #[] #[.pointer (some ⟨w.heap.size, 0, none⟩)]] W fun e w' => e = .returned (.tuple #[]) ∧ ∃ l, RowI w.heap.size w' v4 (List.map Int.ofNat l) ∧ csOk bs l ∧ Below w.heap.size w w' := by
 obtain ⟨bx, rk, rp, ap, be⟩ := ST
 have KL := ksL_len bs bs.length
 have PL := psL_len bs.length
 haveI : Inhabited (Fin bs.length) := ⟨⟨0, h0⟩⟩
 obtain ⟨q, ck, rfl, hq1, hq2⟩ := rk.shape (by intro e; rw [e] at KL; simp at KL; omega)
 rcases rp.2 with ⟨_, e0⟩ | ⟨g, cap, cur, rfl, hg, hh, hf, hm, hz, ht⟩
 ·rw [PL] at e0; omega
 have hgs : g < W.heap.size := (Array.getElem?_eq_some_iff.1 hh).1
 have nqg : q ≠ g := fun e => ap q rfl (by rw [e]; rfl)
 have eg : ∀ args w, (callFunc 106 args).run Tryz.prog w = .ok (.enter 106 args) w := enters_of Tryz.func106 (by kernel_rfl) rfl
 have hcmp : CmpLays1 Tryz.prog 106 #[.pointer (some ⟨w.heap.size, 0, none⟩)] (fun i : Fin bs.length => Value.int .i64 ((i.1 : Nat) : Int)) (csCf bs) g 0 (finA bs.length).size W := by
  intro m os dk hd x y
  have k0 := (sortWorld_cell (fun i : Fin bs.length => Value.int .i64 ((i.1 : Nat) : Int)) W g 0 m dk os (o := 0) bx.lt (by omega)).trans bx.c0
  have r0 := (sortWorld_cell (fun i : Fin bs.length => Value.int .i64 ((i.1 : Nat) : Int)) W g 0 m dk os (o := x.1) hq2 nqg).trans (rk.at' (j := x.1) (by rw [KL]; exact x.2))
  have r1 := (sortWorld_cell (fun i : Fin bs.length => Value.int .i64 ((i.1 : Nat) : Int)) W g 0 m dk os (o := y.1) hq2 nqg).trans (rk.at' (j := y.1) (by rw [KL]; exact y.2))
  rw [KL] at k0
  rw [ksL_at x.2] at r0
  rw [ksL_at y.2] at r1
  exact (sort1_any w.heap.size q bs.length ck x.1 y.1 _ _ _ k0 x.2 y.2 hs r0 r1).mono fun e w' ⟨he, hg⟩ => ⟨he, hg.ex⟩
 have hH : Go.Sort.Holds (fun i : Fin bs.length => Value.int .i64 ((i.1 : Nat) : Int)) W g 0 (finA bs.length) := by
  intro j hj
  rw [finA_size] at hj
  rw [finA_at hj, Nat.zero_add]
  have hc := rp.at' (j := j) (by rw [PL]; exact hj)
  rw [psL_at hj] at hc
  exact ⟨hc, by simp [World.frozen?, hh]⟩
 have hcon := Tryz.slices_SortFunc (fun i : Fin bs.length => Value.int .i64 ((i.1 : Nat) : Int)) (fun _ => rfl) (csCf bs) (csSwo bs bs.length) 106 #[.pointer (some ⟨w.heap.size, 0, none⟩)] g 0 cap (finA bs.length) W eg hcmp hH hgs (by rw [finA_size]; omega)
 rw [finA_size] at hcon
 rw [PL]
 refine hcon.mono fun e w' ⟨he, d', m, os, hp, hso, hw⟩ => ⟨he, d'.toList.map (fun i => i.1), ?_, ?_, ?_⟩
 ·have hlen : (List.map Int.ofNat (d'.toList.map (fun i => i.1))).length = (psL bs.length).length := by
   rw [PL]
   simp [hp.1, finA_size]
  have := ownsRow_sortedI (n := m) (os := os) (cap := cap) hlen (show w.heap.size ≤ g by omega) hh hf hm hz
  rw [hw]
  unfold sortWorld
  rw [putRow_fin]
  unfold RowI
  rw [hlen]
  rw [PL] at this ⊢
  exact this
 ·unfold csOk
  rw [if_pos hs]
  exact finA_sorted bs hp hso
 ·rw [hw]
  unfold sortWorld
  rw [putRow_fin]
  exact be.grown (grownBy_sortedI _) (by have := be.size; omega) (fun k e => by injection e with e; omega)

set_option maxHeartbeats 1000000 in
theorem insertion_none (p : Option Addr) (cap : Nat) (fv : Value) (w : World) :
  Calls Tryz.prog 138 #[.slice p 0 cap, .int .i64 0, .int .i64 0, fv] w fun e w' => e = .returned (.tuple #[]) ∧ w' = w := by
 go_enter Tryz.func138, Tryz.ntmps138
 go_wp2
 refine wp_loop_rounds 1 ?_
 rw [rounds_succ]
 go_wp2
 go_end0
 exact ⟨rfl, rfl⟩
set_option maxHeartbeats 2000000 in
set_option maxRecDepth 100000 in
theorem pdq_none (p : Option Addr) (cap : Nat) (lim : Int) (fv : Value) (w : World) :
  Calls Tryz.prog 124 #[.slice p 0 cap, .int .i64 0, .int .i64 0, .int .i64 lim, fv] w fun e w' => e = .returned (.tuple #[]) ∧ w' = w := by
 go_enter Tryz.func124, Tryz.ntmps124
 go_wp2
 refine wp_loop_rounds 1 ?_
 rw [rounds_succ]
 go_wp2_with (go_at_call 138; refine (insertion_none p cap fv _).mono ?_; rintro e w' ⟨rfl, rfl⟩)
 (try simp only [Exit.inBlock, Exit.then]); refine bodyPost_ret (results_none rfl _ _ _) rfl ?_
 exact ⟨rfl, rfl⟩
set_option maxHeartbeats 1000000 in
theorem sort_none (p : Option Addr) (cap : Nat) (fv : Value) (w : World) :
  Calls Tryz.prog 105 #[.slice p 0 cap, fv] w fun e w' => e = .returned (.tuple #[]) ∧ w' = w := by
 have hl : Calls Tryz.prog 125 #[.int .u64 0] w fun e w' => e = .returned (.int .i64 (Lib.bitLen 0 : Nat)) ∧ w' = w := Any.bits_Len (SlLaysF0.n15.bits (P := Tryz.prog) (ρ := Tryz.laysSlF6_f105_ren) { Tryz.laysSlF6_f105 with }) 0 w (by omega) (by omega)
 generalize ((Lib.bitLen 0 : Nat) : Int) = L at hl
 go_enter Tryz.func105, Tryz.ntmps105
 go_wp2_with (first | (go_at_call 125; refine hl.mono ?_; rintro e w' ⟨rfl, rfl⟩) | (go_at_call 124; refine (pdq_none p cap L fv _).mono ?_; rintro e w' ⟨rfl, rfl⟩))
 go_end0
 exact ⟨rfl, rfl⟩

theorem implCurveSort (a : Option Addr) (cap : Nat) (bs : List Bx) (w : World) (h : SeesX w a cap bs) :
  Calls Tryz.prog 81 #[.slice a bs.length cap] w fun e w' => ∃ v, e = .returned v ∧ ∃ l, RowI w.heap.size w' v (List.map Int.ofNat l) ∧ csOk bs l ∧ Below w.heap.size w w' := by
 by_cases hs : bs.length ≤ 500
 ·refine implCurveSort_upto a cap bs w h hs ?_
  intro vk v4 W ST
  rcases Nat.eq_zero_or_pos bs.length with h0 | h0
  ·obtain ⟨p, c, rfl, _, _⟩ := ST.rp.shape'
   rw [psL_len, h0]
   refine (sort_none p c _ W).mono ?_
   rintro e w' ⟨rfl, rfl⟩
   have R := ST.rp
   rw [h0] at R
   refine ⟨rfl, [], row_base R (by omega), ?_, ST.be⟩
   unfold csOk
   rw [if_pos hs, h0]
   exact Srt.nil _
  ·exact sort_some bs w hs h0 vk v4 W ST
 ·have hm := h.max
  have hf := h.fits
  unfold maxLen at hm
  have CO : csOk bs [] := by unfold csOk; rw [if_neg hs]
  go_enter Tryz.func81, Tryz.ntmps81
  go_wp2
  go_ret
  exact ⟨_, rfl, [], RowI.nil _ _, CO, Below.refl _ _⟩
end Go.Proofs.YtinlomcaagdbiaaGreat
