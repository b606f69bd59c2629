/- Rows of pointers to nodes; a node's kids, of the program ((*Node).kidsOf). -/
import Derived.Test.YtdkhaghcnijilaaGreatTrL
import Derived.Test.YtdkhaghcnijilaaGreatOwns
import Derived.Laws.AppendOwnNone
namespace Go.Proofs.YtdkhaghcnijilaaGreat
open Go.RowKit

/-- Where a pointer points to. -/
abbrev Ptr := Nat × Nat
def ptV (q : Ptr) : Value := .pointer (some ⟨q.1, q.2, none⟩)
def ptAt (qs : List Ptr) (i : Nat) : Ptr := qs[i]?.getD (0, 0)
theorem infoTp : (Tryz.prog.info? 93).map (fun i => (i.zero, i.size, i.bytes)) = some (some (.pointer none), 1, 8) := by kernel_rfl
/-- Pointers in a row of a call's own. -/
def RowTp (base : Nat) (w : World) (v : Value) (qs : List Ptr) : Prop := w.ownsRow base 93 1 v qs.length (qs.map ptV)
theorem onesTp (qs : List Ptr) : ∀ u ∈ qs.map ptV, u.oneCell' = true := by
  intro u hu
  obtain ⟨y, _, rfl⟩ := List.mem_map.1 hu
  rfl
theorem one_newTp (w : World) (e : TypeId) (b o : Nat) : ∀ j u, ([((b, o) : Ptr)].map ptV)[j]? = some u → (w.alloc (.cells #[.pointer (some ⟨b, o, none⟩)] e)).cell? ((⟨w.heap.size, 0, none⟩ : Addr).add j) = some u := by
  intro j u hu
  cases j with
  | zero =>
    simp [ptV] at hu
    subst hu
    exact cell_new w #[.pointer (some ⟨b, o, none⟩)] e 0 rfl
  | succ j => simp at hu
theorem RowTp.nil (base : Nat) (w : World) : RowTp base w (.slice none 0 0) [] := ⟨rfl, .inl ⟨rfl, rfl⟩⟩
theorem RowTp.snoc {base : Nat} {w : World} {v : Value} {qs : List Ptr} {q : Ptr} (h : w.ownsRow base 93 1 v (qs.length + 1) (qs.map ptV ++ [q].map ptV)) : RowTp base w v (qs ++ [q]) := by
  unfold RowTp
  rw [List.map_append, List.length_append]
  exact h
theorem RowTp.below {base : Nat} {w w' : World} {v : Value} {qs : List Ptr} (h : RowTp base w v qs) (hb : Below w.heap.size w w') : RowTp base w' v qs := owns_below h hb
/-- Pointers that lie in memory, one behind the other. -/
structure SeesTp (w : World) (a : Option Addr) (cap : Nat) (qs : List Ptr) : Prop where
  fits : qs.length ≤ cap
  max : cap ≤ maxLen
  cells : qs ≠ [] → ∃ b off, a = some ⟨b, off, none⟩ ∧ ∀ i, i < qs.length → w.cell? ⟨b, off + i, none⟩ = some (ptV (ptAt qs i))
theorem SeesTp.below {w w' : World} {a : Option Addr} {cap : Nat} {qs : List Ptr} (h : SeesTp w a cap qs) (hb : Below w.heap.size w w') : SeesTp w' a cap qs :=
  ⟨h.fits, h.max, fun hn => by
    obtain ⟨b, off, ha, hc⟩ := h.cells hn
    exact ⟨b, off, ha, fun i hi => bat hb (hc i hi)⟩⟩
theorem RowTp.sees {base : Nat} {w : World} {v : Value} {qs : List Ptr} (h : RowTp base w v qs) : ∃ a cap, v = .slice a qs.length cap ∧ SeesTp w a cap qs ∧ From base qs.length a := by
  rcases h.2 with ⟨hv, h0⟩ | ⟨g, cap', cur, hv, hb, hh, hf, hm, hs, ht⟩
  · exact ⟨none, 0, by rw [hv, h0], ⟨by omega, by simp [maxLen], fun hn => absurd (List.eq_nil_of_length_eq_zero h0) hn⟩, fun b off e => by cases e⟩
  · refine ⟨_, cap', hv, ⟨hf, hm, fun _ => ⟨g, 0, rfl, fun i hi => ?_⟩⟩, fun b off e _ => by injection e with e; injection e with e; omega⟩
    have hk : (qs.map ptV)[i]? = some (ptV (ptAt qs i)) := by
      rw [List.getElem?_map, List.getElem?_eq_getElem hi]
      unfold ptAt
      rw [List.getElem?_eq_getElem hi]
      rfl
    rw [← ht] at hk
    rw [List.getElem?_take_of_lt (by omega)] at hk
    rw [Nat.zero_add]
    exact (cell_of_row w g i _ _ _ hh).trans (by simpa using hk)
/-- There is the tree, its rows from a block on. -/
def NdPt (w : World) (q : Ptr) (lo : Nat) (t : Nd) : Prop := Plain w q.1 ∧ ∃ v1 v2 v3, Sev w q.1 q.2 t.b v1 v2 v3 ∧ NdUp w lo t v1 v2 v3
/-- The pointers point to a tree's kids. -/
def KidsAt (w : World) (lo : Nat) (qs : List Ptr) (ks : List Nd) : Prop := qs.length = ks.length ∧ ∀ i, i < ks.length → lo ≤ (ptAt qs i).1 ∧ NdPt w (ptAt qs i) ((ptAt qs i).1 + 1) (ndA ks i)
theorem ptAt_snoc (qs : List Ptr) (q : Ptr) (i : Nat) : ptAt (qs ++ [q]) i = if i = qs.length then q else ptAt qs i := by
  unfold ptAt
  by_cases h : i = qs.length
  · subst h; simp
  · rw [if_neg h]
    rcases Nat.lt_or_ge i qs.length with c | c
    · rw [List.getElem?_append_left c]
    · rw [List.getElem?_append_right c, List.getElem?_eq_none (l := qs) c]
      rw [List.getElem?_eq_none (by simp; omega)]

set_option maxRecDepth 20000 in
set_option maxHeartbeats 4000000 in
theorem kidsOf_any {w0 : World} (p o lo : Nat) (t : Nd) (v1 v2 v3 : Value) (w : World) (S : Sev w p o t.b v1 v2 v3) (N : NdUp w0 lo t v1 v2 v3) (hs : t.ks.length ≤ 1048576) :
    Calls Tryz.prog 65 #[.pointer (some ⟨p, o, none⟩)] w fun e w' => ∃ v qs, e = .returned v ∧ RowTp w.heap.size w' v qs ∧ KidsAt w0 lo qs t.ks ∧ Below w.heap.size w w' := by
  obtain ⟨a1, c1, a2, c2, a3, c3, rfl, rfl, rfl, _, _, _, _, K⟩ := N.open
  obtain ⟨iX, hiX, hx0, hx1, hx2⟩ := info_parts infoTp
  have R0 := RowTp.nil w.heap.size w
  have hf := K.fits
  have hm := K.max
  unfold maxLen at hm
  have c6 := S.c6
  generalize t.ks = ks at *
  go_enter Tryz.func65, Tryz.ntmps65
  go_wp2
  go_loopw [3, 4, 10] (fun s3 _ s10 wr => ∃ (j : Nat) (qs : List Ptr), j ≤ ks.length ∧ s10 = .int .i64 j ∧ Hid (qs.length = j) ∧ Hid (∀ i, i < j → lo ≤ (ptAt qs i).1 ∧ NdPt w0 (ptAt qs i) ((ptAt qs i).1 + 1) (ndA ks i)) ∧ Hid (RowTp w.heap.size wr s3 qs) ∧ Below w.heap.size w wr) (fun _ _ s10 _ => ks.length - (intOf s10).toNat)
  case atStart => exact ⟨0, [], Nat.zero_le _, rfl, rfl, (fun i hi => absurd hi (by omega)), R0, Below.refl _ _⟩
  case round =>
    clear R0
    obtain ⟨j, qs, hj, rfl, L, A, RR, B⟩ := hrel
    rename World => wr
    by_cases hlt : j < ks.length
    · obtain ⟨p3, o3, rfl, hpl, hc⟩ := K.cells (by intro e; simp [e] at hlt)
      obtain ⟨u1, u2, u3', SK, NK⟩ := hc j hlt
      have f3 := K.frm p3 o3 rfl (by omega)
      have A2 : Hid (∀ i, i < j + 1 → lo ≤ (ptAt (qs ++ [(p3, o3 + j * 7)]) i).1 ∧ NdPt w0 (ptAt (qs ++ [(p3, o3 + j * 7)]) i) ((ptAt (qs ++ [(p3, o3 + j * 7)]) i).1 + 1) (ndA ks i)) := fun i hi => by
        rw [ptAt_snoc, L.out]
        by_cases e : i = j
        · subst e
          rw [if_pos rfl]
          exact ⟨f3, hpl, u1, u2, u3', SK, NK⟩
        · rw [if_neg e]
          exact A.out i (by omega)
      have k6 := bat B c6
      have hb := below1 wr (.cells #[.pointer (some ⟨p3, o3 + j * 7, none⟩)] 93)
      have NW := one_newTp wr 93 p3 (o3 + j * 7)
      have R2 : RowTp w.heap.size (wr.alloc (.cells #[.pointer (some ⟨p3, o3 + j * 7, none⟩)] 93)) _ qs := RR.out.below hb
      have hl' : qs.length ≤ 1048576 := by have := L.out; omega
      have B3 := B.trans (hb.mono B.size)
      have hz : w.heap.size ≤ (wr.alloc (.cells #[.pointer (some ⟨p3, o3 + j * 7, none⟩)] 93)).heap.size := B3.size
      clear RR hb B A SK NK hc
      go_wp2_with (at_builtin; refine wpList_append_own_at _ rfl (.tmp 13) (.tmp 20) 100 rfl w.heap.size 93 iX (.pointer none) 1 8 Tryz.underlying100 hiX hx0 hx1 hx2 rfl (by decide) u3 qs.length (qs.map ptV) rfl R2 ⟨wr.heap.size, 0, none⟩ 1 _ ([((p3, o3 + j * 7) : Ptr)].map ptV) rfl rfl NW (onesTp _) (by unfold maxLen; omega) (by omega) hz ?_; intro v7 w7 R8 G7 nil7 _; replace R8 := RowTp.snoc R8; clear nil7)
      have B8 := B3.grown G7 B3.size (fun k e => (World.ownsRow.lt R2 _ e).1)
      go_roundw
      case rel => exact ⟨j + 1, _, by omega, by go_num, (by show _ = _; rw [List.length_append, List.length_singleton, L.out]), A2, R8, B8⟩
      case measure => simp [intOf]; omega
    · obtain rfl : j = ks.length := by omega
      have F : Hid (KidsAt w0 lo qs ks) := ⟨L.out, A.out⟩
      clear A L
      go_wp2
      go_ret
      exact ⟨_, qs, rfl, RR.out, F.out, B⟩
end Go.Proofs.YtdkhaghcnijilaaGreat
