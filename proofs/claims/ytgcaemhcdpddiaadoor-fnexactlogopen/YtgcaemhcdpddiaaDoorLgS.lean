import Derived.Test.YtgcaemhcdpddiaaDoorBase
import Derived.Test.YtgcaemhcdpddiaaDoorDkS
import Derived.Lib.AppendZerosOnto
import Derived.Maps.AppendAt
/- The log, the specification's side: the sum, the room, whether it is a log. -/
namespace Go.Proofs.YtgcaemhcdpddiaaDoor
open Go.RowKit

/-- One byte more in the sum. -/
def fnvS (x : Nat) (b : Int) : Nat := ((x ^^^ b.toNat) * 16777619) % 4294967296
/-- The sum of bytes. -/
def fnv (bs : List Int) : Nat := bs.foldl fnvS 2166136261
theorem fnvS_lt (x : Nat) (b : Int) : fnvS x b < 4294967296 := Nat.mod_lt _ (by omega)
theorem foldl_snoc1 (f : Nat → Int → Nat) (x : Nat) (bs : List Int) (b : Int) : (bs ++ [b]).foldl f x = f (bs.foldl f x) b := by simp
theorem fnv_snoc (bs : List Int) (b : Int) : fnv (bs ++ [b]) = fnvS (fnv bs) b := foldl_snoc1 fnvS 2166136261 bs b
theorem foldl_fnv_lt : ∀ (bs : List Int) (x : Nat), x < 4294967296 → bs.foldl fnvS x < 4294967296
  | [], _, h => h
  | b :: bs, x, _ => foldl_fnv_lt bs _ (fnvS_lt x b)
theorem fnv_lt (bs : List Int) : fnv bs < 4294967296 := foldl_fnv_lt bs 2166136261 (by omega)
theorem xor_u64 {x : Nat} {b : Int} (hx : x < 4294967296) (h0 : 0 ≤ b) (h1 : b < 256) : bits .xor .u64 (x : Int) b = ((x ^^^ b.toNat : Nat) : Int) := by
  obtain ⟨y, rfl⟩ : ∃ y : Nat, b = (y : Int) := ⟨b.toNat, by omega⟩
  have hy : y < 256 := by omega
  have hl : x ^^^ y < 2 ^ 32 := Nat.xor_lt_two_pow (by omega) (by omega)
  show IntKind.u64.wrap ((BitVec.ofInt 64 (x : Int) ^^^ BitVec.ofInt 64 (y : Int)).toNat : Nat) = _
  rw [BitVec.toNat_xor, BitVec.toNat_ofInt, BitVec.toNat_ofInt, IntKind.wrap_u64, Int.toNat_natCast]
  have e1 : ((x : Int) % ((2 ^ 64 : Nat) : Int)).toNat = x := by omega
  have e2 : ((y : Int) % ((2 ^ 64 : Nat) : Int)).toNat = y := by omega
  rw [e1, e2]
  omega

set_option maxRecDepth 20000 in
set_option maxHeartbeats 2000000 in
theorem l12Sum_any (a : Option Addr) (c : Nat) (bs : List Int) (w : World) (h : SeesB w a c bs) (h8 : ∀ x ∈ bs, 0 ≤ x ∧ x < 256) :
    Calls Tryd.prog 41 #[.slice a bs.length c] w fun e w' => e = .returned (.int .i64 (fnv bs : Nat)) ∧ w' = w := by
  have hm := h.max
  have hf := h.fits
  unfold maxLen at hm
  have HH : Hid (SeesB w a c bs) := h
  have H8 : Hid (∀ x ∈ bs, 0 ≤ x ∧ x < 256) := h8
  clear h h8
  go_enter Tryd.func41, Tryd.ntmps41
  go_wp2
  go_loopw [3, 4] (fun s3 s4 wr => ∃ (j x : Nat), j ≤ bs.length ∧ s4 = .int .i64 j ∧ s3 = .int .u64 (x : Int) ∧ Hid (x = fnv (bs.take j)) ∧ Hid (wr = w)) (fun _ s4 _ => bs.length - (intOf s4).toNat)
  case atStart => exact ⟨0, 2166136261, Nat.zero_le _, rfl, rfl, (by show _ = _; simp [fnv]), rfl⟩
  case round =>
    obtain ⟨j, x, hj, rfl, rfl, hx, hw⟩ := hrel
    rename World => wr
    have hw' := hw.out
    subst hw'
    have xl : x < 4294967296 := by rw [hx.out]; exact fnv_lt _
    by_cases hlt : j < bs.length
    · obtain ⟨b, off, rfl, hc⟩ := HH.out.cells (by intro e; rw [e] at hlt; simp at hlt)
      have g1 := hc j hlt
      have hy := H8.out (bs[j]?.getD 0) (by rw [List.getElem?_eq_getElem hlt]; exact List.getElem_mem hlt)
      have FS : Hid (fnvS x (bs[j]?.getD 0) = fnv (bs.take (j + 1))) := by
        show _ = _
        rw [List.take_add_one, List.getElem?_eq_getElem hlt]
        show _ = fnv (_ ++ [_])
        rw [fnv_snoc, ← hx.out]
        rfl
      generalize bs[j]?.getD 0 = y at *
      obtain ⟨y0, y1⟩ := hy
      clear hc hx hw
      have hxr := xor_u64 xl y0 y1
      have hxl : x ^^^ y.toNat < 4294967296 := Nat.xor_lt_two_pow (n := 32) (by omega) (by omega)
      have FD : Hid (fnvS x y = ((x ^^^ y.toNat) * 16777619) % 4294967296) := rfl
      generalize x ^^^ y.toNat = z at *
      have hwz : IntKind.u64.wrap ((z : Int) * 16777619) = (z : Int) * 16777619 := by rw [IntKind.wrap_u64]; omega
      have htm : ((z : Int) * 16777619).tmod 4294967296 = ((z * 16777619 % 4294967296 : Nat) : Int) := by rw [Int.tmod_eq_emod_of_nonneg (by omega)]; omega
      go_wp2
      go_roundw
      case rel => exact ⟨j + 1, z * 16777619 % 4294967296, by omega, by go_num, by first | rfl | (congr 1), (by show _ = _; rw [← FS.out, FD.out]), (by first | exact trivial | exact rfl)⟩
      case measure => simp [intOf]; omega
    · obtain rfl : j = bs.length := by omega
      rw [List.take_length] at hx
      have hw64 : wrap64 (x : Int) = (x : Int) := by unfold wrap64; omega
      go_wp2
      go_ret
      exact ⟨by rw [← hx.out]; rfl, rfl⟩

/-- The room behind a log's end. -/
def lgRoom (F L N : Int) : Int := if wrap64 (wrap64 (wrap64 (L - F) + 1) - N) < 0 then 0 else wrap64 (wrap64 (wrap64 (L - F) + 1) - N)
end Go.Proofs.YtgcaemhcdpddiaaDoor

/- Noughts put behind a row of bytes of the call's own: append(s, make([]byte, k)...). No program. -/
namespace Go.Proofs.YtgcaemhcdpddiaaDoor
open Go.RowKit

theorem zeroCells1 (x : Value) (k : Nat) : Builtin.zeroCells #[x] k = (List.replicate k x).toArray := by
  apply Array.ext
  · simp [Builtin.zeroCells]
  · intro i h1 h2
    simp [Builtin.zeroCells, Nat.mod_one]

theorem run_zeros {P : Program} (w : World) (base : Nat) (t tn ty e : TypeId) (i : TypeInfo) (kq kn : IntKind) (ht : P.underlying t = some (.slice e)) (htn : P.underlying tn = some (.int kn)) (hi : P.info? e = some i) (hz : i.zero = some (.int .u8 0))
    (hsize : i.size = 1) (hby : i.bytes = 1) (g n cap : Nat) (xs : List Value) (hown : w.ownsRow base e 1 (.slice (some ⟨g, 0, none⟩) n cap) n xs) (k : Nat) (hk : n + k ≤ 1000000) (hbase : base ≤ w.heap.size) :
    ∃ v' w', (Builtin.append_ #[t, tn] ty #[.slice (some ⟨g, 0, none⟩) n cap, .int kq k]).run P w = .ok v' w' ∧ w'.ownsRow base e 1 v' (n + k) (xs ++ List.replicate k (.int .u8 0)) ∧ w.grownBy w' (some g) ∧ (v'.ownBlock = some g ∨ v'.ownBlock = some w.heap.size) := by
  have hw : IntKind.i64.wrap (k : Int) = k := by rw [IntKind.wrap_i64]; omega
  have hneg : ¬ ((k : Int) < 0) := by omega
  have h48i : ¬ (281474976710656 < (k : Int)) := by omega
  have hZ : (Value.int .u8 0).cells = #[.int .u8 0] := rfl
  have hlen : (xs ++ List.replicate k (Value.int .u8 0)).length = (n + k) * 1 := by rw [List.length_append, hown.1]; simp
  obtain ⟨_, h2⟩ := id hown
  rcases h2 with ⟨hv, _⟩ | ⟨g', cap', cur, hv, hbg, hg, hnc, hcm, hcs, htake⟩
  · cases hv
  · injection hv with e1 e2 e3
    injection e1 with e1
    injection e1 with e1
    subst e1 e3
    by_cases hroom : n + k ≤ cap
    · have hst := run_storeCells_at P g n e (List.replicate k (Value.int .u8 0)) 0 cur w hg (by simp; omega) (by intro u hu; rw [(List.mem_replicate.1 hu).2]; rfl)
      simp only [Nat.add_zero] at hst
      refine ⟨.slice (some ⟨g, 0, none⟩) (n + k) cap, w.setRow g (cur.toList.take n ++ List.replicate k (Value.int .u8 0) ++ cur.toList.drop (n + (List.replicate k (Value.int .u8 0)).length)).toArray, ?_, ⟨hlen, .inr ⟨g, cap, _, rfl, hbg, setRow_heap w g cur _ e _ hg, hroom, hcm, ?_, ?_⟩⟩, ⟨rfl, rfl, rfl, by simp, fun j _ hj => setRow_other w g j _ (fun e => hj (by rw [e]))⟩, .inl rfl⟩
      · by_cases k0 : k = 0
        · subst k0
          simp only [List.replicate_zero] at hst
          simp [Builtin.append_, run_underlying ht, run_underlying htn, sizeOf, typeInfo, zeroValue, hi, hz, hsize, hby, asInt, asIntOf, IntKind.wrap_i64, hnc, Addr.add_lit, hst]
        · simp [Builtin.append_, run_underlying ht, run_underlying htn, sizeOf, typeInfo, zeroValue, hi, hz, hsize, hby, asInt, asIntOf, hw, hneg, h48i, hroom, k0, hZ, zeroCells1, Addr.add_lit, hst]
      · simp only [List.size_toArray, List.length_append, List.length_take, List.length_drop, Array.length_toList, List.length_replicate]
        omega
      · have ht2 : cur.toList.take n = xs := by simpa using htake
        rw [ht2, ← hlen]
        exact List.take_left
    · have k0 : 0 < k := by omega
      have holds : ∀ j u, xs[j]? = some u → w.drew.cell? ((⟨g, 0, none⟩ : Addr).add j) = some u := hown.cells (g := g) rfl
      have hf := run_firstCells_some (P := P) w.drew i.size n ⟨g, 0, none⟩ n cap xs (by rw [hsize]; exact hown.1) holds
      have hr := Lib.run_append_grow_zeros (P := P) w t tn ty e i _ kq kn ht htn hi hz (some ⟨g, 0, none⟩) n cap xs hf k k0 (by omega) (by omega) (by omega) (by rw [hby]; omega) (growslice_fits (by omega) (by rw [hby]; omega))
      rw [hZ, zeroCells1] at hr
      refine ⟨_, _, hr, ⟨hlen, .inr ⟨w.heap.size, _, _, rfl, hbase, heap_alloc_new w.drew _, grownCap_ge w (n + k) cap e, grownCap_le_maxLen w (n + k) cap e (by unfold maxLen; omega), ?_, ?_⟩⟩, ⟨rfl, rfl, rfl, by simp, fun j hj _ => heap_alloc_old w.drew _ hj⟩, .inr rfl⟩
      · have hge := grownCap_ge w (n + k) cap e
        have := hown.1
        simp only [Array.size_append, List.size_toArray, List.length_replicate, size_zeroCells]
        simp
        omega
      · simp only [Array.toList_append, List.append_assoc]
        rw [← List.append_assoc, ← hlen]
        exact List.take_left
end Go.Proofs.YtgcaemhcdpddiaaDoor

/- What is put behind a row of bytes that is not empty: bytes that are seen, noughts. -/
namespace Go.Proofs.YtgcaemhcdpddiaaDoor
open Go.RowKit

theorem two_new8 (w : World) (e : TypeId) (y z : Int) : ∀ j u, ([y, z].map (Value.int .u8))[j]? = some u → (w.alloc (.cells #[.int .u8 y, .int .u8 z] e)).cell? ((⟨w.heap.size, 0, none⟩ : Addr).add j) = some u := by
  intro j u hu
  match j, hu with
  | 0, hu =>
    simp at hu
    subst hu
    exact cell_new w #[.int .u8 y, .int .u8 z] e 0 rfl
  | 1, hu =>
    simp at hu
    subst hu
    exact cell_new w #[.int .u8 y, .int .u8 z] e 1 rfl
  | j + 2, hu => simp at hu

/-- Two bytes in a new block. -/
theorem sees_two (w : World) (e : TypeId) (y z : Int) : SeesB (w.alloc (.cells #[.int .u8 y, .int .u8 z] e)) (some ⟨w.heap.size, 0, none⟩) 2 [y, z] := by
  refine ⟨Nat.le_refl _, by unfold maxLen; omega, fun _ => ⟨w.heap.size, 0, rfl, fun i hi => ?_⟩⟩
  match i, hi with
  | 0, _ => exact cell_new w #[.int .u8 y, .int .u8 z] e 0 rfl
  | 1, _ => exact cell_new w #[.int .u8 y, .int .u8 z] e 1 rfl

set_option maxRecDepth 20000 in
theorem appB {base : Nat} {w : World} {v : Value} {bs ds : List Int} {a : Option Addr} {c : Nat} (h : RowB base w v bs) (hne : bs ≠ []) (hd : SeesB w a c ds) (hl : bs.length + ds.length ≤ 1000000) (hb : base ≤ w.heap.size) :
    ∃ v' w', (Builtin.append_ #[22, 22] 22 #[v, .slice a ds.length c]).run Tryd.prog w = .ok v' w' ∧ RowB base w' v' (bs ++ ds) ∧ w.grownBy w' v.ownBlock ∧ (v'.ownBlock = v.ownBlock ∨ v'.ownBlock = some w.heap.size) := by
  obtain ⟨i8, hi8, hy0, hy1, hy2⟩ := info_parts infoB
  cases a with
  | some ad =>
    have news : ∀ j u, (ds.map (Value.int .u8))[j]? = some u → w.cell? (ad.add j) = some u := by
      intro j u hu
      have hj : j < ds.length := by
        have := (List.getElem?_eq_some_iff.mp hu).1
        simpa using this
      obtain ⟨b, off, e, hc⟩ := hd.cells (by intro e; rw [e] at hj; simp at hj)
      injection e with e
      subst e
      rw [Addr.add_lit, hc j hj]
      rw [List.getElem?_map, List.getElem?_eq_getElem hj] at hu
      rw [List.getElem?_eq_getElem hj]
      exact hu
    obtain ⟨v', w', hr, R, G, -, A⟩ := run_append_own_at (P := Tryd.prog) w base 22 22 5 i8 (.int .u8 0) 1 1 Tryd.underlying22 hi8 hy0 hy1 hy2 rfl (by decide) v bs.length (bs.map (Value.int .u8)) h ad ds.length c (ds.map (Value.int .u8)) (by simp) news (ones8 _) (by unfold maxLen; omega) (by omega) hb
    exact ⟨v', w', hr, RowB.app R, G, A⟩
  | none =>
    obtain rfl : ds = [] := by
      rcases ds with _ | ⟨d, ds⟩
      · rfl
      · obtain ⟨b, off, e, _⟩ := hd.cells (by simp)
        cases e
    obtain ⟨q, cap, rfl, -, -⟩ := h.shape hne
    obtain ⟨hf, -⟩ := h.caps
    obtain ⟨hl2, h2⟩ := id h
    rcases h2 with ⟨hv, _⟩ | ⟨g', cap', cur, hv, hbg, hg, hnc, hcm, hcs, htake⟩
    · cases hv
    · refine ⟨_, w, ?_, by rw [List.append_nil]; exact h, grownBy_refl _ _, .inl rfl⟩
      simp [Builtin.append_, run_underlying (P := Tryd.prog) Tryd.underlying22, sizeOf, typeInfo, hi8, Builtin.lenOf, hf, run_firstCells_none, Addr.add_lit, storeCells]

set_option maxRecDepth 20000 in
/-- The same behind any row, where what is put lies somewhere. -/
theorem appS {base : Nat} {w : World} {v : Value} {bs ds : List Int} {ad : Addr} {c : Nat} (h : RowB base w v bs) (hd : SeesB w (some ad) c ds) (hl : bs.length + ds.length ≤ 1000000) (hb : base ≤ w.heap.size) :
    ∃ v' w', (Builtin.append_ #[22, 22] 22 #[v, .slice (some ad) ds.length c]).run Tryd.prog w = .ok v' w' ∧ RowB base w' v' (bs ++ ds) ∧ w.grownBy w' v.ownBlock ∧ (v'.ownBlock = v.ownBlock ∨ v'.ownBlock = some w.heap.size) := by
  obtain ⟨i8, hi8, hy0, hy1, hy2⟩ := info_parts infoB
  have news : ∀ j u, (ds.map (Value.int .u8))[j]? = some u → w.cell? (ad.add j) = some u := by
    intro j u hu
    have hj : j < ds.length := by
      have := (List.getElem?_eq_some_iff.mp hu).1
      simpa using this
    obtain ⟨b, off, e, hc⟩ := hd.cells (by intro e; rw [e] at hj; simp at hj)
    injection e with e
    subst e
    rw [Addr.add_lit, hc j hj]
    rw [List.getElem?_map, List.getElem?_eq_getElem hj] at hu
    rw [List.getElem?_eq_getElem hj]
    exact hu
  obtain ⟨v', w', hr, R, G, -, A⟩ := run_append_own_at (P := Tryd.prog) w base 22 22 5 i8 (.int .u8 0) 1 1 Tryd.underlying22 hi8 hy0 hy1 hy2 rfl (by decide) v bs.length (bs.map (Value.int .u8)) h ad ds.length c (ds.map (Value.int .u8)) (by simp) news (ones8 _) (by unfold maxLen; omega) (by omega) hb
  exact ⟨v', w', hr, RowB.app R, G, A⟩
/-- A part of bytes that are seen. -/
theorem SeesB.part {w : World} {b off c : Nat} {bs : List Int} (h : SeesB w (some ⟨b, off, none⟩) c bs) {i n : Nat} (hi : i + n ≤ bs.length) : SeesB w (some ⟨b, off + i, none⟩) (c - i) ((bs.drop i).take n) := by
  have hl : ((bs.drop i).take n).length = n := by rw [List.length_take, List.length_drop]; omega
  have := h.fits
  have := h.max
  refine ⟨by rw [hl]; omega, by omega, fun hne => ⟨b, off + i, rfl, fun j hj => ?_⟩⟩
  rw [hl] at hj
  obtain ⟨b', off', e, hc⟩ := h.cells (by intro e; rw [e] at hi; simp at hi; omega)
  injection e with e
  injection e with e1 e2
  subst e1 e2
  rw [Nat.add_assoc, hc (i + j) (by omega), List.getElem?_take_of_lt hj, List.getElem?_drop]

set_option maxRecDepth 20000 in
theorem appZ {base : Nat} {w : World} {v : Value} {bs : List Int} (h : RowB base w v bs) (hne : bs ≠ []) (k : Nat) (hl : bs.length + k ≤ 1000000) (hb : base ≤ w.heap.size) :
    ∃ v' w', (Builtin.append_ #[22, 3] 22 #[v, .int .i64 k]).run Tryd.prog w = .ok v' w' ∧ RowB base w' v' (bs ++ List.replicate k 0) ∧ w.grownBy w' v.ownBlock ∧ (v'.ownBlock = v.ownBlock ∨ v'.ownBlock = some w.heap.size) := by
  obtain ⟨i8, hi8, hy0, hy1, hy2⟩ := info_parts infoB
  obtain ⟨q, cap, rfl, -, -⟩ := h.shape hne
  obtain ⟨v', w', hr, R, G, A⟩ := run_zeros (P := Tryd.prog) w base 22 3 22 5 i8 .i64 .i64 Tryd.underlying22 Tryd.underlying3 hi8 hy0 hy1 hy2 q bs.length cap (bs.map (Value.int .u8)) h k hl hb
  refine ⟨v', w', hr, ?_, G, A⟩
  unfold RowB
  rw [List.map_append, List.length_append, List.map_replicate, List.length_replicate]
  exact R
end Go.Proofs.YtgcaemhcdpddiaaDoor
