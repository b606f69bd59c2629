/- The program's sum of bytes, and its sector of the log. -/
import Derived.Test.YtgcaemhcdpddiaaDoorSecI
import Derived.Test.YtgcaemhcdpddiaaDoorPutR
import Derived.Test.YtgcaemhcdpddiaaDoorLgW
import Derived.Test.YtgcaemhcdpddiaaDoorQuR
namespace Go.Proofs.YtgcaemhcdpddiaaDoor
open Go.RowKit

theorem xor_u32 {x : Nat} {b : Int} (hx : x < 4294967296) (h0 : 0 ≤ b) (h1 : b < 256) : bits .xor .u32 (x : Int) b = ((x ^^^ b.toNat : Nat) : Int) := by
  obtain ⟨y, rfl⟩ : ∃ y : Nat, b = (y : Int) := ⟨b.toNat, by omega⟩
  have hy : y < 256 := by omega
  have hl : x ^^^ y < 2 ^ 32 := Nat.xor_lt_two_pow (by omega) (by omega)
  show IntKind.u32.wrap ((BitVec.ofInt 32 (x : Int) ^^^ BitVec.ofInt 32 (y : Int)).toNat : Nat) = _
  rw [BitVec.toNat_xor, BitVec.toNat_ofInt, BitVec.toNat_ofInt, IntKind.wrap_u32, Int.toNat_natCast]
  have e1 : ((x : Int) % ((2 ^ 32 : Nat) : Int)).toNat = x := by omega
  have e2 : ((y : Int) % ((2 ^ 32 : Nat) : Int)).toNat = y := by omega
  rw [e1, e2]
  omega

set_option maxRecDepth 20000 in
set_option maxHeartbeats 2000000 in
theorem sumOf_any (a : Option Addr) (c : Nat) (bs : List Int) (w : World) (h : SeesB w a c bs) (h8 : ∀ x ∈ bs, 0 ≤ x ∧ x < 256) :
    Calls Tryd.prog 62 #[.slice a bs.length c] w fun e w' => e = .returned (.int .u32 (fnv bs : Nat)) ∧ w' = w := by
  have hm := h.max
  have hf := h.fits
  unfold maxLen at hm
  have HH : Hid (SeesB w a c bs) := h
  have H8 : Hid (∀ x ∈ bs, 0 ≤ x ∧ x < 256) := h8
  clear h h8
  go_enter Tryd.func62, Tryd.ntmps62
  go_wp2
  go_loopw [3, 8] (fun s3 s8 wr => ∃ (j x : Nat), j ≤ bs.length ∧ s8 = .int .i64 j ∧ s3 = .int .u32 (x : Int) ∧ Hid (x = fnv (bs.take j)) ∧ Hid (wr = w)) (fun _ s8 _ => bs.length - (intOf s8).toNat)
  case atStart => exact ⟨0, 2166136261, Nat.zero_le _, rfl, rfl, (by show _ = _; simp [fnv]), rfl⟩
  case round =>
    obtain ⟨j, x, hj, rfl, rfl, hx, hw⟩ := hrel
    rename World => wr
    have hw' := hw.out
    subst hw'
    have xl : x < 4294967296 := by rw [hx.out]; exact fnv_lt _
    by_cases hlt : j < bs.length
    · obtain ⟨b, off, rfl, hc⟩ := HH.out.cells (by intro e; rw [e] at hlt; simp at hlt)
      have g1 := hc j hlt
      have hy := H8.out (bs[j]?.getD 0) (by rw [List.getElem?_eq_getElem hlt]; exact List.getElem_mem hlt)
      have FS : Hid (fnvS x (bs[j]?.getD 0) = fnv (bs.take (j + 1))) := by
        show _ = _
        rw [List.take_add_one, List.getElem?_eq_getElem hlt]
        show _ = fnv (_ ++ [_])
        rw [fnv_snoc, ← hx.out]
        rfl
      generalize bs[j]?.getD 0 = y at *
      obtain ⟨y0, y1⟩ := hy
      clear hc hx hw
      have hxr := xor_u32 xl y0 y1
      have hxl : x ^^^ y.toNat < 4294967296 := Nat.xor_lt_two_pow (n := 32) (by omega) (by omega)
      have FD : Hid (fnvS x y = ((x ^^^ y.toNat) * 16777619) % 4294967296) := rfl
      generalize x ^^^ y.toNat = z at *
      have hwz : Hid (IntKind.u32.wrap ((z : Int) * 16777619) = ((z * 16777619 % 4294967296 : Nat) : Int)) := by show _ = _; rw [IntKind.wrap_u32]; omega
      go_wp2
      go_roundw
      case rel => exact ⟨j + 1, z * 16777619 % 4294967296, by omega, by go_num, by first | rfl | (congr 1; first | rfl | exact hwz.out | omega), (by show _ = _; rw [← FS.out, FD.out]), (by first | exact trivial | exact rfl)⟩
      case measure => simp [intOf]; omega
    · obtain rfl : j = bs.length := by omega
      rw [List.take_length] at hx
      go_wp2
      go_ret
      exact ⟨by rw [← hx.out]; rfl, rfl⟩

/-- A copy into a row of the call's own, in a block of any type. -/
theorem RowE.over {t : TypeId} {lo g c : Nat} {w : World} {bs : List Int} (h : RowE t lo w (.slice (some ⟨g, 0, none⟩) bs.length c) bs) (k : Nat) (ds : List Int) (hk : k + ds.length ≤ bs.length) :
    ∃ cur : Array Value, w.heap[g]? = some (.cells cur t (0, 0)) ∧ k + (ds.map (Value.int .u8)).length ≤ cur.size ∧ RowE t lo (w.setRow g (cur.toList.take k ++ ds.map (Value.int .u8) ++ cur.toList.drop (k + (ds.map (Value.int .u8)).length)).toArray) (.slice (some ⟨g, 0, none⟩) (over bs k ds).length c) (over bs k ds) := by
  rcases h.2 with ⟨hv, _⟩ | ⟨q, cap, cur, hv, q3, q4, q5, q6, q7, q8⟩
  · cases hv
  · injection hv with e1 e2 e3
    injection e1 with e1
    injection e1 with e1
    subst e1 e3
    rw [Nat.mul_one] at q7 q8
    have fit : k + (ds.map (Value.int .u8)).length ≤ cur.size := by rw [List.length_map]; omega
    have hcl : bs.length ≤ cur.toList.length := by have e : cur.toList.length = cur.size := Array.length_toList; omega
    refine ⟨cur, q4, fit, ?_⟩
    have L : (cur.toList.take k ++ ds.map (Value.int .u8) ++ cur.toList.drop (k + (ds.map (Value.int .u8)).length)).length = cur.size := by simp at fit ⊢; omega
    unfold RowE
    rw [over_len hk]
    refine ⟨by rw [List.length_map, over_len hk, Nat.mul_one], .inr ⟨g, c, _, rfl, q3, setRow_heap w g _ _ _ _ q4, q5, q6, by rw [Nat.mul_one]; show List.length _ = _; rw [L]; exact q7, ?_⟩⟩
    rw [Nat.mul_one]
    show List.take _ (_ ++ _ ++ _) = _
    rw [take_over cur.toList k bs.length (ds.map (Value.int .u8)) (by rw [List.length_map]; exact hk) hcl, q8]
    simp [Go.Proofs.YtgcaemhcdpddiaaDoor.over, List.map_take, List.map_drop]
theorem RowE.seesB {t : TypeId} {base : Nat} {w : World} {a : Option Addr} {cap : Nat} {bs : List Int} (h : RowE t base w (.slice a bs.length cap) bs) : SeesB w a cap bs := by
  obtain ⟨hf, hm⟩ := h.caps
  refine ⟨hf, hm, fun hn => ?_⟩
  have hp : 0 < bs.length := List.length_pos_iff.2 hn
  obtain ⟨q, rfl, _, _⟩ := h.at2 hp
  exact ⟨q, 0, rfl, fun i hi => by rw [Nat.zero_add]; exact h.at' hi⟩
/-- What a whole array has. -/
theorem RowE.whole {t : TypeId} {lo g : Nat} {w : World} {bs : List Int} (h : RowE t lo w (.slice (some ⟨g, 0, none⟩) bs.length bs.length) bs) : w.heap[g]? = some (.cells (secA bs) t (0, 0)) := by
  rcases h.2 with ⟨hv, _⟩ | ⟨q, cap, cur, hv, q3, q4, q5, q6, q7, q8⟩
  · cases hv
  · injection hv with e1 e2 e3
    injection e1 with e1
    injection e1 with e1
    subst e1 e3
    rw [Nat.mul_one] at q7 q8
    have e : cur.toList.length = cur.size := Array.length_toList
    rw [List.take_of_length_le (by omega)] at q8
    rw [q4]
    unfold secA
    rw [← q8]
theorem SeesB.keptW {w w' : World} {a : Option Addr} {cap : Nat} {bs : List Int} {row : Option Nat} (h : SeesB w a cap bs) (g : w.grownBy w' row) (ne : ∀ b off, bs ≠ [] → a = some ⟨b, off, none⟩ → row ≠ some b) : SeesB w' a cap bs :=
  ⟨h.fits, h.max, fun hn => by
    obtain ⟨b, off, ha, hc⟩ := h.cells hn
    refine ⟨b, off, ha, fun i hi => ?_⟩
    have hl : b < w.heap.size := World.block_lt_of_cell? _ _ (hc i hi)
    exact ((grown_at g hl (fun e => ne b off hn ha e.symm)).1 _).trans (hc i hi)⟩

theorem over_end (A B : List Int) (n : Nat) (_ : B.length ≤ n) : over (A ++ List.replicate n 0) A.length B = A ++ B ++ List.replicate (n - B.length) 0 := by
  unfold over
  rw [List.take_left' rfl, List.drop_append]
  rw [List.drop_eq_nil_of_le (by omega), List.drop_replicate]
  simp
theorem over_end' {A B : List Int} {n k : Nat} (hk : k = A.length) (h : B.length ≤ n) : over (A ++ List.replicate n 0) k B = A ++ B ++ List.replicate (n - B.length) 0 := by
  rw [hk]; exact over_end A B n h
theorem set_end (A : List Int) (x : Int) (n : Nat) : (A ++ List.replicate (n + 1) 0).set A.length x = A ++ [x] ++ List.replicate n 0 := by
  rw [List.set_append, if_neg (by omega), Nat.sub_self, List.replicate_succ]
  simp
theorem u64_same {x : Int} (h0 : 0 ≤ x) (h1 : x ≤ 4294967295) : IntKind.u64.wrap x = x := by rw [IntKind.wrap_u64]; omega
/-- The sector, put together step by step. -/
theorem sec_built {ep nu : Int} {m : Bool} {ps : List Int} (e0 : 0 ≤ ep) (e1 : ep ≤ 4294967295) (n0 : 0 ≤ nu) (n1 : nu ≤ 4294967295) (hp : ps.length ≤ 44) :
    over (((over (over (List.replicate 64 0) 0 (leB 4 ep)) 4 (leB 4 nu)).set 8 (if m then 1 else 2)).set 9 (ps.length : Int)) 16 ps = lgHd ep nu m ps ++ List.replicate 4 0 := by
  have l1 := leB_len 4 ep
  have l2 := leB_len 4 nu
  have s1 : over (List.replicate 64 0) 0 (leB 4 ep) = leB 4 ep ++ List.replicate 60 0 := by
    have := over_end' (A := []) (B := leB 4 ep) (n := 64) (k := 0) rfl (by omega)
    rw [l1] at this
    simpa using this
  have s2 : over (leB 4 ep ++ List.replicate 60 0) 4 (leB 4 nu) = leB 4 ep ++ leB 4 nu ++ List.replicate 56 0 := by
    have := over_end' (A := leB 4 ep) (B := leB 4 nu) (n := 60) (k := 4) l1.symm (by omega)
    rw [l2] at this
    exact this
  have s3 : ∀ x : Int, (leB 4 ep ++ leB 4 nu ++ List.replicate 56 0).set 8 x = leB 4 ep ++ leB 4 nu ++ [x] ++ List.replicate 55 0 := fun x => by
    have := set_end (leB 4 ep ++ leB 4 nu) x 55
    rw [List.length_append, l1, l2] at this
    exact this
  have s4 : ∀ x y : Int, (leB 4 ep ++ leB 4 nu ++ [x] ++ List.replicate 55 0).set 9 y = leB 4 ep ++ leB 4 nu ++ [x] ++ [y] ++ List.replicate 54 0 := fun x y => by
    have := set_end (leB 4 ep ++ leB 4 nu ++ [x]) y 54
    rw [List.length_append, List.length_append, l1, l2] at this
    exact this
  have s5 : ∀ x y : Int, over (leB 4 ep ++ leB 4 nu ++ [x] ++ [y] ++ List.replicate 54 0) 16 ps = leB 4 ep ++ leB 4 nu ++ [x] ++ [y] ++ List.replicate 6 0 ++ ps ++ List.replicate (48 - ps.length) 0 := fun x y => by
    have := over_end' (A := leB 4 ep ++ leB 4 nu ++ [x] ++ [y] ++ List.replicate 6 0) (B := ps) (n := 48) (k := 16) (by simp [l1, l2]) (by omega)
    rw [← this, List.append_assoc (leB 4 ep ++ leB 4 nu ++ [x] ++ [y]), List.replicate_append_replicate]
  rw [s1, s2, s3, s4, s5]
  unfold lgHd
  rw [u64_same e0 e1, u64_same n0 n1, show 48 - ps.length = (44 - ps.length) + 4 by omega, ← List.replicate_append_replicate]
  simp
theorem sec_done {ep nu : Int} {m : Bool} {ps : List Int} (hp : ps.length ≤ 44) : over (lgHd ep nu m ps ++ List.replicate 4 0) 60 (leB 4 ((fnv (lgHd ep nu m ps) : Nat) : Int)) = lgSec ep nu m ps := by
  have h := lgHd_len (ep := ep) (nu := nu) (more := m) hp
  rw [over_end' h.symm (by rw [leB_len]; omega), leB_len]
  unfold lgSec
  rw [u64_same (by omega) (by have := fnv_lt (lgHd ep nu m ps); omega)]
  simp
theorem sec_head {ep nu : Int} {m : Bool} {ps : List Int} (hp : ps.length ≤ 44) : (lgHd ep nu m ps ++ List.replicate 4 0).take 60 = lgHd ep nu m ps := by
  rw [List.take_append_of_le_length (by rw [lgHd_len hp]; omega), List.take_of_length_le (by rw [lgHd_len hp]; omega)]

set_option maxRecDepth 20000 in
set_option maxHeartbeats 4000000 in
theorem sector_any (ep nu : Int) (m : Bool) (ad : Addr) (c : Nat) (ps : List Int) (w : World) (h : SeesB w (some ad) c ps) (hp : ps.length ≤ 44) (h8 : ∀ x ∈ ps, 0 ≤ x ∧ x < 256) (e0 : 0 ≤ ep) (e1 : ep ≤ 4294967295) (n0 : 0 ≤ nu) (n1 : nu ≤ 4294967295) :
    Calls Tryd.prog 53 #[.agg #[.int .i64 ep, .int .i64 nu, .int .u8 (if m then 1 else 2), .slice (some ad) ps.length c]] w fun e w' => e = .returned (.agg (secA (lgSec ep nu m ps))) ∧ Below w.heap.size w w' := by
  have hm := h.max
  have hf := h.fits
  unfold maxLen at hm
  have HSL : Hid ((lgSec ep nu m ps).length = 64) := lgSec_len hp
  have HB1 := sec_built (m := m) e0 e1 n0 n1 hp
  have HB2 := sec_done (ep := ep) (nu := nu) (m := m) hp
  have HB3 := sec_head (ep := ep) (nu := nu) (m := m) hp
  have HH8 : Hid (∀ x ∈ lgHd ep nu m ps, 0 ≤ x ∧ x < 256) := lgHd_u8 hp h8
  have FL : (fnv (lgHd ep nu m ps)) < 4294967296 := fnv_lt _
  have HHL : Hid ((lgHd ep nu m ps).length = 60) := lgHd_len hp
  have SPB : Hid (∀ b off, ps ≠ [] → some ad = some (⟨b, off, none⟩ : Addr) → b < w.heap.size) := fun b off hn e => by
    obtain ⟨b', off', e', hc⟩ := h.cells hn
    rw [e'] at e
    injection e with e
    injection e with e
    subst e
    exact World.block_lt_of_cell? _ _ (hc 0 (List.length_pos_iff.2 hn))
  obtain ⟨mk, hmk⟩ : ∃ mk : Int, Hid ((if m then 1 else 2) = mk) := ⟨_, rfl⟩
  rw [hmk.out] at HB1 ⊢
  generalize lgSec ep nu m ps = S9 at *
  generalize lgHd ep nu m ps = H9 at *
  have HK1 : Hid (_ = _) := HB1
  have HK2 : Hid (_ = _) := HB2
  have HK3 : Hid (_ = _) := HB3
  clear HB1 HB2 HB3 h8
  have b1 := below1 w (.cells #[.int .i64 ep, .int .i64 nu, .int .u8 mk, .slice (some ad) ps.length c] 87)
  have V := Box4.new w (lo := w.heap.size) (Nat.le_refl _) (.int .i64 ep) (.int .i64 nu) (.int .u8 mk) (.slice (some ad) ps.length c) 87
  generalize hWa : w.alloc (.cells #[.int .i64 ep, .int .i64 nu, .int .u8 mk, .slice (some ad) ps.length c] 87) = Wa at *
  have za : Wa.heap.size = w.heap.size + 1 := by rw [← hWa]; simp
  have b2 := below2 Wa (.cells nil64 81) (.cells nil64 81)
  have G1 : ((Wa.alloc (.cells nil64 81)).alloc (.cells nil64 81)).heap[w.heap.size + 1]? = some (.cells nil64 81 (0, 0)) := by
    rw [← za]
    exact (heap_alloc_old (Wa.alloc (.cells nil64 81)) (.cells nil64 81) (by simp)).trans (heap_alloc_new Wa (.cells nil64 81))
  have G2 : ((Wa.alloc (.cells nil64 81)).alloc (.cells nil64 81)).heap[w.heap.size + 2]? = some (.cells nil64 81 (0, 0)) := by
    have := heap_alloc_new (Wa.alloc (.cells nil64 81)) (.cells nil64 81)
    rw [show (Wa.alloc (.cells nil64 81)).heap.size = w.heap.size + 2 by simp; omega] at this
    exact this
  replace V := V.below b2
  have B := b1.trans (b2.mono b1.size)
  have SZ : w.heap.size + 3 ≤ ((Wa.alloc (.cells nil64 81)).alloc (.cells nil64 81)).heap.size := by simp; omega
  have SP : SeesB ((Wa.alloc (.cells nil64 81)).alloc (.cells nil64 81)) (some ad) c ps := h.below B
  have AR : RowE 81 w.heap.size ((Wa.alloc (.cells nil64 81)).alloc (.cells nil64 81)) (.slice (some ⟨w.heap.size + 2, 0, none⟩) (List.replicate 64 (0 : Int)).length 64) (List.replicate 64 0) :=
    ⟨rfl, .inr ⟨w.heap.size + 2, 64, nil64, rfl, by omega, G2, Nat.le_refl _, by unfold maxLen; omega, rfl, rfl⟩⟩
  have AL : Hid ((List.replicate 64 (0 : Int)).length = 64) := rfl
  clear b1 b2 G2 h
  go_enter Tryd.func53, Tryd.ntmps53
  go_upto_region 2 with fail
  rw [lit64, show w.heap.size + 1 + 1 = w.heap.size + 2 from rfl]
  clear hWa
  generalize (Wa.alloc (.cells nil64 81)).alloc (.cells nil64 81) = W0 at *
  clear za
  have HEB : Hid (0 ≤ ep ∧ ep ≤ 4294967295 ∧ 0 ≤ nu ∧ nu ≤ 4294967295) := ⟨e0, e1, n0, n1⟩
  have we : IntKind.u32.wrap ep = ep := by rw [IntKind.wrap_u32]; omega
  have wn : IntKind.u32.wrap nu = nu := by rw [IntKind.wrap_u32]; omega
  have bd := ((Below.refl W0.heap.size W0).drew : Below W0.heap.size W0 _)
  replace V := V.below bd
  replace AR := AR.below bd
  replace G1 := (bd.block (w.heap.size + 1) (by omega)).trans G1
  replace SP := SP.below bd
  replace B := B.trans (bd.mono B.size)
  replace SZ : w.heap.size + 3 ≤ W0.drew.heap.size := Nat.le_trans SZ bd.size
  refine wp_region_held_drew (S := fun W => Box4 w.heap.size W w.heap.size (.int .i64 ep) (.int .i64 nu) (.int .u8 mk) (.slice (some ad) ps.length c)) (by kernel_rfl) V (fun hHeld => ?_)
  clear hHeld bd
  revert V AR G1 SP B SZ
  generalize W0.drew = ww0
  intro V AR G1 SP B SZ
  refine takeW (i := 0) (by simp only [List.getElem?_toArray, List.getElem?_cons_zero]; exact rfl) (by kernel_rfl) (by kernel_rfl) (by kernel_rfl) (by exact fun _ _ _ h => h) (by rfl) (by intro wq hSw; go_simp <;> with_reducible rfl) (by assumption) ?_
  try simp only [Act.put, List.setIfInBounds_toArray, List.set_cons_zero, List.set_cons_succ]
  refine takeW (i := 1) (by simp only [List.getElem?_toArray, List.getElem?_cons_succ, List.getElem?_cons_zero]; exact rfl) (by kernel_rfl) (by kernel_rfl) (by kernel_rfl) (by exact fun _ _ _ h => h) (by rfl) (by intro wq hSw; go_simp <;> with_reducible rfl) (by assumption) ?_
  try simp only [Act.put, List.setIfInBounds_toArray, List.set_cons_zero, List.set_cons_succ]
  refine takeW (i := 2) (by simp only [List.getElem?_toArray, List.getElem?_cons_succ, List.getElem?_cons_zero]; exact rfl) (by kernel_rfl) (by kernel_rfl) (by kernel_rfl) (by exact fun _ _ _ h => h) (by rfl) (by intro wq hSw; obtain ⟨p0, p1, p2, p3, _, _⟩ := hSw; go_simp <;> with_reducible rfl) (by assumption) ?_
  try simp only [Act.put, List.setIfInBounds_toArray, List.set_cons_zero, List.set_cons_succ]
  refine takeW (i := 3) (by simp only [List.getElem?_toArray, List.getElem?_cons_succ, List.getElem?_cons_zero]; exact rfl) (by kernel_rfl) (by kernel_rfl) (by kernel_rfl) (by exact fun _ _ _ h => h) (by rfl) (by intro wq hSw; go_simp <;> with_reducible rfl) (by assumption) ?_
  try simp only [Act.put, List.setIfInBounds_toArray, List.set_cons_zero, List.set_cons_succ]
  refine wpAnyH_ready (rs := [4]) (by kernel_rfl) (by simp) (AllReadyH.cons (by simp only [List.getElem?_toArray, List.getElem?_cons_succ, List.getElem?_cons_zero]; exact rfl) (fun K9 hK => ?_) AllReadyH.nil)
  go_simp
  refine (putNumber32 ww0.heap.size (.slice none 0 0) [] ep ww0 (RowB.nil _ _) (Nat.le_refl _) (by simp) (by omega) (by omega)).mono ?_
  rintro e ww1 ⟨u1, rfl, R1, X1⟩
  have hb := X1.below rfl
  rw [List.nil_append] at R1
  have d1L : Hid ((leB 4 ep).length = 4) := leB_len _ _
  obtain ⟨q1, c1, rfl, q1l, q1h⟩ := R1.shape (ne_of_len d1L.out (by omega))
  clear X1
  replace V := V.below hb
  replace AR := AR.below hb
  replace G1 := (hb.block (w.heap.size + 1) (by omega)).trans G1
  replace SP := SP.below hb
  replace SZ : w.heap.size + 3 ≤ ww1.heap.size := Nat.le_trans SZ hb.size
  replace B := B.trans (hb.mono B.size)
  refine hK.out _ _ V (fun hHeld => ?_)
  clear hK K9 hHeld hb
  try simp only [Act.put, List.setIfInBounds_toArray, List.set_cons_zero, List.set_cons_succ]
  refine wpAnyH_ready (rs := [5]) (by kernel_rfl) (by simp) (AllReadyH.cons (by simp only [List.getElem?_toArray, List.getElem?_cons_succ, List.getElem?_cons_zero]; exact rfl) (fun K9 hK => ?_) AllReadyH.nil)
  obtain ⟨cur, hcur, fit, RO⟩ := RowE.over (t := 81) AR 0 (leB 4 ep) (by have := AL.out; have := d1L.out; omega)
  have hcl : ((leB 4 ep).map (Value.int .u8)).length = (leB 4 ep).length := List.length_map ..
  have gq := grownBy_setRow ww1 (w.heap.size + 2) (cur.toList.take 0 ++ (leB 4 ep).map (Value.int .u8) ++ cur.toList.drop (0 + ((leB 4 ep).map (Value.int .u8)).length)).toArray
  refine wp_copy_at (.tmp 4) (.tmp 8) 22 22 rfl 5 Tryd.underlying22 infoU8 (w.heap.size + 2) 0 64 64 ⟨q1, 0, none⟩ (leB 4 ep).length c1 rfl rfl cur 81 hcur ((leB 4 ep).map (Value.int .u8)) (by rw [hcl]; have := d1L.out; exact (Nat.min_eq_left (by omega)).symm) R1.news fit (ones8 _) ?_
  replace V := V.grownW gq (by intro e; injection e with e; omega)
  replace G1 := (setRow_other ww1 (w.heap.size + 2) (w.heap.size + 1) (cur.toList.take 0 ++ (leB 4 ep).map (Value.int .u8) ++ cur.toList.drop (0 + ((leB 4 ep).map (Value.int .u8)).length)).toArray (by omega)).trans G1
  replace SP := SP.keptW gq (fun b' o' hn e q => by have := SPB.out b' o' hn e; injection q with q; omega)
  replace SZ : w.heap.size + 3 ≤ _ := Nat.le_trans SZ gq.size
  replace B := B.grown gq B.size (fun k hk => by injection hk with hk; omega)
  replace AR := RO
  replace AL : Hid ((over (List.replicate 64 (0 : Int)) 0 (leB 4 ep)).length = 64) := by show _ = _; rw [over_len (by have := AL.out; have := d1L.out; omega)]; exact AL.out
  generalize ww1.setRow (w.heap.size + 2) (cur.toList.take 0 ++ (leB 4 ep).map (Value.int .u8) ++ cur.toList.drop (0 + ((leB 4 ep).map (Value.int .u8)).length)).toArray = ww2 at *
  refine hK.out _ _ V (fun hHeld => ?_)
  clear hK K9 hHeld gq hcur fit RO hcl
  try simp only [Act.put, List.setIfInBounds_toArray, List.set_cons_zero, List.set_cons_succ]
  refine wpAnyH_done (by kernel_rfl) ?_ _
  go_upto_region 3 with fail
  clear R1
  have bd := ((Below.refl ww2.heap.size ww2).drew : Below ww2.heap.size ww2 _)
  replace V := V.below bd
  replace AR := AR.below bd
  replace G1 := (bd.block (w.heap.size + 1) (by omega)).trans G1
  replace SP := SP.below bd
  replace B := B.trans (bd.mono B.size)
  replace SZ : w.heap.size + 3 ≤ ww2.drew.heap.size := Nat.le_trans SZ bd.size
  refine wp_region_held_drew (S := fun W => Box4 w.heap.size W w.heap.size (.int .i64 ep) (.int .i64 nu) (.int .u8 mk) (.slice (some ad) ps.length c)) (by kernel_rfl) V (fun hHeld => ?_)
  clear hHeld bd
  revert V AR G1 SP B SZ
  generalize ww2.drew = ww3
  intro V AR G1 SP B SZ
  refine takeW (i := 0) (by simp only [List.getElem?_toArray, List.getElem?_cons_zero]; exact rfl) (by kernel_rfl) (by kernel_rfl) (by kernel_rfl) (by exact fun _ _ _ h => h) (by rfl) (by intro wq hSw; go_simp <;> with_reducible rfl) (by assumption) ?_
  try simp only [Act.put, List.setIfInBounds_toArray, List.set_cons_zero, List.set_cons_succ]
  refine takeW (i := 1) (by simp only [List.getElem?_toArray, List.getElem?_cons_succ, List.getElem?_cons_zero]; exact rfl) (by kernel_rfl) (by kernel_rfl) (by kernel_rfl) (by exact fun _ _ _ h => h) (by rfl) (by intro wq hSw; go_simp <;> with_reducible rfl) (by assumption) ?_
  try simp only [Act.put, List.setIfInBounds_toArray, List.set_cons_zero, List.set_cons_succ]
  refine takeW (i := 2) (by simp only [List.getElem?_toArray, List.getElem?_cons_succ, List.getElem?_cons_zero]; exact rfl) (by kernel_rfl) (by kernel_rfl) (by kernel_rfl) (by exact fun _ _ _ h => h) (by rfl) (by intro wq hSw; obtain ⟨p0, p1, p2, p3, _, _⟩ := hSw; go_simp <;> with_reducible rfl) (by assumption) ?_
  try simp only [Act.put, List.setIfInBounds_toArray, List.set_cons_zero, List.set_cons_succ]
  refine takeW (i := 3) (by simp only [List.getElem?_toArray, List.getElem?_cons_succ, List.getElem?_cons_zero]; exact rfl) (by kernel_rfl) (by kernel_rfl) (by kernel_rfl) (by exact fun _ _ _ h => h) (by rfl) (by intro wq hSw; go_simp <;> with_reducible rfl) (by assumption) ?_
  try simp only [Act.put, List.setIfInBounds_toArray, List.set_cons_zero, List.set_cons_succ]
  refine wpAnyH_ready (rs := [4]) (by kernel_rfl) (by simp) (AllReadyH.cons (by simp only [List.getElem?_toArray, List.getElem?_cons_succ, List.getElem?_cons_zero]; exact rfl) (fun K9 hK => ?_) AllReadyH.nil)
  go_simp
  refine (putNumber32 ww3.heap.size (.slice none 0 0) [] nu ww3 (RowB.nil _ _) (Nat.le_refl _) (by simp) (by omega) (by omega)).mono ?_
  rintro e ww4 ⟨u2, rfl, R2, X1⟩
  have hb := X1.below rfl
  rw [List.nil_append] at R2
  have d2L : Hid ((leB 4 nu).length = 4) := leB_len _ _
  obtain ⟨q2, c2, rfl, q2l, q2h⟩ := R2.shape (ne_of_len d2L.out (by omega))
  clear X1
  replace V := V.below hb
  replace AR := AR.below hb
  replace G1 := (hb.block (w.heap.size + 1) (by omega)).trans G1
  replace SP := SP.below hb
  replace SZ : w.heap.size + 3 ≤ ww4.heap.size := Nat.le_trans SZ hb.size
  replace B := B.trans (hb.mono B.size)
  refine hK.out _ _ V (fun hHeld => ?_)
  clear hK K9 hHeld hb
  try simp only [Act.put, List.setIfInBounds_toArray, List.set_cons_zero, List.set_cons_succ]
  refine wpAnyH_ready (rs := [5]) (by kernel_rfl) (by simp) (AllReadyH.cons (by simp only [List.getElem?_toArray, List.getElem?_cons_succ, List.getElem?_cons_zero]; exact rfl) (fun K9 hK => ?_) AllReadyH.nil)
  obtain ⟨cur, hcur, fit, RO⟩ := RowE.over (t := 81) AR 4 (leB 4 nu) (by have := AL.out; have := d2L.out; omega)
  have hcl : ((leB 4 nu).map (Value.int .u8)).length = (leB 4 nu).length := List.length_map ..
  have gq := grownBy_setRow ww4 (w.heap.size + 2) (cur.toList.take 4 ++ (leB 4 nu).map (Value.int .u8) ++ cur.toList.drop (4 + ((leB 4 nu).map (Value.int .u8)).length)).toArray
  refine wp_copy_at (.tmp 10) (.tmp 14) 22 22 rfl 5 Tryd.underlying22 infoU8 (w.heap.size + 2) 4 60 60 ⟨q2, 0, none⟩ (leB 4 nu).length c2 rfl rfl cur 81 hcur ((leB 4 nu).map (Value.int .u8)) (by rw [hcl]; have := d2L.out; exact (Nat.min_eq_left (by omega)).symm) R2.news fit (ones8 _) ?_
  replace V := V.grownW gq (by intro e; injection e with e; omega)
  replace G1 := (setRow_other ww4 (w.heap.size + 2) (w.heap.size + 1) (cur.toList.take 4 ++ (leB 4 nu).map (Value.int .u8) ++ cur.toList.drop (4 + ((leB 4 nu).map (Value.int .u8)).length)).toArray (by omega)).trans G1
  replace SP := SP.keptW gq (fun b' o' hn e q => by have := SPB.out b' o' hn e; injection q with q; omega)
  replace SZ : w.heap.size + 3 ≤ _ := Nat.le_trans SZ gq.size
  replace B := B.grown gq B.size (fun k hk => by injection hk with hk; omega)
  replace AR := RO
  replace AL : Hid ((over (over (List.replicate 64 (0 : Int)) 0 (leB 4 ep)) 4 (leB 4 nu)).length = 64) := by show _ = _; rw [over_len (by have := AL.out; have := d2L.out; omega)]; exact AL.out
  generalize ww4.setRow (w.heap.size + 2) (cur.toList.take 4 ++ (leB 4 nu).map (Value.int .u8) ++ cur.toList.drop (4 + ((leB 4 nu).map (Value.int .u8)).length)).toArray = ww5 at *
  refine hK.out _ _ V (fun hHeld => ?_)
  clear hK K9 hHeld gq hcur fit RO hcl
  try simp only [Act.put, List.setIfInBounds_toArray, List.set_cons_zero, List.set_cons_succ]
  refine wpAnyH_done (by kernel_rfl) ?_ _
  go_upto_region 4 with fail
  clear R2
  generalize hD2 : (over (over (List.replicate 64 (0 : Int)) 0 (leB 4 ep)) 4 (leB 4 nu)) = D2 at *
  have c8 := AR.at' (j := 8) (by have := AL.out; omega)
  have f8 : ww5.frozen? ⟨w.heap.size + 2, 8, none⟩ = false := AR.frozenAt 8
  have AR3 := AR.put 8 mk
  have g8 := grownBy_setCell (grownBy_refl ww5 (some (w.heap.size + 2))) (p := ⟨w.heap.size + 2, 8, none⟩) rfl (.int .u8 mk)
  have V3 := V.grownW g8 (by intro e; injection e with e; omega)
  have G3 := (g8.block (w.heap.size + 1) (by omega) (by intro e; injection e with e; omega)).trans G1
  have SP3 := SP.keptW g8 (fun b' o' hn e q => by have := SPB.out b' o' hn e; injection q with q; omega)
  have SZ3 : w.heap.size + 3 ≤ _ := Nat.le_trans SZ g8.size
  have B3 := B.grown g8 B.size (fun k hk => by injection hk with hk; omega)
  replace AL : Hid ((D2.set 8 mk).length = 64) := by show _ = _; rw [List.length_set]; exact AL.out
  obtain ⟨x0, x1, x2, x3, xf, _⟩ := id V
  clear V G1 SP SZ B AR g8
  go_upto_region 5 with fail
  clear x0 x1 x2 x3 xf c8 f8
  generalize ww5.setCell ⟨w.heap.size + 2, 8, none⟩ (.int .u8 mk) = ww6 at *
  generalize hD3 : D2.set 8 mk = D3 at *
  have c9 := AR3.at' (j := 9) (by have := AL.out; omega)
  have f9 : ww6.frozen? ⟨w.heap.size + 2, 9, none⟩ = false := AR3.frozenAt 9
  have AR := AR3.put 9 (ps.length : Int)
  have g8 := grownBy_setCell (grownBy_refl ww6 (some (w.heap.size + 2))) (p := ⟨w.heap.size + 2, 9, none⟩) rfl (.int .u8 (ps.length : Int))
  have V := V3.grownW g8 (by intro e; injection e with e; omega)
  have G1 := (g8.block (w.heap.size + 1) (by omega) (by intro e; injection e with e; omega)).trans G3
  have SP := SP3.keptW g8 (fun b' o' hn e q => by have := SPB.out b' o' hn e; injection q with q; omega)
  have SZ : w.heap.size + 3 ≤ _ := Nat.le_trans SZ3 g8.size
  have B := B3.grown g8 B3.size (fun k hk => by injection hk with hk; omega)
  replace AL : Hid ((D3.set 9 (ps.length : Int)).length = 64) := by show _ = _; rw [List.length_set]; exact AL.out
  obtain ⟨x0, x1, x2, x3, xf, _⟩ := id V3
  have wl : IntKind.u8.wrap (ps.length : Int) = (ps.length : Int) := by rw [wrap_u8]; omega
  clear V3 G3 SP3 SZ3 B3 AR3 g8
  go_upto_region 6 with fail
  clear x0 x1 x2 x3 xf c9 f9
  generalize ww6.setCell ⟨w.heap.size + 2, 9, none⟩ (.int .u8 (ps.length : Int)) = ww7 at *
  generalize hD4 : D3.set 9 (ps.length : Int) = D4 at *
  have bd := ((Below.refl ww7.heap.size ww7).drew : Below ww7.heap.size ww7 _)
  replace V := V.below bd
  replace AR := AR.below bd
  replace G1 := (bd.block (w.heap.size + 1) (by omega)).trans G1
  replace SP := SP.below bd
  replace B := B.trans (bd.mono B.size)
  replace SZ : w.heap.size + 3 ≤ ww7.drew.heap.size := Nat.le_trans SZ bd.size
  refine wp_region_held_drew (S := fun W => Box4 w.heap.size W w.heap.size (.int .i64 ep) (.int .i64 nu) (.int .u8 mk) (.slice (some ad) ps.length c)) (by kernel_rfl) V (fun hHeld => ?_)
  clear hHeld bd
  revert V AR G1 SP B SZ
  generalize ww7.drew = ww8
  intro V AR G1 SP B SZ
  refine takeW (i := 0) (by simp only [List.getElem?_toArray, List.getElem?_cons_zero]; exact rfl) (by kernel_rfl) (by kernel_rfl) (by kernel_rfl) (by exact fun _ _ _ h => h) (by rfl) (by intro wq hSw; go_simp <;> with_reducible rfl) (by assumption) ?_
  try simp only [Act.put, List.setIfInBounds_toArray, List.set_cons_zero, List.set_cons_succ]
  refine takeW (i := 1) (by simp only [List.getElem?_toArray, List.getElem?_cons_succ, List.getElem?_cons_zero]; exact rfl) (by kernel_rfl) (by kernel_rfl) (by kernel_rfl) (by exact fun _ _ _ h => h) (by rfl) (by intro wq hSw; go_simp <;> with_reducible rfl) (by assumption) ?_
  try simp only [Act.put, List.setIfInBounds_toArray, List.set_cons_zero, List.set_cons_succ]
  refine takeW (i := 2) (by simp only [List.getElem?_toArray, List.getElem?_cons_succ, List.getElem?_cons_zero]; exact rfl) (by kernel_rfl) (by kernel_rfl) (by kernel_rfl) (by exact fun _ _ _ h => h) (by rfl) (by intro wq hSw; obtain ⟨p0, p1, p2, p3, _, _⟩ := hSw; go_simp <;> with_reducible rfl) (by assumption) ?_
  try simp only [Act.put, List.setIfInBounds_toArray, List.set_cons_zero, List.set_cons_succ]
  refine wpAnyH_ready (rs := [3]) (by kernel_rfl) (by simp) (AllReadyH.cons (by simp only [List.getElem?_toArray, List.getElem?_cons_succ, List.getElem?_cons_zero]; exact rfl) (fun K9 hK => ?_) AllReadyH.nil)
  obtain ⟨cur, hcur, fit, RO⟩ := RowE.over (t := 81) AR 16 ps (by have := AL.out; have := hp; omega)
  have hcl : (ps.map (Value.int .u8)).length = ps.length := List.length_map ..
  have gq := grownBy_setRow ww8 (w.heap.size + 2) (cur.toList.take 16 ++ ps.map (Value.int .u8) ++ cur.toList.drop (16 + (ps.map (Value.int .u8)).length)).toArray
  refine wp_copy_at (.tmp 24) (.tmp 26) 22 22 rfl 5 Tryd.underlying22 infoU8 (w.heap.size + 2) 16 48 48 ad ps.length c rfl rfl cur 81 hcur (ps.map (Value.int .u8)) (by rw [hcl]; have := hp; exact (Nat.min_eq_left (by omega)).symm) SP.newsA fit (ones8 _) ?_
  replace V := V.grownW gq (by intro e; injection e with e; omega)
  replace G1 := (setRow_other ww8 (w.heap.size + 2) (w.heap.size + 1) (cur.toList.take 16 ++ ps.map (Value.int .u8) ++ cur.toList.drop (16 + (ps.map (Value.int .u8)).length)).toArray (by omega)).trans G1
  replace SP := SP.keptW gq (fun b' o' hn e q => by have := SPB.out b' o' hn e; injection q with q; omega)
  replace SZ : w.heap.size + 3 ≤ _ := Nat.le_trans SZ gq.size
  replace B := B.grown gq B.size (fun k hk => by injection hk with hk; omega)
  replace AR := RO
  replace AL : Hid ((over D4 16 ps).length = 64) := by show _ = _; rw [over_len (by have := AL.out; have := hp; omega)]; exact AL.out
  generalize ww8.setRow (w.heap.size + 2) (cur.toList.take 16 ++ ps.map (Value.int .u8) ++ cur.toList.drop (16 + (ps.map (Value.int .u8)).length)).toArray = ww9 at *
  refine hK.out _ _ V (fun hHeld => ?_)
  clear hK K9 hHeld gq hcur fit RO hcl
  try simp only [Act.put, List.setIfInBounds_toArray, List.set_cons_zero, List.set_cons_succ]
  refine wpAnyH_done (by kernel_rfl) ?_ _
  go_upto_region 7 with fail
  rw [HK1.out] at AR AL
  clear hD4 hD3 hD2 HK1
  generalize hE9 : H9 ++ List.replicate 4 0 = E9 at *
  have HA : Hid (∀ W, RowE 81 w.heap.size W (.slice (some ⟨w.heap.size + 2, 0, none⟩) E9.length 64) E9 → SeesB W (some ⟨w.heap.size + 2, 0, none⟩) 64 H9) := fun W q => by
    have := q.seesB.part (i := 0) (n := 60) (by have := AL.out; omega)
    rw [List.drop_zero, HK3.out] at this
    exact this
  have bd := ((Below.refl ww9.heap.size ww9).drew : Below ww9.heap.size ww9 _)
  replace V := V.below bd
  replace AR := AR.below bd
  replace G1 := (bd.block (w.heap.size + 1) (by omega)).trans G1
  replace SP := SP.below bd
  replace B := B.trans (bd.mono B.size)
  replace SZ : w.heap.size + 3 ≤ ww9.drew.heap.size := Nat.le_trans SZ bd.size
  refine wp_region_held_drew (S := fun W => Box4 w.heap.size W w.heap.size (.int .i64 ep) (.int .i64 nu) (.int .u8 mk) (.slice (some ad) ps.length c)) (by kernel_rfl) V (fun hHeld => ?_)
  clear hHeld bd
  revert V AR G1 SP B SZ
  generalize ww9.drew = wa0
  intro V AR G1 SP B SZ
  refine takeW (i := 0) (by simp only [List.getElem?_toArray, List.getElem?_cons_zero]; exact rfl) (by kernel_rfl) (by kernel_rfl) (by kernel_rfl) (by exact fun _ _ _ h => h) (by rfl) (by intro wq hSw; go_simp <;> with_reducible rfl) (by assumption) ?_
  try simp only [Act.put, List.setIfInBounds_toArray, List.set_cons_zero, List.set_cons_succ]
  refine takeW (i := 1) (by simp only [List.getElem?_toArray, List.getElem?_cons_succ, List.getElem?_cons_zero]; exact rfl) (by kernel_rfl) (by kernel_rfl) (by kernel_rfl) (by exact fun _ _ _ h => h) (by rfl) (by intro wq hSw; go_simp <;> with_reducible rfl) (by assumption) ?_
  try simp only [Act.put, List.setIfInBounds_toArray, List.set_cons_zero, List.set_cons_succ]
  refine wpAnyH_ready (rs := [2]) (by kernel_rfl) (by simp) (AllReadyH.cons (by simp only [List.getElem?_toArray, List.getElem?_cons_succ, List.getElem?_cons_zero]; exact rfl) (fun K9 hK => ?_) AllReadyH.nil)
  go_simp
  have SA := sumOf_any _ 64 H9 wa0 (HA.out _ AR) HH8.out
  rw [HHL.out] at SA
  refine SA.mono ?_
  rintro e wa1 ⟨rfl, rfl⟩
  refine hK.out _ _ V (fun hHeld => ?_)
  clear hK K9 hHeld SA
  try simp only [Act.put, List.setIfInBounds_toArray, List.set_cons_zero, List.set_cons_succ]
  refine wpAnyH_ready (rs := [3]) (by kernel_rfl) (by simp) (AllReadyH.cons (by simp only [List.getElem?_toArray, List.getElem?_cons_succ, List.getElem?_cons_zero]; exact rfl) (fun K9 hK => ?_) AllReadyH.nil)
  go_simp
  refine (putNumber32 wa1.heap.size (.slice none 0 0) [] ((fnv H9 : Nat) : Int) wa1 (RowB.nil _ _) (Nat.le_refl _) (by simp) (by omega) (by omega)).mono ?_
  rintro e wa2 ⟨u3, rfl, R3, X1⟩
  have hb := X1.below rfl
  rw [List.nil_append] at R3
  have d3L : Hid ((leB 4 ((fnv H9 : Nat) : Int)).length = 4) := leB_len _ _
  obtain ⟨q3, c3, rfl, q3l, q3h⟩ := R3.shape (ne_of_len d3L.out (by omega))
  clear X1
  replace V := V.below hb
  replace AR := AR.below hb
  replace G1 := (hb.block (w.heap.size + 1) (by omega)).trans G1
  replace SP := SP.below hb
  replace SZ : w.heap.size + 3 ≤ wa2.heap.size := Nat.le_trans SZ hb.size
  replace B := B.trans (hb.mono B.size)
  refine hK.out _ _ V (fun hHeld => ?_)
  clear hK K9 hHeld hb
  try simp only [Act.put, List.setIfInBounds_toArray, List.set_cons_zero, List.set_cons_succ]
  refine wpAnyH_ready (rs := [4]) (by kernel_rfl) (by simp) (AllReadyH.cons (by simp only [List.getElem?_toArray, List.getElem?_cons_succ, List.getElem?_cons_zero]; exact rfl) (fun K9 hK => ?_) AllReadyH.nil)
  obtain ⟨cur, hcur, fit, RO⟩ := RowE.over (t := 81) AR 60 (leB 4 ((fnv H9 : Nat) : Int)) (by have := AL.out; have := d3L.out; omega)
  have hcl : ((leB 4 ((fnv H9 : Nat) : Int)).map (Value.int .u8)).length = (leB 4 ((fnv H9 : Nat) : Int)).length := List.length_map ..
  have gq := grownBy_setRow wa2 (w.heap.size + 2) (cur.toList.take 60 ++ (leB 4 ((fnv H9 : Nat) : Int)).map (Value.int .u8) ++ cur.toList.drop (60 + ((leB 4 ((fnv H9 : Nat) : Int)).map (Value.int .u8)).length)).toArray
  refine wp_copy_at (.tmp 28) (.tmp 31) 22 22 rfl 5 Tryd.underlying22 infoU8 (w.heap.size + 2) 60 4 4 ⟨q3, 0, none⟩ (leB 4 ((fnv H9 : Nat) : Int)).length c3 rfl rfl cur 81 hcur ((leB 4 ((fnv H9 : Nat) : Int)).map (Value.int .u8)) (by rw [hcl]; have := d3L.out; exact (Nat.min_eq_left (by omega)).symm) R3.news fit (ones8 _) ?_
  replace V := V.grownW gq (by intro e; injection e with e; omega)
  replace G1 := (setRow_other wa2 (w.heap.size + 2) (w.heap.size + 1) (cur.toList.take 60 ++ (leB 4 ((fnv H9 : Nat) : Int)).map (Value.int .u8) ++ cur.toList.drop (60 + ((leB 4 ((fnv H9 : Nat) : Int)).map (Value.int .u8)).length)).toArray (by omega)).trans G1
  replace SP := SP.keptW gq (fun b' o' hn e q => by have := SPB.out b' o' hn e; injection q with q; omega)
  replace SZ : w.heap.size + 3 ≤ _ := Nat.le_trans SZ gq.size
  replace B := B.grown gq B.size (fun k hk => by injection hk with hk; omega)
  replace AR := RO
  replace AL : Hid ((over E9 60 (leB 4 ((fnv H9 : Nat) : Int))).length = 64) := by show _ = _; rw [over_len (by have := AL.out; have := d3L.out; omega)]; exact AL.out
  generalize wa2.setRow (w.heap.size + 2) (cur.toList.take 60 ++ (leB 4 ((fnv H9 : Nat) : Int)).map (Value.int .u8) ++ cur.toList.drop (60 + ((leB 4 ((fnv H9 : Nat) : Int)).map (Value.int .u8)).length)).toArray = wa3 at *
  refine hK.out _ _ V (fun hHeld => ?_)
  clear hK K9 hHeld gq hcur fit RO hcl
  try simp only [Act.put, List.setIfInBounds_toArray, List.set_cons_zero, List.set_cons_succ]
  refine wpAnyH_done (by kernel_rfl) ?_ _
  go_upto_region 8 with fail
  rw [HK2.out] at AR AL
  have AR2 : RowE 81 w.heap.size wa3 (.slice (some ⟨w.heap.size + 2, 0, none⟩) S9.length S9.length) S9 := by have := AL.out; rw [this] at AR ⊢; exact AR
  have g3 := AR2.whole
  have hsz : (secA S9).size = 64 := by rw [secA_size]; exact HSL.out
  have h1 : (secA S9).all (·.oneCell') = true := by
    rw [Array.all_eq_true_iff_forall_mem]
    intro v hv
    exact ones8 S9 v (by simpa [secA] using hv)
  have gq := grownBy_setRow wa3 (w.heap.size + 1) (secA S9)
  have g4 := setRow_heap wa3 (w.heap.size + 1) _ (secA S9) _ _ G1
  replace B := B.grown gq B.size (fun k hk => by injection hk with hk; omega)
  clear gq V SP R3 AR AR2
  go_wp2_with (first
    | (refine wpList_load_row rfl 81 (.tmp 3) rfl (w.heap.size + 2) rfl 81 (secA S9) (0, 0) _ g3 Tryd.underlying81 rfl (by rw [hsz]; exact infoSec) ?_)
    | (refine wpList_store_row rfl 81 (.tmp 2) (.tmp 33) rfl (w.heap.size + 1) (secA S9) rfl rfl 81 nil64 G1 (by rw [hsz]; exact infoSec) (by rw [hsz]; rfl) h1 ?_))
  exact bodyPost_ret (results_cell_row rfl _ _ (w.heap.size + 1) 81 (secA S9) (0, 0) _ rfl g4 Tryd.underlying81 rfl (by rw [hsz]; exact infoSec)) rfl ⟨rfl, B⟩
end Go.Proofs.YtgcaemhcdpddiaaDoor
