/- The program's sectors: bytes as an array. -/
import Derived.Test.YtgcaemhcdpddiaaDoorDkY
import Derived.Deep.WholeRow
namespace Go.Proofs.YtgcaemhcdpddiaaDoor
open Go.RowKit

/-- A sector's bytes, as a value. -/
def secA (ds : List Int) : Array Value := (ds.map (Value.int .u8)).toArray
theorem secA_size {ds : List Int} : (secA ds).size = ds.length := by simp [secA]
theorem infoSec : (Tryd.prog.info? 81).map (·.size) = some 64 := by kernel_rfl
theorem infoU8 : (Tryd.prog.info? 5).map (·.size) = some 1 := by kernel_rfl

/-- Noughts. -/
def nil64 : Array Value := (List.replicate 64 (Value.int .u8 0)).toArray
theorem nil64_size : nil64.size = 64 := rfl
theorem lit64 : (#[.int .u8 0, .int .u8 0, .int .u8 0, .int .u8 0, .int .u8 0, .int .u8 0, .int .u8 0, .int .u8 0, .int .u8 0, .int .u8 0, .int .u8 0, .int .u8 0, .int .u8 0, .int .u8 0, .int .u8 0, .int .u8 0, .int .u8 0, .int .u8 0, .int .u8 0, .int .u8 0, .int .u8 0, .int .u8 0, .int .u8 0, .int .u8 0, .int .u8 0, .int .u8 0, .int .u8 0, .int .u8 0, .int .u8 0, .int .u8 0, .int .u8 0, .int .u8 0, .int .u8 0, .int .u8 0, .int .u8 0, .int .u8 0, .int .u8 0, .int .u8 0, .int .u8 0, .int .u8 0, .int .u8 0, .int .u8 0, .int .u8 0, .int .u8 0, .int .u8 0, .int .u8 0, .int .u8 0, .int .u8 0, .int .u8 0, .int .u8 0, .int .u8 0, .int .u8 0, .int .u8 0, .int .u8 0, .int .u8 0, .int .u8 0, .int .u8 0, .int .u8 0, .int .u8 0, .int .u8 0, .int .u8 0, .int .u8 0, .int .u8 0, .int .u8 0] : Array Value) = nil64 := rfl

set_option maxRecDepth 20000 in
set_option maxHeartbeats 2000000 in
theorem sectorOf_any (a : Option Addr) (c : Nat) (ds : List Int) (w : World) (h : SeesB w a c ds) (hl : ds.length = 64) :
    Calls Tryd.prog 50 #[.slice a 64 c] w fun e w' => e = .returned (.agg (secA ds)) ∧ Below w.heap.size w w' := by
  have hsz : (secA ds).size = 64 := by rw [secA_size]; exact hl
  have h1 : (secA ds).all (·.oneCell') = true := by
    rw [Array.all_eq_true_iff_forall_mem]
    intro v hv
    exact ones8 ds v (by simpa [secA] using hv)
  have HS : Hid (SeesB w a c ds) := h
  have hne : ds ≠ [] := by intro e; rw [e] at hl; simp at hl
  obtain ⟨b, off, rfl, -⟩ := h.cells hne
  clear h
  go_enter Tryd.func50, Tryd.ntmps50
  go_upto_region 2 with fail
  rw [lit64]
  have hb0 : Below w.heap.size w (w.alloc (.cells nil64 81)) := below1 _ _
  have hb1 := hb0.trans ((below1 (w.alloc (.cells nil64 81)) (.cells nil64 81)).mono hb0.size)
  have g0 : Hid (((w.alloc (.cells nil64 81)).alloc (.cells nil64 81)).heap[w.heap.size]? = some (.cells nil64 81 (0, 0))) := (heap_alloc_old (w.alloc (.cells nil64 81)) (.cells nil64 81) (by simp)).trans (heap_alloc_new w (.cells nil64 81))
  have g1 : Hid (((w.alloc (.cells nil64 81)).alloc (.cells nil64 81)).heap[w.heap.size + 1]? = some (.cells nil64 81 (0, 0))) := (by have := heap_alloc_new (w.alloc (.cells nil64 81)) (.cells nil64 81); rw [show (w.alloc (.cells nil64 81)).heap.size = w.heap.size + 1 by simp] at this; exact this)
  have s1 : Hid (SeesB ((w.alloc (.cells nil64 81)).alloc (.cells nil64 81)) (some ⟨b, off, none⟩) c ds) := HS.out.below hb1
  generalize (w.alloc (.cells nil64 81)).alloc (.cells nil64 81) = W at *
  clear hb0
  have sn := s1.out.newsB
  have ce : (nil64.toList.take 0 ++ ds.map (Value.int .u8) ++ nil64.toList.drop (0 + (ds.map (Value.int .u8)).length)).toArray = secA ds := by
    have : nil64.toList.drop (0 + (ds.map (Value.int .u8)).length) = [] := List.drop_eq_nil_of_le (by rw [List.length_map, hl]; exact Nat.le_refl _)
    rw [this]
    simp [secA]
  go_upto_region 3 with (refine wpList_plain rfl fun _ hK => wp_copy_at (.tmp 4) (.tmp 5) 22 22 rfl 5 Tryd.underlying22 infoU8 (w.heap.size + 1) 0 64 64 ⟨b, off, none⟩ 64 c rfl rfl nil64 81 g1.out (ds.map (Value.int .u8)) (by rw [List.length_map, hl]; rfl) sn (by rw [List.length_map, hl, nil64_size]; exact Nat.le_refl _) (ones8 _) (hK _ _ ?_))
  rw [ce]
  have gq := grownBy_setRow W (w.heap.size + 1) (secA ds)
  have g3 := setRow_heap W (w.heap.size + 1) _ (secA ds) _ _ g1.out
  have g2 := (setRow_other W (w.heap.size + 1) w.heap.size (secA ds) (by omega)).trans g0.out
  replace hb1 := hb1.grown gq hb1.size (fun k hk => by injection hk with hk; omega)
  generalize W.setRow (w.heap.size + 1) (secA ds) = W2 at *
  clear sn s1 g0 g1 gq
  have gq := grownBy_setRow W2 w.heap.size (secA ds)
  have g4 := setRow_heap W2 w.heap.size _ (secA ds) _ _ g2
  replace hb1 := hb1.grown gq hb1.size (fun k hk => by injection hk with hk; omega)
  clear gq
  go_wp2_with (first
    | (refine wpList_load_row rfl 81 (.tmp 3) rfl (w.heap.size + 1) rfl 81 (secA ds) (0, 0) _ g3 Tryd.underlying81 rfl (by rw [hsz]; exact infoSec) ?_)
    | (refine wpList_store_row rfl 81 (.tmp 2) (.tmp 7) rfl w.heap.size (secA ds) rfl rfl 81 nil64 g2 (by rw [hsz]; exact infoSec) (by rw [hsz]; rfl) h1 ?_))
  exact bodyPost_ret (results_cell_row rfl _ _ w.heap.size 81 (secA ds) (0, 0) _ rfl g4 Tryd.underlying81 rfl (by rw [hsz]; exact infoSec)) rfl ⟨rfl, hb1⟩
end Go.Proofs.YtgcaemhcdpddiaaDoor
