/- A queue behind another one, as it is seen; where LogAdd may add. -/
import Derived.Test.YtonbmeepfgejmaaGreatDoorLaS
import Derived.Test.YtonbmeepfgejmaaGreatDoorSyX
import Derived.Test.YtonbmeepfgejmaaGreatDoorConW
import Derived.Test.YtonbmeepfgejmaaGreatDoorLwJ
namespace Go.Proofs.YtonbmeepfgejmaaGreatDoor
open Go.RowKit

theorem QuR.seesC {lo : Nat} {w : World} {a : Option Addr} {c : Nat} {vs : List Value} {qs : List Wr} (h : QuR lo w (.slice a qs.length c) vs qs) (hv : SomeV vs) : SeesC w a qs.length (wrC qs vs) := by
  have hl := h.len.out
  rcases h.own.2 with ⟨hv0, h0⟩ | ⟨g, cap, cur, hv0, _⟩
  · have e0 : qs = [] := List.eq_nil_of_length_eq_zero (by omega)
    subst e0
    injection hv0 with e1 e2 e3
    subst e1
    exact ⟨by rw [wrC_len _ _ hl], wrC_ones _ _ hv, fun q => by simp at q, fun ad e => by cases e⟩
  · injection hv0 with e1 e2 e3
    subst e1
    exact ⟨by rw [wrC_len _ _ hl], wrC_ones _ _ hv, fun _ => ⟨_, rfl⟩, fun ad e => by injection e with e; subst e; exact World.ownsRow.cells h.own rfl⟩
theorem QuX.seesC {t : TypeId} {lo : Nat} {w : World} {a : Option Addr} {c : Nat} {vs : List Value} {qs : List Wr} (h : QuX t lo w (.slice a qs.length c) vs qs) (hv : SomeV vs) : SeesC w a qs.length (wrC qs vs) := by
  have hl := h.len.out
  rcases h.own.2 with ⟨hv0, h0⟩ | ⟨g, cap, cur, hv0, _⟩
  · have e0 : qs = [] := List.eq_nil_of_length_eq_zero (by omega)
    subst e0
    injection hv0 with e1 e2 e3
    subst e1
    exact ⟨by rw [wrC_len _ _ hl], wrC_ones _ _ hv, fun q => by simp at q, fun ad e => by cases e⟩
  · injection hv0 with e1 e2 e3
    subst e1
    exact ⟨by rw [wrC_len _ _ hl], wrC_ones _ _ hv, fun _ => ⟨_, rfl⟩, fun ad e => by injection e with e; subst e; exact World.ownsRow.cells h.own rfl⟩
theorem QuX.some {t : TypeId} {lo : Nat} {w : World} {v : Value} {vs : List Value} {qs : List Wr} (h : QuX t lo w v vs qs) (hq : ∀ i, i < qs.length → 0 < (wrN qs i).2.length) : SomeV vs := by
  intro u hu
  obtain ⟨i, hi, e⟩ := List.mem_iff_getElem.1 hu
  have hl := h.len.out
  have R := h.rows i u (by rw [List.getElem?_eq_getElem hi, e])
  have h0 := hq i (by omega)
  rcases R.2 with ⟨_, e0⟩ | ⟨g, cap, cur, hv, _⟩
  · omega
  · exact ⟨_, _, _, hv⟩
theorem quV_app {t : TypeId} {lo lo2 lo3 : Nat} {w : World} {qv wv v : Value} {vs us : List Value} {qs ws zs : List Wr} (h : QuR lo w qv vs qs) (k : QuX t lo2 w wv us ws) (hz : Hid (qs ++ ws = zs)) (R : w.ownsRow lo3 55 2 v (qs.length + ws.length) (wrC qs vs ++ wrC ws us)) (hp : 0 < ws.length) : ∃ g c, v = .slice (some ⟨g, 0, none⟩) zs.length c ∧ QuV w (some ⟨g, 0, none⟩) c zs := by
  have hl := h.len.out
  have kl := k.len.out
  have zl : zs.length = qs.length + ws.length := by rw [← hz.out, List.length_append]
  rcases id R.2 with ⟨_, h0⟩ | ⟨g, cap, cur, hv, _, _, hf, hm, _⟩
  · omega
  · refine ⟨g, cap, by rw [zl]; exact hv, ⟨by omega, hm, fun i hi => ?_⟩⟩
    subst hv
    have hi2 : i < (qs ++ ws).length := by rw [List.length_append]; omega
    rw [← wrC_app _ _ _ _ hl] at R
    obtain ⟨p0, p1⟩ := wrC_at (qs ++ ws) (vs ++ us) i (by rw [List.length_append, List.length_append]; omega) hi2
    have c0 := (World.ownsRow.cellAt R (i * 2) (by omega)).trans p0
    have c1 := (World.ownsRow.cellAt R (i * 2 + 1) (by omega)).trans p1
    rw [← hz.out]
    by_cases hq : i < qs.length
    · rw [List.getElem?_append_left (by omega), List.getElem?_eq_getElem (by omega)] at c1
      have Rw := h.rows i _ (List.getElem?_eq_getElem (by omega))
      rw [← wrN_appL (ws := ws) hq] at Rw
      obtain ⟨a', c', e', _, _⟩ := Rw.shape'
      rw [e'] at Rw c1
      exact ⟨g, a', c', rfl, c0, c1, RowB.seesB Rw⟩
    · obtain ⟨u, hu⟩ : ∃ u, us[i - qs.length]? = some u := ⟨_, List.getElem?_eq_getElem (by omega)⟩
      rw [List.getElem?_append_right (by omega), hl, hu] at c1
      have Rw := k.rows (i - qs.length) u hu
      rw [← wrN_appR (qs := qs) (by omega)] at Rw
      obtain ⟨a', c', e', _, _⟩ := Rw.shape'
      rw [e'] at Rw c1
      exact ⟨g, a', c', rfl, c0, c1, RowE.seesB Rw⟩
theorem la_ok {bs : List Int} {qs : List Wr} {F L X E : Int} {n : Nat} : (LaFine bs qs F L X E ∧ LwOk F L X E n) ↔ (DkOk bs qs ∧ LgIn ((bs.length / 64 : Nat) : Int) F L X E) ∧ LgTk F L X n := by
  unfold LaFine OpIn LwOk LgTk LgIn
  constructor
  · rintro ⟨⟨⟨d, a1, a2, a3⟩, b, c⟩, _, e⟩
    exact ⟨⟨d, a1, a2, a3, b.1, b.2, c.1, c.2⟩, e⟩
  · rintro ⟨⟨d, a1, a2, a3, b1, b2, c1, c2⟩, e⟩
    have d3 := d.2.2.1
    exact ⟨⟨⟨d, a1, a2, a3⟩, ⟨b1, b2⟩, c1, c2⟩, ⟨a1, a2, by omega, b1, b2, c1, c2⟩, e⟩
theorem la_dk {bs : List Int} {qs : List Wr} {F L X E : Int} {rs : List Int} (d : DkOk bs qs) (i : LgIn ((bs.length / 64 : Nat) : Int) F L X E) (t : LgTk F L X rs.length) : DkOk bs (qs ++ lgWs F X E rs (lgMany rs.length)) := by
  refine ⟨d.1, d.2.1, d.2.2.1, fun j hj => ?_⟩
  by_cases hq : j < qs.length
  · rw [wrN_appL hq]; exact d.2.2.2 j hq
  · rw [List.length_append, lgWs_len] at hj
    have hk : j - qs.length < lgMany rs.length := by omega
    rw [wrN_appR (by omega)]
    obtain ⟨i1, i2, i3, i4, i5, i6, i7⟩ := i
    have t2 := t.2
    have e1 : (wrN (lgWs F X E rs (lgMany rs.length)) (j - qs.length)).1 = F + X + ((j - qs.length : Nat) : Int) := by
      unfold wrN lgWs
      rw [List.getElem?_map, List.getElem?_range hk]
      rfl
    refine ⟨?_, ?_, wrN_lgWs F X E rs hk⟩
    · rw [e1]; omega
    · rw [e1]; omega
end Go.Proofs.YtonbmeepfgejmaaGreatDoor
