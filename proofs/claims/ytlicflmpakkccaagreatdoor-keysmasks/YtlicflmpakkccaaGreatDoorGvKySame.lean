/-
  What SameBytes answers of any two slices.
-/
import Derived.Test.YtlicflmpakkccaaGreatDoorGv18
import Derived.BigRegion
namespace Go.Proofs.YtlicflmpakkccaaGreatDoor
open Go Go.RowKit

set_option maxRecDepth 20000 in
set_option maxHeartbeats 1000000 in
theorem same_bool (p q : SL) (w : World) (hp : p.Ok w) (hq : q.Ok w) (hl : p.len ≤ 8388608) (hl2 : q.len ≤ 9223372036854775807) :
    Calls Tryz.prog 10 #[.slice p.a p.len p.cap, .slice q.a q.len q.cap] w fun e w' => e = .returned (.bool (decide (p.b = q.b))) ∧ Below w.heap.size w w' := by
  have HP := veil hp
  have HQ := veil hq
  clear hp hq
  by_cases hpq : p.len = q.len
  · obtain ⟨pa, pl, pc, pg, po, pb⟩ := p
    obtain ⟨qa, ql, qc, qg, qo, qb⟩ := q
    simp only at hpq hl ⊢
    subst hpq
    have h1 : ((pl : Int) != (pl : Int)) = false := by simp
    go_enter Tryz.func10, Tryz.ntmps10
    go_wp2
    go_loopw [5] (fun i wr => ∃ k : Nat, k ≤ pl ∧ i = .int .i64 k ∧ (∀ j, j < k → gb pb j = gb qb j) ∧ Below w.heap.size w wr)
      (fun i _ => pl - (intOf i).toNat)
    case atStart => exact ⟨0, Nat.zero_le _, rfl, (fun j h => absurd h (Nat.not_lt_zero _)), Below.refl _ _⟩
    case round =>
      obtain ⟨k, hk, rfl, hJ, hbel⟩ := hrel
      have HJ := veil hJ
      clear hJ
      by_cases hlt : k < pl
      · have ha := HP.out.at_ (show 0 < pl by omega)
        have hb := HQ.out.at_ (show 0 < pl by omega)
        simp only at ha hb
        subst ha hb
        have hca := (HP.out.below hbel).cell k hlt
        have hcb := (HQ.out.below hbel).cell k hlt
        simp only at hca hcb
        have HBEL := veil hbel
        clear hbel
        by_cases he : gb pb k = gb qb k
        · have hne : (v8 (gb pb k) != v8 (gb qb k)) = false := by rw [he]; simp
          have hca2 : wr.drew.cell? ⟨pg, po + k, none⟩ = some (.int .u8 (v8 (gb pb k))) := hca
          have hcb2 : wr.drew.cell? ⟨qg, qo + k, none⟩ = some (.int .u8 (v8 (gb qb k))) := hcb
          have HJ2 := veil (show ∀ j, j < k + 1 → gb pb j = gb qb j from fun j hj => by
            rcases Nat.lt_or_ge j k with c | c
            · exact HJ.out j c
            · rw [show j = k by omega]; exact he)
          clear he
          generalize v8 (gb pb k) = x at *
          generalize v8 (gb qb k) = y at *
          go_wp2_with fail
          go_region
          all_goals go_wp2
          all_goals
            go_roundw
            case rel => exact ⟨k + 1, by omega, by go_num, HJ2.out, HBEL.out.drew⟩
            case measure => simp [intOf]; omega
        · have hne : (v8 (gb pb k) != v8 (gb qb k)) = true := by
            simp
            exact fun e => he (v8_inj e)
          have HD := veil (show decide (pb = qb) = false from decide_eq_false (fun e => he (by rw [e])))
          clear he
          generalize v8 (gb pb k) = x at *
          generalize v8 (gb qb k) = y at *
          go_wp2_with fail
          go_region
          all_goals go_wp2
          all_goals
            go_ret
            exact ⟨by rw [HD.out]; rfl, HBEL.out.drew⟩
      · obtain rfl : k = pl := by omega
        have HD := veil (show decide (pb = qb) = true from decide_eq_true (by
          have l1 := HP.out.hb
          have l2 := HQ.out.hb
          simp only at l1 l2
          apply List.ext_getElem?
          intro j
          rcases Nat.lt_or_ge j k with c | c
          · have := HJ.out j c
            unfold gb at this
            rw [List.getElem?_eq_getElem (by omega), List.getElem?_eq_getElem (by omega)] at this ⊢
            exact congrArg some this
          · rw [List.getElem?_eq_none (by omega), List.getElem?_eq_none (by omega)]))
        clear hlt hk
        go_wp2_with fail
        go_ret
        exact ⟨by rw [HD.out]; rfl, hbel⟩
  · have h1 : ((p.len : Int) != (q.len : Int)) = true := by simp; omega
    have HD := veil (show decide (p.b = q.b) = false from decide_eq_false (fun e => hpq (by rw [← HP.out.hb, ← HQ.out.hb, e])))
    clear hpq
    go_enter Tryz.func10, Tryz.ntmps10
    go_wp2
    go_ret
    exact ⟨by rw [HD.out]; rfl, Below.refl _ _⟩

theorem same_yesK (p q : SL) (w : World) (hp : p.Ok w) (hq : q.Ok w) (hl : p.len ≤ 8388608) (hb : p.b = q.b) :
    Calls Tryz.prog 10 #[.slice p.a p.len p.cap, .slice q.a q.len q.cap] w fun e w' => e = .returned (.bool true) ∧ Below w.heap.size w w' := by
  have h := same_bool p q w hp hq hl (by rw [← hq.hb, ← hb, hp.hb]; omega)
  rw [decide_eq_true hb] at h
  exact h
end Go.Proofs.YtlicflmpakkccaaGreatDoor
