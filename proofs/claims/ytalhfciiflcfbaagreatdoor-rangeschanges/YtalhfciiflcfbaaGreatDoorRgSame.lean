/-
  What SameRanges answers.
-/
import Derived.Test.YtalhfciiflcfbaaGreatDoorRgMem
namespace Go.Proofs.YtalhfciiflcfbaaGreatDoor
open Go Go.RowKit

set_option maxRecDepth 20000 in
set_option maxHeartbeats 1000000 in
theorem same_rl (p q : RL) (w : World) (hp : p.Ok w) (hq : q.Ok w) (hb : p.l = q.l) (hl : p.len ≤ 8388608) :
    Calls Tryz.prog 11 #[.slice p.a p.len p.cap, .slice q.a q.len q.cap] w fun e w' => e = .returned (.bool true) ∧ Below w.heap.size w w' := by
  have hpq : p.len = q.len := by rw [← hp.hb, ← hq.hb, hb]
  obtain ⟨pa, pl, pc, pg, po, pb⟩ := p
  obtain ⟨qa, ql, qc, qg, qo, qb⟩ := q
  simp only at hb hpq hl ⊢
  subst hb hpq
  have HP := veil hp
  have HQ := veil hq
  clear hp hq
  have h1 : ((pl : Int) != (pl : Int)) = false := by simp
  go_enter Tryz.func11, Tryz.ntmps11
  go_wp2
  go_loopw [5] (fun i wr => ∃ k : Nat, k ≤ pl ∧ i = .int .i64 k ∧ Below w.heap.size w wr)
    (fun i _ => pl - (intOf i).toNat)
  case atStart => exact ⟨0, Nat.zero_le _, rfl, Below.refl _ _⟩
  case round =>
    obtain ⟨k, hk, rfl, hbel⟩ := hrel
    by_cases hlt : k < pl
    · have e1 : pa = some ⟨pg, po, none⟩ := HP.out.at_ (show 0 < pl by omega)
      have e2 : qa = some ⟨qg, qo, none⟩ := HQ.out.at_ (show 0 < pl by omega)
      subst e1 e2
      obtain ⟨c1, c2⟩ := (HP.out.below hbel).cell k hlt
      obtain ⟨c3, c4⟩ := (HQ.out.below hbel).cell k hlt
      simp only at c1 c2 c3 c4
      generalize ((gr pb k).1 : Int) = y at *
      generalize ((gr pb k).2 : Int) = z at *
      go_wp2
      go_quiet (fail)
      go_wp2
      go_roundw
      case rel => exact ⟨k + 1, by omega, by go_num, below_drewN hbel _⟩
      case measure => simp [intOf]; omega
    · obtain rfl : pl = k := by omega
      go_wp2
      go_ret
      exact ⟨rfl, hbel⟩

end Go.Proofs.YtalhfciiflcfbaaGreatDoor
