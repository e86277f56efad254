/-
  What SameBytes answers of slices with the same bytes.
-/
import Derived.Test.YtmekhhabkljffaaChaSl
import Derived.Test.YtmekhhabkljffaaRows
import Derived.Test.YtmekhhabkljffaaShaLoop
import Derived.BigRegion
namespace Go.Proofs.Ytmekhhabkljffaa
open Go Go.RowKit

set_option maxHeartbeats 1000000 in
theorem same_sl (p q : SL) (w : World) (hp : p.Ok w) (hq : q.Ok w) (hb : p.b = q.b) (hl : p.len ≤ 8388608) :
    Calls Try.prog 11 #[.slice p.a p.len p.cap, .slice q.a q.len q.cap] w fun e w' => e = .returned (.bool true) ∧ Below w.heap.size w w' := by
  have hpq : p.len = q.len := by rw [← hp.hb, ← hq.hb, hb]
  obtain ⟨pa, pl, pc, pg, po, pb⟩ := p
  obtain ⟨qa, ql, qc, qg, qo, qb⟩ := q
  simp only at hb hpq hl ⊢
  subst hb hpq
  have HP := veil hp
  have HQ := veil hq
  clear hp hq
  have h1 : ((pl : Int) != (pl : Int)) = false := by simp
  go_enter Try.func11, Try.ntmps11
  go_wp2
  go_loopw [5] (fun i wr => ∃ k : Nat, k ≤ pl ∧ i = .int .i64 k ∧ Below w.heap.size w wr)
    (fun i _ => pl - (intOf i).toNat)
  case atStart => exact ⟨0, Nat.zero_le _, rfl, Below.refl _ _⟩
  case round =>
    obtain ⟨k, hk, rfl, hbel⟩ := hrel
    by_cases hlt : k < pl
    · have e1 : pa = some ⟨pg, po, none⟩ := HP.out.at_ (show 0 < pl by omega)
      have e2 : qa = some ⟨qg, qo, none⟩ := HQ.out.at_ (show 0 < pl by omega)
      subst e1 e2
      have c1 : wr.cell? ⟨pg, po + k, none⟩ = some (.int .u8 (v8 (gb pb k))) := (hbel.cell (p := ⟨pg, po + k, none⟩) (HP.out.lt (show 0 < pl by omega))).trans (HP.out.cell k hlt)
      have c2 : wr.cell? ⟨qg, qo + k, none⟩ = some (.int .u8 (v8 (gb pb k))) := (hbel.cell (p := ⟨qg, qo + k, none⟩) (HQ.out.lt (show 0 < pl by omega))).trans (HQ.out.cell k hlt)
      generalize v8 (gb pb k) = y at *
      have hxy : (y != y) = false := by simp
      go_wp2
      go_region
      all_goals go_wp2
      all_goals
        go_roundw
        case rel => exact ⟨k + 1, by omega, by go_num, hbel.drew⟩
        case measure => simp [intOf]; omega
    · obtain rfl : pl = k := by omega
      go_wp2
      go_ret
      exact ⟨rfl, hbel⟩
end Go.Proofs.Ytmekhhabkljffaa
