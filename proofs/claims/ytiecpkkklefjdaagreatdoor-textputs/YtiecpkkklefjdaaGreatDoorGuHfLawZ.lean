/-
  What Beyond and SameBytes answer.
-/
import Derived.Test.YtiecpkkklefjdaaGreatDoorGuHfPut
namespace Go.Proofs.YtiecpkkklefjdaaGreatDoor
open Go Go.RowKit

set_option maxRecDepth 20000 in
set_option maxHeartbeats 1000000 in
theorem beyond_len (w : World) (N : Nat) (hN : N ≤ 9223372036854775807) : Calls Tryz.prog 4 #[.slice (some ⟨w.heap.size, 0, none⟩) 1 1] (w.alloc (.cells #[.int .i64 (N : Int)] 3)) fun e w' => e = .returned (.bool (decide (1048576 < N))) ∧ Below w.heap.size w w' := by
  have r : Row (w.alloc (.cells #[.int .i64 (N : Int)] 3)) w.heap.size 3 #[.int .i64 (N : Int)] := Row.new _ _ _
  have c : (w.alloc (.cells #[.int .i64 (N : Int)] 3)).cell? ⟨w.heap.size, 0, none⟩ = some (.int .i64 (N : Int)) := r.cell 0
  have HB := veil (show Below w.heap.size w (w.alloc (.cells #[.int .i64 (N : Int)] 3)) from (Below.refl _ w).alloc (Nat.le_refl _) _)
  clear r
  generalize (w.alloc (.cells #[.int .i64 (N : Int)] 3)) = w0 at *
  generalize w.heap.size = g at *
  go_enter Tryz.func4, Tryz.ntmps4
  go_wp2_with fail
  go_loopw [3, 4] (fun s i wr => ∃ k : Nat, k ≤ 1 ∧ i = .int .i64 (k : Int) ∧ s = .int .i64 ((if k = 0 then 0 else N : Nat) : Int) ∧ (k = 1 → N ≤ 1048576) ∧ wr = w0)
    (fun _ i _ => 1 - (intOf i).toNat)
  case atStart => exact ⟨0, Nat.zero_le _, rfl, rfl, (fun h => by cases h), rfl⟩
  case round =>
    obtain ⟨k, hk, rfl, rfl, hJ, rfl⟩ := hrel
    rcases Nat.le_one_iff_eq_zero_or_eq_one.1 hk with rfl | rfl
    · simp only [if_true]
      clear hJ hk
      by_cases hb : 1048576 < N
      · have f1 : decide ((1048576 : Int) < (N : Int)) = true := decide_eq_true (by omega)
        have HD := veil (show decide (1048576 < N) = true from decide_eq_true hb)
        go_wp2_with fail
        go_ret
        exact ⟨by rw [HD.out]; rfl, HB.out⟩
      · have f1 : decide ((1048576 : Int) < (N : Int)) = false := decide_eq_false (by omega)
        go_wp2_with fail
        go_roundw
        case rel => exact ⟨1, Nat.le_refl _, rfl, rfl, (fun _ => by omega), by first | trivial | rfl⟩
        case measure => simp [intOf]
    · have h := hJ rfl
      have HD := veil (show decide (1048576 < N) = false from decide_eq_false (by omega))
      simp only [show ¬ (1 = 0) by decide, if_false]
      clear hJ hk
      go_wp2_with fail
      go_ret
      exact ⟨by rw [HD.out]; rfl, HB.out⟩

set_option maxRecDepth 20000 in
set_option maxHeartbeats 1000000 in
theorem same_bool (p q : SL) (w : World) (hp : p.Ok w) (hq : q.Ok w) (hl : p.len ≤ 8388608) (hl2 : q.len ≤ 9223372036854775807) :
    Calls Tryz.prog 7 #[.slice p.a p.len p.cap, .slice q.a q.len q.cap] w fun e w' => e = .returned (.bool (decide (p.b = q.b))) ∧ Below w.heap.size w w' := by
  have HP := veil hp
  have HQ := veil hq
  clear hp hq
  by_cases hpq : p.len = q.len
  · obtain ⟨pa, pl, pc, pg, po, pb⟩ := p
    obtain ⟨qa, ql, qc, qg, qo, qb⟩ := q
    simp only at hpq hl ⊢
    subst hpq
    have h1 : ((pl : Int) != (pl : Int)) = false := by simp
    go_enter Tryz.func7, Tryz.ntmps7
    go_wp2
    go_loopw [5] (fun i wr => ∃ k : Nat, k ≤ pl ∧ i = .int .i64 k ∧ (∀ j, j < k → gb pb j = gb qb j) ∧ Below w.heap.size w wr)
      (fun i _ => pl - (intOf i).toNat)
    case atStart => exact ⟨0, Nat.zero_le _, rfl, (fun j h => absurd h (Nat.not_lt_zero _)), Below.refl _ _⟩
    case round =>
      obtain ⟨k, hk, rfl, hJ, hbel⟩ := hrel
      have HJ := veil hJ
      clear hJ
      by_cases hlt : k < pl
      · have ha := HP.out.at_ (show 0 < pl by omega)
        have hb := HQ.out.at_ (show 0 < pl by omega)
        simp only at ha hb
        subst ha hb
        have hca := (HP.out.below hbel).cell k hlt
        have hcb := (HQ.out.below hbel).cell k hlt
        simp only at hca hcb
        have HBEL := veil hbel
        clear hbel
        by_cases he : gb pb k = gb qb k
        · have hne : (v8 (gb pb k) != v8 (gb qb k)) = false := by rw [he]; simp
          have hca2 : wr.drew.cell? ⟨pg, po + k, none⟩ = some (.int .u8 (v8 (gb pb k))) := hca
          have hcb2 : wr.drew.cell? ⟨qg, qo + k, none⟩ = some (.int .u8 (v8 (gb qb k))) := hcb
          have HJ2 := veil (show ∀ j, j < k + 1 → gb pb j = gb qb j from fun j hj => by
            rcases Nat.lt_or_ge j k with c | c
            · exact HJ.out j c
            · rw [show j = k by omega]; exact he)
          clear he
          generalize v8 (gb pb k) = x at *
          generalize v8 (gb qb k) = y at *
          go_wp2_with fail
          go_region
          all_goals go_wp2
          all_goals
            go_roundw
            case rel => exact ⟨k + 1, by omega, by go_num, HJ2.out, HBEL.out.drew⟩
            case measure => simp [intOf]; omega
        · have hne : (v8 (gb pb k) != v8 (gb qb k)) = true := by
            simp
            exact fun e => he (v8_inj e)
          have HD := veil (show decide (pb = qb) = false from decide_eq_false (fun e => he (by rw [e])))
          clear he
          generalize v8 (gb pb k) = x at *
          generalize v8 (gb qb k) = y at *
          go_wp2_with fail
          go_region
          all_goals go_wp2
          all_goals
            go_ret
            exact ⟨by rw [HD.out]; rfl, HBEL.out.drew⟩
      · obtain rfl : k = pl := by omega
        have HD := veil (show decide (pb = qb) = true from decide_eq_true (by
          have l1 := HP.out.hb
          have l2 := HQ.out.hb
          simp only at l1 l2
          apply List.ext_getElem?
          intro j
          rcases Nat.lt_or_ge j k with c | c
          · have := HJ.out j c
            unfold gb at this
            rw [List.getElem?_eq_getElem (by omega), List.getElem?_eq_getElem (by omega)] at this ⊢
            exact congrArg some this
          · rw [List.getElem?_eq_none (by omega), List.getElem?_eq_none (by omega)]))
        clear hlt hk
        go_wp2_with fail
        go_ret
        exact ⟨by rw [HD.out]; rfl, hbel⟩
  · have h1 : ((p.len : Int) != (q.len : Int)) = true := by simp; omega
    have HD := veil (show decide (p.b = q.b) = false from decide_eq_false (fun e => hpq (by rw [← HP.out.hb, ← HQ.out.hb, e])))
    clear hpq
    go_enter Tryz.func7, Tryz.ntmps7
    go_wp2
    go_ret
    exact ⟨by rw [HD.out]; rfl, Below.refl _ _⟩

/-- Bytes that were put, as a slice. -/
def bsl (G : Nat) (b : List By) : SL := ⟨some ⟨G, 0, none⟩, b.length, b.length, G, 0, b⟩
theorem Bts.ok {w : World} {G C : Nat} {b : List By} (h : Bts w G C b) : (bsl G b).Ok w :=
  ⟨rfl, Nat.le_refl _, (fun e => by cases e), fun _ => rfl, fun _ => h.lt, fun j hj => by rw [show (bsl G b).off + j = j from Nat.zero_add j]; exact h.cell hj⟩
theorem packL_length (B : List Bool) : (Hf.packL B).length = Hf.packN B := Hf.packTo_length _ _
/-- What Put answers, as a slice. -/
theorem put_sl (s : ByteArray) (hs : s.size ≤ 65536) (w : World) : Calls Tryz.prog 16 #[.string s] w fun e w' => ∃ p : SL, e = .returned (.tuple #[.slice p.a p.len p.cap, .int .i64 0]) ∧ p.Ok w' ∧ p.b = Hf.packL (Hf.txt (bOf s)) ∧ p.len = Hf.packN (Hf.txt (bOf s)) ∧ p.len ≤ 262144 ∧ Below w.heap.size w w' := by
  refine (put_any s hs w).mono ?_
  rintro e w' ⟨G, C, rfl, hB, hG, hb⟩
  have hl := packL_length (Hf.txt (bOf s))
  refine ⟨bsl G (Hf.packL (Hf.txt (bOf s))), ?_, hB.ok, rfl, hl, ?_, hb⟩
  · show _ = Ending.returned (.tuple #[.slice (some ⟨G, 0, none⟩) (Hf.packL (Hf.txt (bOf s))).length (Hf.packL (Hf.txt (bOf s))).length, .int .i64 0])
    rw [hl]
  · show (Hf.packL (Hf.txt (bOf s))).length ≤ 262144
    rw [hl]
    have := Hf.txt_length_le (bOf s)
    rw [bOf_length] at this
    unfold Hf.packN
    omega
end Go.Proofs.YtiecpkkklefjdaaGreatDoor
