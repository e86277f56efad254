/-
  slices.Reverse, over ranges of the call's own (written by mkrev.py).
-/
import Derived.Test.YtjhgelhdhdcmfaaDoorGfFrGetP
namespace Go.Proofs.YtjhgelhdhdcmfaaDoor
open Go Go.RowKit

theorem grown_cells {w w' : World} {g o : Nat} {r : Nat × Nat} (h : w.grownBy w' (some g)) : w.grownBy (w'.setCells g o (rC2 r).toList) (some g) := grown_set (grown_set h)
theorem run_storeMid {P : Program} {a : Act} {o : Oper} (ty : TypeId) (x y : Operand) (b off : Nat) (cells : Array Value) (ho : o.op = .store ty x y) (hx : a.eval x = .pointer (some ⟨b, off, none⟩)) (hy : a.eval y = .agg cells) (w : World) (ht : w.there b off cells.size) (hi : (P.info? ty).map (·.size) = some cells.size) (h1 : cells.all (·.oneCell') = true) : (execOp a.eval o).run P w = .ok .skip (w.setCells b off cells.toList) := by
  unfold execOp
  simp only [ho, hx, hy, run_storeAt_mid w b off ty cells ht hi h1, Sem.run_bind, Sem.run_pure, Result.andThen_ok]

theorem grown_drew {w w' : World} {r : Option Nat} (h : w.grownBy w' r) : w.grownBy w'.drew r := ⟨h.os, h.tape, h.output, h.size, h.block⟩
/-- The first k and the last k are swapped. -/
def revTo (l : List (Nat × Nat)) : Nat → List (Nat × Nat)
  | 0 => l
  | k + 1 => ((revTo l k).set k (gr (revTo l k) (l.length - 1 - k))).set (l.length - 1 - k) (gr (revTo l k) k)
theorem revTo_len (l : List (Nat × Nat)) : ∀ k, (revTo l k).length = l.length
  | 0 => rfl
  | k + 1 => by rw [revTo, List.length_set, List.length_set, revTo_len l k]
theorem gr_set (l : List (Nat × Nat)) (i j : Nat) (r : Nat × Nat) (hi : i < l.length) : gr (l.set i r) j = if i = j then r else gr l j := by
  unfold gr
  rw [List.getElem?_set]
  by_cases e : i = j
  · rw [if_pos e, if_pos e, if_pos (by omega)]
    rfl
  · rw [if_neg e, if_neg e]
theorem revTo_at (l : List (Nat × Nat)) : ∀ k, 2 * k ≤ l.length → ∀ i, i < l.length → gr (revTo l k) i = if i < k ∨ l.length - 1 - k < i then gr l (l.length - 1 - i) else gr l i
  | 0, _, i, hi => by rw [revTo, if_neg (by omega)]
  | k + 1, hk, i, hi => by
    have ih := revTo_at l k (by omega)
    have hl := revTo_len l k
    rw [revTo, gr_set _ _ _ _ (by rw [List.length_set, hl]; omega), gr_set _ _ _ _ (by rw [hl]; omega)]
    by_cases e1 : l.length - 1 - k = i
    · rw [if_pos e1, if_pos (by omega), ih k (by omega), if_neg (by omega)]
      congr 1
      omega
    · rw [if_neg e1]
      by_cases e2 : k = i
      · rw [if_pos e2, if_pos (by omega), ih _ (by omega), if_neg (by omega)]
        congr 1
        omega
      · rw [if_neg e2, ih i hi]
        by_cases e3 : i < k ∨ l.length - 1 - k < i
        · rw [if_pos e3, if_pos (by omega)]
        · rw [if_neg e3, if_neg (by omega)]
theorem gr_ext {a b : List (Nat × Nat)} (hl : a.length = b.length) (h : ∀ i, i < a.length → gr a i = gr b i) : a = b := by
  apply List.ext_getElem hl
  intro i h1 h2
  have := h i h1
  unfold gr at this
  rwa [List.getElem?_eq_getElem h1, List.getElem?_eq_getElem h2] at this
theorem gr_rev (l : List (Nat × Nat)) (j : Nat) (h : j < l.length) : gr l.reverse j = gr l (l.length - 1 - j) := by
  unfold gr
  rw [List.getElem?_reverse h]
theorem revTo_end (l : List (Nat × Nat)) (k : Nat) (hk : 2 * k ≤ l.length) (he : l.length ≤ 2 * k + 1) : revTo l k = l.reverse := by
  refine gr_ext (by rw [revTo_len, List.length_reverse]) fun i hi => ?_
  rw [revTo_len] at hi
  rw [revTo_at l k hk i hi, gr_rev l i hi]
  by_cases e : i < k ∨ l.length - 1 - k < i
  · rw [if_pos e]
  · rw [if_neg e]
    congr 1
    omega
def depRV : Nat → List Nat
  | 6 => [4, 5]
  | 7 => [6]
  | 10 => [8, 9]
  | 11 => [10]
  | 12 => [0, 1]
  | 13 => [12, 7, 11]
  | 14 => [2, 3]
  | 15 => [14, 11, 13]
  | _ => []
def valRV (v : Value) (gB i j : Nat) (L : List (Nat × Nat)) : Nat → Value
  | 0 => v
  | 1 => .int .i64 (i : Int)
  | 2 => v
  | 3 => .int .i64 (j : Int)
  | 4 => v
  | 5 => .int .i64 (j : Int)
  | 6 => .pointer (some ⟨gB, 0 + j * 2, none⟩)
  | 7 => .agg (rC2 (gr L j))
  | 8 => v
  | 9 => .int .i64 (i : Int)
  | 10 => .pointer (some ⟨gB, 0 + i * 2, none⟩)
  | 11 => .agg (rC2 (gr L i))
  | 12 => .pointer (some ⟨gB, 0 + i * 2, none⟩)
  | 14 => .pointer (some ⟨gB, 0 + j * 2, none⟩)
  | _ => undef

set_option maxRecDepth 20000 in
set_option maxHeartbeats 4000000 in
theorem fr_reverse (base n gB cap : Nat) (l : List (Nat × Nat)) (w : World) (hl : l.length = n) (hn : n ≤ 64) (hown : w.ownsRow base 44 2 (.slice (some ⟨gB, 0, none⟩) n cap) n (vr l)) :
    Calls Tryd.prog 53 #[.slice (some ⟨gB, 0, none⟩) n cap] w fun e w' => (∃ u, e = .returned u) ∧ w'.ownsRow base 44 2 (.slice (some ⟨gB, 0, none⟩) n cap) n (vr l.reverse) ∧ w.grownBy w' (some gB) := by
  have HO := veil hown
  have HL := veil hl
  have hw : IntKind.i64.wrap ((n : Int) - 1) = (n : Int) - 1 - ((0 : Nat) : Int) := by rw [IntKind.wrap_i64]; omega
  clear hown hl
  refine (callsIn_wide (n := 4)).1 ?_
  refine callsIn_of_wp Tryd.func53 rfl trivial ?_ rfl
  simp only [Tryd.ntmps53, List.size_toArray, List.length_cons, List.length_nil, Nat.reduceAdd, Nat.reduceSub, Array.replicate_succ, Array.replicate_zero, List.push_toArray, List.append_toArray, List.nil_append, List.cons_append]
  gi_wp2_with fail
  gi_loopw [2, 3] (fun i j wr => ∃ k : Nat, 2 * k ≤ n ∧ i = .int .i64 (k : Int) ∧ j = .int .i64 ((n : Int) - 1 - (k : Int)) ∧ wr.ownsRow base 44 2 (.slice (some ⟨gB, 0, none⟩) n cap) n (vr (revTo l k)) ∧ w.grownBy wr (some gB))
    (fun i _ _ => n - (intOf i).toNat)
  case atStart => exact ⟨0, Nat.zero_le _, rfl, by simp, HO.out, grown_refl _ _⟩
  case round =>
    obtain ⟨k, hk, rfl, rfl, hown, hg⟩ := hrel
    by_cases hlt : 2 * k + 1 < n
    · obtain ⟨j, hj⟩ : ∃ j : Nat, j + k + 1 = n := ⟨n - 1 - k, by omega⟩
      have hjI : (n : Int) - 1 - (k : Int) = (j : Int) := by omega
      rw [hjI]
      have hd : decide ((k : Int) < (j : Int)) = true := by simp; omega
      have hdn : decide (k < j) = true := by simp; omega
      have HW := veil hown
      have HG := veil hg
      have hjn : j < n := by omega
      have hkn : k < n := by omega
      have HLR := veil ((revTo_len l k).trans HL.out)
      clear hown hg hjI
      gi_wp2_with fail
      refine wpIn_region_any (by kernel_rfl) ?_
      refine anyIn_spine (valRV (.slice (some ⟨gB, 0, none⟩) n cap) gB k j (revTo l k)) (fun q W _ => match q with
          | 0 => W.ownsRow base 44 2 (.slice (some ⟨gB, 0, none⟩) n cap) n (vr (revTo l k)) ∧ w.grownBy W (some gB)
          | 1 => W.ownsRow base 44 2 (.slice (some ⟨gB, 0, none⟩) n cap) n (vr ((revTo l k).set k (gr (revTo l k) j))) ∧ w.grownBy W (some gB)
          | _ => W.ownsRow base 44 2 (.slice (some ⟨gB, 0, none⟩) n cap) n (vr (((revTo l k).set k (gr (revTo l k) j)).set j (gr (revTo l k) k))) ∧ w.grownBy W (some gB)) undef [13, 15] [14, 15, 16, 17, 18, 19, 20, 21, 22, 23, 24, 25, 26, 100000, 27, 100001] depRV depRV (by kernel_rfl) (by decide) rfl (by decide) (by decide) ?hord (by decide) ⟨HW.out, grown_drew HG.out⟩ ?hfix ?hcal ?hdone
      case hord =>
        intro k i j hk hk1
        match k, hk, hk1 with
        | 0, hk, hk1 =>
          obtain rfl := Option.some.inj hk
          obtain rfl := Option.some.inj hk1
          decide
        | 1, _, hk1 => simp at hk1
        | _ + 2, hk, _ => simp at hk
      case hfix =>
        intro x W m ii d u hR hdi hni hdep hlo hhi
        have own0 : (ii = 7 ∨ ii = 11) → W.ownsRow base 44 2 (.slice (some ⟨gB, 0, none⟩) n cap) n (vr (revTo l k)) := by
          intro h
          have hm : m ≤ 0 := by
            rcases h with rfl | rfl
            · exact hhi 0 13 rfl (by decide)
            · exact hhi 0 13 rfl (by decide)
          obtain rfl : m = 0 := by omega
          exact hR.1
        match ii, hdi, hdep with
        | 0, hdi, hdep =>
          obtain rfl := Option.some.inj hdi
          exact OI_value rfl rfl (about_none (by intro c h; cases h)) (by intro c h; cases h) (.slice (some ⟨gB, 0, none⟩) n cap) W (by kernel_rfl) ⟨rfl, rfl⟩
        | 1, hdi, hdep =>
          obtain rfl := Option.some.inj hdi
          exact OI_value rfl rfl (about_none (by intro c h; cases h)) (by intro c h; cases h) (.int .i64 (k : Int)) W (by kernel_rfl) ⟨rfl, rfl⟩
        | 2, hdi, hdep =>
          obtain rfl := Option.some.inj hdi
          exact OI_value rfl rfl (about_none (by intro c h; cases h)) (by intro c h; cases h) (.slice (some ⟨gB, 0, none⟩) n cap) W (by kernel_rfl) ⟨rfl, rfl⟩
        | 3, hdi, hdep =>
          obtain rfl := Option.some.inj hdi
          exact OI_value rfl rfl (about_none (by intro c h; cases h)) (by intro c h; cases h) (.int .i64 (j : Int)) W (by kernel_rfl) ⟨rfl, rfl⟩
        | 4, hdi, hdep =>
          obtain rfl := Option.some.inj hdi
          exact OI_value rfl rfl (about_none (by intro c h; cases h)) (by intro c h; cases h) (.slice (some ⟨gB, 0, none⟩) n cap) W (by kernel_rfl) ⟨rfl, rfl⟩
        | 5, hdi, hdep =>
          obtain rfl := Option.some.inj hdi
          exact OI_value rfl rfl (about_none (by intro c h; cases h)) (by intro c h; cases h) (.int .i64 (j : Int)) W (by kernel_rfl) ⟨rfl, rfl⟩
        | 6, hdi, hdep =>
          obtain rfl := Option.some.inj hdi
          rw [updV_self (show x 4 = _ from hdep 4 (by simp [depRV]) (by decide)), updV_self (show updV x 4 _ 5 = _ from hdep 5 (by simp [depRV]) (by decide))]
          exact OI_value rfl rfl (about_none (by intro c h; cases h)) (by intro c h; cases h) _ W (run_atF 37 44 2 _ _ gB 0 n cap j rfl (by kernel_rfl) (by kernel_rfl) Tryd.underlying37 (by kernel_rfl) (by omega) W) ⟨rfl, rfl⟩
        | 7, hdi, hdep =>
          obtain rfl := Option.some.inj hdi
          rw [updV_self (show x 6 = _ from hdep 6 (by simp [depRV]) (by decide))]
          exact OI_value rfl rfl (about_none (by intro c h; cases h)) (by intro c h; cases h) _ W (run_midF 44 _ gB (0 + j * 2) (rC2 (gr (revTo l k) j)) _ rfl (by kernel_rfl) Tryd.underlying44 rfl (by kernel_rfl) W (own_range (own0 (.inl rfl)) HLR.out j hjn)) ⟨rfl, rfl⟩
        | 8, hdi, hdep =>
          obtain rfl := Option.some.inj hdi
          exact OI_value rfl rfl (about_none (by intro c h; cases h)) (by intro c h; cases h) (.slice (some ⟨gB, 0, none⟩) n cap) W (by kernel_rfl) ⟨rfl, rfl⟩
        | 9, hdi, hdep =>
          obtain rfl := Option.some.inj hdi
          exact OI_value rfl rfl (about_none (by intro c h; cases h)) (by intro c h; cases h) (.int .i64 (k : Int)) W (by kernel_rfl) ⟨rfl, rfl⟩
        | 10, hdi, hdep =>
          obtain rfl := Option.some.inj hdi
          rw [updV_self (show x 8 = _ from hdep 8 (by simp [depRV]) (by decide)), updV_self (show updV x 8 _ 9 = _ from hdep 9 (by simp [depRV]) (by decide))]
          exact OI_value rfl rfl (about_none (by intro c h; cases h)) (by intro c h; cases h) _ W (run_atF 37 44 2 _ _ gB 0 n cap k rfl (by kernel_rfl) (by kernel_rfl) Tryd.underlying37 (by kernel_rfl) (by omega) W) ⟨rfl, rfl⟩
        | 11, hdi, hdep =>
          obtain rfl := Option.some.inj hdi
          rw [updV_self (show x 10 = _ from hdep 10 (by simp [depRV]) (by decide))]
          exact OI_value rfl rfl (about_none (by intro c h; cases h)) (by intro c h; cases h) _ W (run_midF 44 _ gB (0 + k * 2) (rC2 (gr (revTo l k) k)) _ rfl (by kernel_rfl) Tryd.underlying44 rfl (by kernel_rfl) W (own_range (own0 (.inr rfl)) HLR.out k hkn)) ⟨rfl, rfl⟩
        | 12, hdi, hdep =>
          obtain rfl := Option.some.inj hdi
          rw [updV_self (show x 0 = _ from hdep 0 (by simp [depRV]) (by decide)), updV_self (show updV x 0 _ 1 = _ from hdep 1 (by simp [depRV]) (by decide))]
          exact OI_value rfl rfl (about_none (by intro c h; cases h)) (by intro c h; cases h) _ W (run_atF 37 44 2 _ _ gB 0 n cap k rfl (by kernel_rfl) (by kernel_rfl) Tryd.underlying37 (by kernel_rfl) (by omega) W) ⟨rfl, rfl⟩
        | 13, _, _ => exact absurd (by decide) hni
        | 14, hdi, hdep =>
          obtain rfl := Option.some.inj hdi
          rw [updV_self (show x 2 = _ from hdep 2 (by simp [depRV]) (by decide)), updV_self (show updV x 2 _ 3 = _ from hdep 3 (by simp [depRV]) (by decide))]
          exact OI_value rfl rfl (about_none (by intro c h; cases h)) (by intro c h; cases h) _ W (run_atF 37 44 2 _ _ gB 0 n cap j rfl (by kernel_rfl) (by kernel_rfl) Tryd.underlying37 (by kernel_rfl) (by omega) W) ⟨rfl, rfl⟩
        | 15, _, _ => exact absurd (by decide) hni
        | _ + 16, hdi, _ => simp at hdi
      case hcal =>
        intro x W q ii d u hR hk hdi hdep hu0 hup
        match q, hk, hR with
        | 0, hk, hR =>
          obtain rfl := Option.some.inj hk
          obtain rfl := Option.some.inj hdi
          rw [updV_self (show x 12 = _ from hdep 12 (by simp [depRV]) (by decide)), updV_self (show updV x 12 _ 7 = _ from hdep 7 (by simp [depRV]) (by decide))]
          refine OI_skip rfl rfl (about_none (by intro c h; cases h)) (by intro c h; cases h) (W.setCells gB (0 + k * 2) (rC2 (gr (revTo l k) j)).toList) ?_ ?_
          · exact run_storeMid 44 _ _ gB (0 + k * 2) (rC2 (gr (revTo l k) j)) rfl (by kernel_rfl) (by kernel_rfl) W (own_there hR.1 HLR.out k hkn) (by kernel_rfl) (by kernel_rfl)
          · refine ⟨undef, (put_none _ _).trans (put_far _ _ _ (by rw [puts_size]; exact Nat.le_of_ble_eq_true rfl)).symm, ?_, grown_cells hR.2⟩
            rw [Nat.zero_add]
            exact own_pair hR.1 _ hkn HLR.out
        | 1, hk, hR =>
          obtain rfl := Option.some.inj hk
          obtain rfl := Option.some.inj hdi
          rw [updV_self (show x 14 = _ from hdep 14 (by simp [depRV]) (by decide)), updV_self (show updV x 14 _ 11 = _ from hdep 11 (by simp [depRV]) (by decide))]
          have hl2 : ((revTo l k).set k (gr (revTo l k) j)).length = n := by rw [List.length_set]; exact HLR.out
          refine OI_skip rfl rfl (about_none (by intro c h; cases h)) (by intro c h; cases h) (W.setCells gB (0 + j * 2) (rC2 (gr (revTo l k) k)).toList) ?_ ?_
          · exact run_storeMid 44 _ _ gB (0 + j * 2) (rC2 (gr (revTo l k) k)) rfl (by kernel_rfl) (by kernel_rfl) W (own_there hR.1 hl2 j hjn) (by kernel_rfl) (by kernel_rfl)
          · refine ⟨undef, (put_none _ _).trans (put_far _ _ _ (by rw [puts_size]; exact Nat.le_of_ble_eq_true rfl)).symm, ?_, grown_cells hR.2⟩
            rw [Nat.zero_add]
            exact own_pair hR.1 _ hjn hl2
        | _ + 2, hk, _ => simp at hk
      case hdone =>
        intro x W u hR hx _
        have HRS := veil (show W.ownsRow base 44 2 (.slice (some ⟨gB, 0, none⟩) n cap) n (vr (revTo l (k + 1))) ∧ w.grownBy W (some gB) by
          refine ⟨?_, hR.2⟩
          rw [revTo, HL.out, show n - 1 - k = j by omega]
          exact hR.1)
        have z0 := hx 0 (by decide) (by decide)
        have z1 := hx 1 (by decide) (by decide)
        have z2 := hx 2 (by decide) (by decide)
        have z3 := hx 3 (by decide) (by decide)
        have z4 := hx 4 (by decide) (by decide)
        have z5 := hx 5 (by decide) (by decide)
        have z6 := hx 6 (by decide) (by decide)
        have z7 := hx 7 (by decide) (by decide)
        have z8 := hx 8 (by decide) (by decide)
        have z9 := hx 9 (by decide) (by decide)
        have z10 := hx 10 (by decide) (by decide)
        have z11 := hx 11 (by decide) (by decide)
        have z12 := hx 12 (by decide) (by decide)
        have z14 := hx 14 (by decide) (by decide)
        simp only [putsV, z0, z1, z2, z3, z4, z5, z6, z7, z8, z9, z10, z11, z12, z14, valRV, Act.put, List.setIfInBounds_toArray, List.set_cons_succ, List.set_cons_zero, Nat.reduceAdd]
        clear z0 z1 z2 z3 z4 z5 z6 z7 z8 z9 z10 z11 z12 z14 hx hR
        gi_wp2_with fail
        go_roundw
        case rel => exact ⟨k + 1, by omega, by go_num, by rw [show (n : Int) - 1 - ((k + 1 : Nat) : Int) = (j : Int) - 1 by omega], HRS.out.1, HRS.out.2⟩
        case measure => simp [intOf]; omega
    · have hd : decide ((k : Int) < (n : Int) - 1 - (k : Int)) = false := by simp; omega
      have HR := veil (show wr.ownsRow base 44 2 (.slice (some ⟨gB, 0, none⟩) n cap) n (vr l.reverse) by rw [← revTo_end l k (by rw [HL.out]; exact hk) (by rw [HL.out]; omega)]; exact hown)
      have HG := veil hg
      clear hown hg
      gi_wp2_with fail
      go_end0
      exact ⟨⟨_, rfl⟩, HR.out, HG.out⟩
end Go.Proofs.YtjhgelhdhdcmfaaDoor
