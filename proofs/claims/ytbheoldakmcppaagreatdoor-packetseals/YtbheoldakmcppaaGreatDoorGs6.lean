/-
  Out of PlMath, PlCarried, PlSum, PlProduct, PlNum.
-/
import Derived.Test.YtbheoldakmcppaaGreatDoorGs1
import Derived.Test.YtbheoldakmcppaaGreatDoorGs4
import Derived.Test.YtbheoldakmcppaaGreatDoorRows
import Derived.WalkMore
import Derived.Deep.QuietTactic
import Derived.BigQuiet

/-! Numbers of five words of 26 bits: no program in sight. -/
namespace Go.Proofs.YtbheoldakmcppaaGreatDoor
open Go

/-- The number of five words. -/
def V5 (xs : List Nat) : Nat := gn xs 0 + 67108864 * gn xs 1 + 4503599627370496 * gn xs 2 + 302231454903657293676544 * gn xs 3 + 20282409603651670423947251286016 * gn xs 4
/-- 2^130 - 5. -/
def PP : Nat := 1361129467683753853853498429727072845819
/-- Five words of 26 bits each. -/
structure Sm (xs : List Nat) : Prop where
  len : xs.length = 5
  lt : ∀ i, gn xs i < 67108864
theorem five {xs : List Nat} (h : xs.length = 5) : ∃ a b c d e, xs = [a, b, c, d, e] := by
  match xs, h with
  | [a, b, c, d, e], _ => exact ⟨a, b, c, d, e, rfl⟩
theorem gn_set (xs : List Nat) (i j x : Nat) : gn (xs.set i x) j = if i = j ∧ j < xs.length then x else gn xs j := by
  unfold gn
  rw [List.getElem?_set]
  by_cases h : i = j
  · subst h
    by_cases h2 : i < xs.length
    · simp [h2]
    · simp [h2]
  · simp [h]
theorem gn_set_same {xs : List Nat} {i : Nat} (h : i < xs.length) (x : Nat) : gn (xs.set i x) i = x := by rw [gn_set, if_pos ⟨rfl, h⟩]
theorem gn_set_ne {xs : List Nat} {i j : Nat} (h : i ≠ j) (x : Nat) : gn (xs.set i x) j = gn xs j := by rw [gn_set, if_neg (fun e => h e.1)]
theorem gn_out {xs : List Nat} {i : Nat} (h : xs.length ≤ i) : gn xs i = 0 := by
  unfold gn
  rw [List.getElem?_eq_none h]
  rfl

/-- What is above a word's 26 bits goes to the next one. -/
theorem carry_step (xs : List Nat) (h : xs.length = 5) (k : Nat) (hk : k < 4) : V5 ((xs.set k (gn xs k % 67108864)).set (k + 1) (gn xs (k + 1) + gn xs k / 67108864)) = V5 xs := by
  obtain ⟨a, b, c, d, e, rfl⟩ := five h
  match k, hk with
  | 0, _ => simp [V5, gn]; omega
  | 1, _ => simp [V5, gn]; omega
  | 2, _ => simp [V5, gn]; omega
  | 3, _ => simp [V5, gn]; omega
theorem carry_last (xs : List Nat) (h : xs.length = 5) : V5 ((xs.set 4 (gn xs 4 % 67108864)).set 0 (gn xs 0 + 5 * (gn xs 4 / 67108864))) + gn xs 4 / 67108864 * PP = V5 xs := by
  obtain ⟨a, b, c, d, e, rfl⟩ := five h
  simp [V5, gn, PP]
  omega
theorem V5_le_last (xs : List Nat) : 20282409603651670423947251286016 * gn xs 4 ≤ V5 xs := by unfold V5; omega
theorem and26 (x : Int) (h0 : 0 ≤ x) (h1 : x < 18446744073709551616) : bits .and .u64 x 67108863 = x % 67108864 := by
  rw [u64_and _ _ h0 h1 (by omega) (by omega)]
  have e : (67108863 : Int).toNat = 2 ^ 26 - 1 := rfl
  rw [e, Nat.and_two_pow_sub_one_eq_mod]
  omega
theorem and24 (x : Int) (h0 : 0 ≤ x) (h1 : x < 18446744073709551616) : bits .and .u64 x 16777215 = x % 16777216 := by
  rw [u64_and _ _ h0 h1 (by omega) (by omega)]
  have e : (16777215 : Int).toNat = 2 ^ 24 - 1 := rfl
  rw [e, Nat.and_two_pow_sub_one_eq_mod]
  omega

/-- The words that a block holds. -/
def wordsAt (w : World) (g : Nat) : List Nat := match w.heap[g]? with
  | some (.cells cs _ _) => cs.toList.map fun v => (match v with | .int _ z => z.toNat | _ => 0)
  | _ => []
theorem wordsAt_row {w : World} {g : Nat} {t : TypeId} {xs : List Nat} (h : Row w g t (ns xs)) : wordsAt w g = xs := by
  unfold wordsAt
  rw [show w.heap[g]? = _ from h]
  simp only [ns, List.map_map]
  clear h
  induction xs with
  | nil => rfl
  | cons x r ih => simpa using ih
/-- What is carried: as much by 2^130 - 5, and as much itself where it is below 2^130. -/
structure Cy (v : Nat) (ys : List Nat) : Prop where
  mod : V5 ys % PP = v % PP
  eq : v < 1361129467683753853853498429727072845824 → V5 ys = v
theorem Cy.wrap {v : Nat} {ys zs : List Nat} (h : Cy v ys) {o : Nat} (e : V5 zs + o * PP = V5 ys) (hv : 1361129467683753853853498429727072845824 ≤ V5 ys) : Cy v zs := by
  refine ⟨?_, fun hl => ?_⟩
  · rw [← h.mod, ← e, Nat.add_mul_mod_self_right]
  · have := h.eq hl
    omega
end Go.Proofs.YtbheoldakmcppaaGreatDoor

/-! What poly.carried answers. -/
namespace Go.Proofs.YtbheoldakmcppaaGreatDoor
open Go Go.RowKit

set_option maxRecDepth 20000 in
set_option maxHeartbeats 1000000 in
theorem carried_any (xs : List Nat) (hl : xs.length = 5) (hx : ∀ i, gn xs i < 4611686018427387904) (w : World) :
    Calls Tryz.prog 174 #[.agg (ns xs)] w fun e w' => ∃ ys, e = .returned (.agg (ns ys)) ∧ Sm ys ∧ Cy (V5 xs) ys ∧ Below w.heap.size w w' := by
  obtain ⟨V, hV⟩ : ∃ V, V = V5 xs := ⟨_, rfl⟩
  have HCY : Hid (Cy V xs) := show Cy V xs from ⟨by rw [hV], fun _ => hV.symm⟩
  have HL := veil hl
  have HX := veil hx
  have R0 : Row ((w.alloc (.cells (ns xs) 215)).alloc (.cells (ns (List.replicate 5 0)) 215)) w.heap.size 215 (ns xs) := (Row.new _ _ _).alloc _
  rw [← hV]
  clear hl hx hV
  go_enter Tryz.func174, Tryz.ntmps174
  go_wp2
  go_step3
  go_wp2
  go_step3
  go_wp2
  go_loopw [5] (fun _ wr => ∃ ys : List Nat, Hid (ys.length = 5) ∧ Hid (∀ i, gn ys i < 4611686018427387904) ∧ Hid (Cy V ys) ∧ Row wr (w.heap.size + 1) 215 (ns (List.replicate 5 0)) ∧ Row wr w.heap.size 215 (ns ys) ∧ Below w.heap.size w wr)
    (fun _ wr => V5 (wordsAt wr w.heap.size))
  case atStart => exact ⟨xs, HL, HX, HCY, Row.new1 _ _ _ (ns (List.replicate 5 0)), R0, ((Below.refl _ w).alloc (Nat.le_refl _) _).alloc (by simp) _⟩
  case round =>
    clear R0 HL HX HCY
    obtain ⟨ys, HL, HX0, HC, r1, r0, hbel⟩ := hrel
    have HW0 : Hid (V5 (wordsAt wr w.heap.size) = V5 ys) := show _ = _ by rw [wordsAt_row r0]
    have HX : Hid (∀ i, gn ys i < 4611686018427387904) := HX0
    go_wp2
    go_loopw [5] (fun iv wr => ∃ (k : Nat) (zs : List Nat), k ≤ 5 ∧ iv = .int .i64 k ∧ Hid (zs.length = 5) ∧ Hid (∀ i, i < k → gn zs i < 67108864) ∧ Hid (gn zs k < 9223372036854775808) ∧ Hid (∀ i, k < i → gn zs i < 4611686018427387904) ∧ Hid (V5 zs = V5 ys) ∧ Row wr (w.heap.size + 1) 215 (ns (List.replicate 5 0)) ∧ Row wr w.heap.size 215 (ns zs) ∧ Below w.heap.size w wr)
      (fun iv _ => 5 - (intOf iv).toNat)
    case atStart => exact ⟨0, ys, by omega, rfl, HL, fun i h => by omega, Nat.lt_trans (HX.out 0) (by omega), fun i _ => HX.out i, rfl, r1, r0, hbel⟩
    case round =>
      clear r0 r1 hbel HL HX
      obtain ⟨k, zs, hk, rfl, HL, HA, HK, HB, HV, r1, r0, hbel⟩ := hrel
      by_cases h5 : k < 5
      · have cx := r0.cellN (j := k) (by rw [HL.out]; exact h5)
        have fx := r0.frozen k
        obtain ⟨x, hxe⟩ : ∃ x, x = gn zs k := ⟨_, rfl⟩
        have hx63 : x < 9223372036854775808 := by rw [hxe]; exact HK.out
        rw [← hxe] at cx
        have hm26 : bits .and .u64 (x : Int) 67108863 = (x : Int) % 67108864 := and26 _ (by omega) (by omega)
        by_cases h4 : k < 4
        · have cy := r0.cellN (j := k + 1) (by rw [HL.out]; omega)
          have fy := r0.frozen (k + 1)
          obtain ⟨y, hye⟩ : ∃ y, y = gn zs (k + 1) := ⟨_, rfl⟩
          have hy62 : y < 4611686018427387904 := by rw [hye]; exact HB.out _ (by omega)
          rw [← hye] at cy
          have HXE := veil hxe
          have HYE := veil hye
          clear hxe hye
          have e1 : (x : Int) % 67108864 = ((x % 67108864 : Nat) : Int) := by omega
          have e2 : (y : Int) + (x : Int) / 67108864 = ((y + x / 67108864 : Nat) : Int) := by omega
          have E1 := veil e1
          have E2 := veil e2
          clear e1 e2
          go_wp2
          go_roundw
          case rel =>
            rw [E1.out, E2.out]
            have q0 := (r0.set k (.int .u64 ((x % 67108864 : Nat) : Int))).set (k + 1) (.int .u64 ((y + x / 67108864 : Nat) : Int))
            rw [ns_set, ns_set] at q0
            refine ⟨k + 1, _, by omega, by go_num, ?_, ?_, ?_, ?_, ?_, (r1.other (by show w.heap.size + 1 ≠ w.heap.size; omega) _).other (by show w.heap.size + 1 ≠ w.heap.size; omega) _, q0, (hbel.setCell (p := ⟨w.heap.size, k, none⟩) (Nat.le_refl _) _).setCell (p := ⟨w.heap.size, k + 1, none⟩) (Nat.le_refl _) _⟩
            · show List.length _ = 5
              rw [List.length_set, List.length_set]; exact HL.out
            · intro i hi
              rw [gn_set_ne (by omega)]
              by_cases hik : i = k
              · subst hik
                rw [gn_set_same (by rw [HL.out]; omega)]; omega
              · rw [gn_set_ne (by omega)]; exact HA.out i (by omega)
            · show gn _ _ < _
              rw [gn_set_same (by rw [List.length_set, HL.out]; omega)]; omega
            · intro i hi
              rw [gn_set_ne (by omega), gn_set_ne (by omega)]; exact HB.out i (by omega)
            · show V5 _ = V5 _
              rw [HXE.out, HYE.out, carry_step zs HL.out k h4]; exact HV.out
          case measure => simp [intOf]; omega
        · obtain rfl : k = 4 := by omega
          have c0 := r0.cellN (j := 0) (by rw [HL.out]; omega)
          have f0 := r0.frozen 0
          obtain ⟨y, hye⟩ : ∃ y, y = gn zs 0 := ⟨_, rfl⟩
          have hy26 : y < 67108864 := by rw [hye]; exact HA.out 0 (by omega)
          rw [← hye] at c0
          have HXE := veil hxe
          have HYE := veil hye
          have e1 : (x : Int) % 67108864 = ((x % 67108864 : Nat) : Int) := by omega
          have e2 : (y : Int) + 5 * ((x : Int) / 67108864) = ((y + 5 * (x / 67108864) : Nat) : Int) := by omega
          have E1 := veil e1
          have E2 := veil e2
          clear e1 e2 hxe hye
          by_cases hov : 67108864 ≤ x
          · have hd : decide (0 < (x : Int) / 67108864) = true := by simp; omega
            go_wp2
            go_roundw
            case rel =>
              rw [E1.out, E2.out]
              have q0 := (r0.set 4 (.int .u64 ((x % 67108864 : Nat) : Int))).set 0 (.int .u64 ((y + 5 * (x / 67108864) : Nat) : Int))
              rw [ns_set, ns_set] at q0
              refine ⟨_, ?_, ?_, ?_, (r1.other (by show w.heap.size + 1 ≠ w.heap.size; omega) _).other (by show w.heap.size + 1 ≠ w.heap.size; omega) _, q0, (hbel.setCell (p := ⟨w.heap.size, 4, none⟩) (Nat.le_refl _) _).setCell (p := ⟨w.heap.size, 0, none⟩) (Nat.le_refl _) _⟩
              · show List.length _ = 5
                rw [List.length_set, List.length_set]; exact HL.out
              · intro i
                by_cases hi0 : i = 0
                · subst hi0
                  rw [gn_set_same (by rw [List.length_set, HL.out]; omega)]; omega
                · rw [gn_set_ne (by omega)]
                  by_cases hi4 : i = 4
                  · subst hi4
                    rw [gn_set_same (by rw [HL.out]; omega)]; omega
                  · rw [gn_set_ne (by omega)]
                    by_cases hi5 : i < 5
                    · exact Nat.lt_trans (HA.out i (by omega)) (by omega)
                    · rw [gn_out (by rw [HL.out]; omega)]; omega
              · have hcy : Cy V zs := ⟨by rw [HV.out]; exact HC.out.mod, by rw [HV.out]; exact HC.out.eq⟩
                refine hcy.wrap (o := x / 67108864) ?_ ?_
                · rw [HXE.out, HYE.out]; exact carry_last zs HL.out
                · have := V5_le_last zs
                  rw [← HXE.out] at this
                  omega
            case measure =>
              rw [E1.out, E2.out]
              have q0 := (r0.set 4 (.int .u64 ((x % 67108864 : Nat) : Int))).set 0 (.int .u64 ((y + 5 * (x / 67108864) : Nat) : Int))
              rw [ns_set, ns_set] at q0
              rw [wordsAt_row q0, HW0.out, ← HV.out]
              have := carry_last zs HL.out
              rw [← HXE.out, ← HYE.out] at this
              have h1 : 1 * PP ≤ x / 67108864 * PP := Nat.mul_le_mul_right _ (by omega)
              have h2 : 0 < PP := by decide
              omega
          · have hd : decide (0 < (x : Int) / 67108864) = false := by simp; omega
            have HE : Hid (x % 67108864 = x) := show _ = _ from Nat.mod_eq_of_lt (by omega)
            go_wp2
            go_roundw
            case rel =>
              rw [E1.out, HE.out]
              have q0 := r0.set 4 (.int .u64 (x : Int))
              rw [ns_set] at q0
              refine ⟨5, _, by omega, by go_num, ?_, ?_, ?_, ?_, ?_, (r1.other (by show w.heap.size + 1 ≠ w.heap.size; omega) _), q0, (hbel.setCell (p := ⟨w.heap.size, 4, none⟩) (Nat.le_refl _) _)⟩
              · show List.length _ = 5
                rw [List.length_set]; exact HL.out
              · intro i hi
                by_cases hi4 : i = 4
                · subst hi4
                  rw [gn_set_same (by rw [HL.out]; omega)]; omega
                · rw [gn_set_ne (by omega)]; exact HA.out i (by omega)
              · show gn _ _ < _
                rw [gn_out (by rw [List.length_set, HL.out]; omega)]; omega
              · intro i hi
                rw [gn_out (by rw [List.length_set, HL.out]; omega)]; omega
              · show V5 _ = V5 _
                rw [← HV.out, HXE.out]
                obtain ⟨a, b, c, d, e, rfl⟩ := five HL.out
                simp [gn]
            case measure => simp [intOf]
      · obtain rfl : k = 5 := by omega
        have HS : Hid (Sm zs) := show Sm zs from ⟨HL.out, fun i => by
          by_cases hi : i < 5
          · exact HA.out i hi
          · rw [gn_out (by rw [HL.out]; omega)]; omega⟩
        have HCZ : Hid (Cy V zs) := show Cy V zs from ⟨by rw [HV.out]; exact HC.out.mod, by rw [HV.out]; exact HC.out.eq⟩
        go_wp2_with (first
          | (with_reducible (show wpList _ _ _ (⟨_, Op.load 215 _, _, _, _, _⟩ :: _) _ _)
             refine load_row rfl 215 _ rfl w.heap.size rfl _ _ r0 5 23 Tryz.underlying215 (by kernel_rfl) (by rw [ns_size, HL.out]) ?_)
          | (with_reducible (show wpList _ _ _ (⟨_, Op.store 215 _ _, _, _, _, _⟩ :: _) _ _)
             refine store_row rfl 215 _ _ rfl (w.heap.size + 1) (ns zs) rfl rfl _ _ r1 5 (by kernel_rfl) (by rw [ns_size, List.length_replicate]) (by rw [ns_size, HL.out]) (ns_one _) ?_))
        rw [Exit.noGoto_ret]
        refine bodyPost_ret (result_row rfl _ _ (w.heap.size + 1) _ _ (r1.put _) 5 23 rfl Tryz.underlying215 (by kernel_rfl) (by rw [ns_size, HL.out])) rfl ⟨zs, rfl, HS.out, HCZ.out, bSetRow hbel (by omega) _⟩
end Go.Proofs.YtbheoldakmcppaaGreatDoor

/-! What poly.sum and poly.below128 answer. -/
namespace Go.Proofs.YtbheoldakmcppaaGreatDoor
open Go Go.RowKit

theorem V5_sum (a b zs : List Nat) (h : ∀ i, i < 5 → gn zs i = gn a i + gn b i) : V5 zs = V5 a + V5 b := by
  unfold V5
  rw [h 0 (by omega), h 1 (by omega), h 2 (by omega), h 3 (by omega), h 4 (by omega)]
  omega

set_option maxRecDepth 20000 in
set_option maxHeartbeats 1000000 in
theorem plSum_any (a b : List Nat) (ha : Sm a) (hb : Sm b) (w : World) :
    Calls Tryz.prog 151 #[.agg (ns a), .agg (ns b)] w fun e w' => ∃ ys, e = .returned (.agg (ns ys)) ∧ Sm ys ∧ Cy (V5 a + V5 b) ys ∧ Below w.heap.size w w' := by
  have HA := veil ha
  have HB := veil hb
  have R0 : Row (((w.alloc (.cells (ns a) 215)).alloc (.cells (ns b) 215)).alloc (.cells (ns (List.replicate 5 0)) 215)) w.heap.size 215 (ns a) := ((Row.new _ _ _).alloc _).alloc _
  have R1 : Row (((w.alloc (.cells (ns a) 215)).alloc (.cells (ns b) 215)).alloc (.cells (ns (List.replicate 5 0)) 215)) (w.heap.size + 1) 215 (ns b) := (Row.new1 _ _ _ _).alloc _
  clear ha hb
  go_enter Tryz.func151, Tryz.ntmps151
  go_wp2
  go_loopw [6] (fun iv wr => ∃ (k : Nat) (zs : List Nat), k ≤ 5 ∧ iv = .int .i64 k ∧ Hid (zs.length = 5) ∧ Hid (∀ i, i < k → gn zs i = gn a i + gn b i) ∧ Hid (∀ i, k ≤ i → gn zs i = gn a i) ∧ Row wr w.heap.size 215 (ns zs) ∧ Row wr (w.heap.size + 1) 215 (ns b) ∧ Row wr (w.heap.size + 1 + 1) 215 (ns (List.replicate 5 0)) ∧ Below w.heap.size w wr)
    (fun iv _ => 5 - (intOf iv).toNat)
  case atStart => exact ⟨0, a, by omega, rfl, HA.out.len, fun i h => by omega, fun i _ => rfl, R0, R1, Row.new2 _ _ _ _ (ns (List.replicate 5 0)), (((Below.refl _ w).alloc (Nat.le_refl _) _).alloc (by simp) _).alloc (by simp; omega) _⟩
  case round =>
    clear R0 R1
    obtain ⟨k, zs, hk, rfl, HL, HD, HU, r0, r1, r2, hbel⟩ := hrel
    by_cases h5 : k < 5
    · have cx := r0.cellN (j := k) (by rw [HL.out]; exact h5)
      have fx := r0.frozen k
      have cy := r1.cellN (j := k) (by rw [HB.out.len]; exact h5)
      rw [HU.out k (Nat.le_refl _)] at cx
      obtain ⟨x, hxe⟩ : ∃ x, x = gn a k := ⟨_, rfl⟩
      obtain ⟨y, hye⟩ : ∃ y, y = gn b k := ⟨_, rfl⟩
      have hx26 : x < 67108864 := by rw [hxe]; exact HA.out.lt _
      have hy26 : y < 67108864 := by rw [hye]; exact HB.out.lt _
      rw [← hxe] at cx
      rw [← hye] at cy
      have HXE := veil hxe
      have HYE := veil hye
      have E1 := veil (show (x : Int) + (y : Int) = ((x + y : Nat) : Int) by omega)
      clear hxe hye
      go_wp2
      go_region
      all_goals go_wp2
      all_goals
        go_roundw
        case rel =>
          rw [E1.out]
          have q0 := r0.set k (.int .u64 ((x + y : Nat) : Int))
          rw [ns_set] at q0
          refine ⟨k + 1, _, by omega, by go_num, ?_, ?_, ?_, q0, r1.other (by show w.heap.size + 1 ≠ w.heap.size; omega) _, r2.other (by show w.heap.size + 1 + 1 ≠ w.heap.size; omega) _, (below_drewN hbel _).setCell (p := ⟨w.heap.size, k, none⟩) (Nat.le_refl _) _⟩
          · show List.length _ = 5
            rw [List.length_set]; exact HL.out
          · intro i hi
            by_cases hik : i = k
            · subst hik
              rw [gn_set_same (by rw [HL.out]; omega), HXE.out, HYE.out]
            · rw [gn_set_ne (by omega)]; exact HD.out i (by omega)
          · intro i hi
            rw [gn_set_ne (by omega)]; exact HU.out i (by omega)
        case measure => simp [intOf]; omega
    · obtain rfl : k = 5 := by omega
      have HV : Hid (V5 zs = V5 a + V5 b) := show _ = _ from V5_sum a b zs HD.out
      have HX : Hid (∀ i, gn zs i < 4611686018427387904) := show ∀ i, gn zs i < 4611686018427387904 from fun i => by
        by_cases hi : i < 5
        · rw [HD.out i hi]
          have h1 := HA.out.lt i
          have h2 := HB.out.lt i
          omega
        · rw [gn_out (by rw [HL.out]; omega)]; omega
      go_wp2_with (with_reducible (show wpList _ _ _ (⟨_, Op.load 215 _, _, _, _, _⟩ :: _) _ _)
                   refine load_row rfl 215 _ rfl w.heap.size rfl _ _ r0 5 23 Tryz.underlying215 (by kernel_rfl) (by rw [ns_size, HL.out]) ?_)
      refine (carried_any zs HL.out HX.out wr).mono ?_
      rintro e1 w1 ⟨ys, rfl, hsm, hcy, hb1⟩
      have HS := veil hsm
      have HC := veil hcy
      have hs1 := hbel.size
      have q2 := r2.below hb1 r2.lt
      have bel2 : Below w.heap.size w w1 := hbel.trans (hb1.mono hs1)
      clear hsm hcy
      go_wp2_with (with_reducible (show wpList _ _ _ (⟨_, Op.store 215 _ _, _, _, _, _⟩ :: _) _ _)
                   refine store_row rfl 215 _ _ rfl (w.heap.size + 1 + 1) (ns ys) rfl rfl _ _ q2 5 (by kernel_rfl) (by rw [ns_size, List.length_replicate]) (by rw [ns_size, HS.out.len]) (ns_one _) ?_)
      refine bodyPost_ret (result_row rfl _ _ (w.heap.size + 1 + 1) _ _ (q2.put _) 5 23 rfl Tryz.underlying215 (by kernel_rfl) (by rw [ns_size, HS.out.len])) rfl ⟨ys, rfl, HS.out, by rw [← HV.out]; exact HC.out, bSetRow bel2 (by omega) _⟩

set_option maxRecDepth 20000 in
set_option maxHeartbeats 1000000 in
theorem below128_any (a : List Nat) (ha : Sm a) (w : World) :
    Calls Tryz.prog 153 #[.agg (ns a)] w fun e w' => ∃ ys, e = .returned (.agg (ns ys)) ∧ Sm ys ∧ V5 ys = V5 a % 340282366920938463463374607431768211456 ∧ Below w.heap.size w w' := by
  have HA := veil ha
  have r0 : Row ((w.alloc (.cells (ns a) 215)).alloc (.cells (ns (List.replicate 5 0)) 215)) w.heap.size 215 (ns a) := (Row.new _ _ _).alloc _
  have r1 : Row ((w.alloc (.cells (ns a) 215)).alloc (.cells (ns (List.replicate 5 0)) 215)) (w.heap.size + 1) 215 (ns (List.replicate 5 0)) := Row.new1 _ _ _ _
  have hbel : Below w.heap.size w ((w.alloc (.cells (ns a) 215)).alloc (.cells (ns (List.replicate 5 0)) 215)) := ((Below.refl _ w).alloc (Nat.le_refl _) _).alloc (by simp) _
  have cx := r0.cellN (j := 4) (by rw [ha.len]; omega)
  have fx := r0.frozen 4
  obtain ⟨x, hxe⟩ : ∃ x, x = gn a 4 := ⟨_, rfl⟩
  have hx26 : x < 67108864 := by rw [hxe]; exact ha.lt _
  rw [← hxe] at cx
  have hm24 : bits .and .u64 (x : Int) 16777215 = (x : Int) % 16777216 := and24 _ (by omega) (by omega)
  have E1 := veil (show (x : Int) % 16777216 = ((x % 16777216 : Nat) : Int) by omega)
  have q0 := r0.set 4 (.int .u64 ((x % 16777216 : Nat) : Int))
  rw [ns_set] at q0
  have HS : Hid (Sm (a.set 4 (x % 16777216))) := show Sm _ from ⟨by rw [List.length_set]; exact ha.len, fun i => by
    rw [gn_set]
    split
    · omega
    · exact ha.lt i⟩
  have HV : Hid (V5 (a.set 4 (x % 16777216)) = V5 a % 340282366920938463463374607431768211456) := show _ = _ by
    have h0 := ha.lt 0
    have h1 := ha.lt 1
    have h2 := ha.lt 2
    have h3 := ha.lt 3
    have h4 := ha.lt 4
    rw [hxe]
    obtain ⟨a0, b0, c0, d0, e0, rfl⟩ := five ha.len
    simp [V5, gn] at h0 h1 h2 h3 h4 ⊢
    omega
  have c4 := ns_get a 4 (by rw [ha.len]; omega)
  rw [← hxe] at c4
  have hz : ((ns a).setIfInBounds 4 (.int .u64 ((x : Int) % 16777216))).size = 5 := by rw [Array.size_setIfInBounds, ns_size, ha.len]
  have hone : Hid (((ns a).setIfInBounds 4 (.int .u64 ((x : Int) % 16777216))).all (·.oneCell') = true) := show _ = _ by rw [E1.out, ns_set]; exact ns_one _
  have HE : Hid ((ns a).setIfInBounds 4 (.int .u64 ((x : Int) % 16777216)) = ns (a.set 4 (x % 16777216))) := show _ = _ by rw [E1.out, ns_set]
  clear ha hxe cx q0 r0 r1 fx hbel
  go_enter Tryz.func153, Tryz.ntmps153
  go_wp2_with (first
    | (with_reducible (show wpList _ _ _ (⟨_, Op.load 215 _, _, _, _, _⟩ :: _) _ _)
       refine load_row rfl 215 _ rfl w.heap.size rfl _ _ ((Row.new _ _ _).alloc _) 5 23 Tryz.underlying215 (by kernel_rfl) hz ?_)
    | (with_reducible (show wpList _ _ _ (⟨_, Op.store 215 _ _, _, _, _, _⟩ :: _) _ _)
       refine store_row rfl 215 _ _ rfl (w.heap.size + 1) _ rfl rfl _ _ (Row.new1 _ _ _ _) 5 (by kernel_rfl) rfl hz hone.out ?_))
  refine bodyPost_ret (result_row rfl _ _ (w.heap.size + 1) _ _ ((Row.new1 _ _ _ _).put _) 5 23 rfl Tryz.underlying215 (by kernel_rfl) hz) rfl ⟨_, by rw [HE.out], HS.out, HV.out, bSetRow (((Below.refl _ w).alloc (Nat.le_refl _) _).alloc (by simp) _) (by omega) _⟩
end Go.Proofs.YtbheoldakmcppaaGreatDoor

/-! What poly.product answers. -/
namespace Go.Proofs.YtbheoldakmcppaaGreatDoor
open Go Go.RowKit

/-- The number of the first k words. -/
def Vk (a : List Nat) : Nat → Nat
  | 0 => 0
  | k + 1 => Vk a k + gn a k * 67108864 ^ k
theorem Vk_five (a : List Nat) : Vk a 5 = V5 a := by
  simp only [Vk, V5, Nat.reducePow]
  omega
theorem V5_add (zs : List Nat) (hl : zs.length = 5) (m : Nat) (hm : m < 5) (x : Nat) : V5 (zs.set m (gn zs m + x)) = V5 zs + x * 67108864 ^ m := by
  obtain ⟨a, b, c, d, e, rfl⟩ := five hl
  match m, hm with
  | 0, _ => simp [V5, gn]; omega
  | 1, _ => simp [V5, gn]; omega
  | 2, _ => simp [V5, gn]; omega
  | 3, _ => simp [V5, gn]; omega
  | 4, _ => simp [V5, gn]; omega
/-- The sum, when all below (i, j) is in it. -/
def Pij (a b : List Nat) (i j : Nat) : Nat := Vk a i * V5 b + gn a i * 67108864 ^ i * Vk b j
theorem Pij_step (a b : List Nat) (i j : Nat) : Pij a b i (j + 1) = Pij a b i j + gn a i * gn b j * 67108864 ^ (i + j) := by
  unfold Pij
  rw [show Vk b (j + 1) = Vk b j + gn b j * 67108864 ^ j from rfl, Nat.mul_add, Nat.pow_add, ← Nat.add_assoc]
  congr 1
  simp only [Nat.mul_assoc, Nat.mul_left_comm]
theorem Pij_next (a b : List Nat) (i : Nat) : Pij a b (i + 1) 0 = Pij a b i 5 := by
  unfold Pij
  rw [Vk_five, show Vk b 0 = 0 from rfl, Nat.mul_zero, Nat.add_zero, show Vk a (i + 1) = Vk a i + gn a i * 67108864 ^ i from rfl, Nat.add_mul]
theorem Pij_all (a b : List Nat) : Pij a b 5 0 = V5 a * V5 b := by
  unfold Pij
  rw [Vk_five, show Vk b 0 = 0 from rfl, Nat.mul_zero, Nat.add_zero]
/-- As much by 2^130 - 5. -/
def Eqp (x y : Nat) : Prop := ∃ q, x + q * PP = y
theorem Eqp.mod {x y : Nat} (h : Eqp x y) : x % PP = y % PP := by
  obtain ⟨q, rfl⟩ := h
  rw [Nat.add_mul_mod_self_right]
theorem pow130 (m : Nat) : 67108864 ^ (m + 5) = 67108864 ^ m * 5 + 67108864 ^ m * PP := by
  rw [Nat.pow_add, ← Nat.mul_add]
  congr 1
theorem Eqp.low {zs : List Nat} (hl : zs.length = 5) {a b : List Nat} {i j : Nat} (h : Eqp (V5 zs) (Pij a b i j)) (hij : i + j < 5) (x : Nat) (hx : x = gn a i * gn b j) : Eqp (V5 (zs.set (i + j) (gn zs (i + j) + x))) (Pij a b i (j + 1)) := by
  obtain ⟨q, hq⟩ := h
  refine ⟨q, ?_⟩
  rw [V5_add zs hl _ hij, Pij_step, ← hq, hx]
  omega
theorem Eqp.high {zs : List Nat} (hl : zs.length = 5) {a b : List Nat} {i j m : Nat} (h : Eqp (V5 zs) (Pij a b i j)) (hm : i + j = m + 5) (hm5 : m < 5) (x : Nat) (hx : x = gn a i * gn b j) : Eqp (V5 (zs.set m (gn zs m + x * 5))) (Pij a b i (j + 1)) := by
  obtain ⟨q, hq⟩ := h
  refine ⟨q + x * 67108864 ^ m, ?_⟩
  rw [V5_add zs hl _ hm5, Pij_step, ← hq, ← hx, hm, pow130, Nat.add_mul, Nat.mul_add]
  have e1 : x * 5 * 67108864 ^ m = x * (67108864 ^ m * 5) := by rw [Nat.mul_assoc, Nat.mul_comm 5]
  have e2 : x * 67108864 ^ m * PP = x * (67108864 ^ m * PP) := Nat.mul_assoc _ _ _
  rw [e1, e2]
  omega

set_option maxRecDepth 20000 in
set_option maxHeartbeats 1000000 in
theorem product_any (a b : List Nat) (ha : Sm a) (hb : Sm b) (w : World) :
    Calls Tryz.prog 150 #[.agg (ns a), .agg (ns b)] w fun e w' => ∃ ys, e = .returned (.agg (ns ys)) ∧ Sm ys ∧ V5 ys % PP = V5 a * V5 b % PP ∧ Below w.heap.size w w' := by
  have HA := veil ha
  have HB := veil hb
  clear ha hb
  go_enter Tryz.func150, Tryz.ntmps150
  go_wp2
  go_loopw [9] (fun iv wr => ∃ (i : Nat) (zs : List Nat), i ≤ 5 ∧ iv = .int .i64 i ∧ Hid (zs.length = 5) ∧ Hid (∀ m, gn zs m ≤ 5 * i * 22517998136852480) ∧ Hid (Eqp (V5 zs) (Pij a b i 0)) ∧ Row wr w.heap.size 215 (ns a) ∧ Row wr (w.heap.size + 1) 215 (ns b) ∧ Row wr (w.heap.size + 1 + 1) 215 (ns (List.replicate 5 0)) ∧ Row wr (w.heap.size + 1 + 1 + 1) 215 (ns zs) ∧ Below w.heap.size w wr)
    (fun iv _ => 5 - (intOf iv).toNat)
  case atStart =>
    refine ⟨0, List.replicate 5 0, by omega, rfl, rfl, fun m => ?_, ⟨0, ?_⟩, (((Row.new _ _ _).alloc _).alloc _).alloc _, ((Row.new1 _ _ _ _).alloc _).alloc _, (Row.new2 _ _ _ _ (ns (List.replicate 5 0))).alloc _, Row.new3 _ _ _ _ _ (ns (List.replicate 5 0)), ((((Below.refl _ w).alloc (Nat.le_refl _) _).alloc (by simp) _).alloc (by simp; omega) _).alloc (by simp; omega) _⟩
    · show gn _ m ≤ _
      unfold gn
      rw [List.getElem?_replicate]
      split <;> simp
    · simp [Pij, Vk, V5, gn]
  case round =>
    obtain ⟨i, zs, hi, rfl, HL, HM, HE, r0, r1, r2, r3, hbel⟩ := hrel
    by_cases h5 : i < 5
    · go_wp2
      go_loopw [12] (fun jv wr => ∃ (j : Nat) (zs : List Nat), j ≤ 5 ∧ jv = .int .i64 j ∧ Hid (zs.length = 5) ∧ Hid (∀ m, gn zs m ≤ (5 * i + j) * 22517998136852480) ∧ Hid (Eqp (V5 zs) (Pij a b i j)) ∧ Row wr w.heap.size 215 (ns a) ∧ Row wr (w.heap.size + 1) 215 (ns b) ∧ Row wr (w.heap.size + 1 + 1) 215 (ns (List.replicate 5 0)) ∧ Row wr (w.heap.size + 1 + 1 + 1) 215 (ns zs) ∧ Below w.heap.size w wr)
        (fun jv _ => 5 - (intOf jv).toNat)
      case atStart => exact ⟨0, zs, by omega, rfl, HL, HM, HE, r0, r1, r2, r3, hbel⟩
      case round =>
        clear HL HM HE r0 r1 r2 r3 hbel zs
        obtain ⟨j, zs, hj, rfl, HL, HM, HE, r0, r1, r2, r3, hbel⟩ := hrel
        by_cases hj5 : j < 5
        · have ca := r0.cellN (j := i) (by rw [HA.out.len]; exact h5)
          have cb := r1.cellN (j := j) (by rw [HB.out.len]; exact hj5)
          obtain ⟨x, hxe⟩ : ∃ x, x = gn a i := ⟨_, rfl⟩
          obtain ⟨y, hye⟩ : ∃ y, y = gn b j := ⟨_, rfl⟩
          have hx26 : x < 67108864 := by rw [hxe]; exact HA.out.lt _
          have hy26 : y < 67108864 := by rw [hye]; exact HB.out.lt _
          rw [← hxe] at ca
          rw [← hye] at cb
          obtain ⟨z, hz⟩ : ∃ z, z = x * y := ⟨_, rfl⟩
          have hzb : z ≤ 4503599627370496 := by
            rw [hz]
            exact Nat.mul_le_mul (Nat.le_of_lt hx26) (Nat.le_of_lt hy26)
          have hmul : IntKind.u64.wrap ((x : Int) * (y : Int)) = (z : Int) := by
            rw [show (x : Int) * (y : Int) = (z : Int) by rw [hz, Int.natCast_mul], IntKind.wrap_u64]
            omega
          have HZ : Hid (z = gn a i * gn b j) := show _ = _ by rw [hz, hxe, hye]
          clear hz hxe hye
          have cz := r3.cellN (j := (i + j) % 5) (by rw [HL.out]; omega)
          have fz := r3.frozen ((i + j) % 5)
          obtain ⟨v, hve⟩ : ∃ v, v = gn zs ((i + j) % 5) := ⟨_, rfl⟩
          have hvb : v ≤ 562949953421312000 := by
            rw [hve]
            exact Nat.le_trans (HM.out _) (Nat.mul_le_mul_right 22517998136852480 (show 5 * i + j ≤ 25 by omega))
          have HVB : Hid (v ≤ (5 * i + j) * 22517998136852480) := show _ ≤ _ by rw [hve]; exact HM.out _
          rw [← hve] at cz
          have HVE := veil hve
          clear hve
          by_cases h55 : i + j < 5
          · have hge : decide ((5 : Int) ≤ (i : Int) + (j : Int)) = false := by simp; omega
            have E1 := veil (show (v : Int) + (z : Int) = ((v + z : Nat) : Int) by omega)
            have HN : Hid (Eqp (V5 (zs.set ((i + j) % 5) (v + z))) (Pij a b i (j + 1))) := show Eqp _ _ by
              rw [HVE.out, show (i + j) % 5 = i + j by omega]
              exact HE.out.low HL.out h55 z HZ.out
            have HM' : Hid (∀ m, gn (zs.set ((i + j) % 5) (v + z)) m ≤ (5 * i + (j + 1)) * 22517998136852480) := show ∀ m, gn (zs.set ((i + j) % 5) (v + z)) m ≤ (5 * i + (j + 1)) * 22517998136852480 from fun m => by
              rw [gn_set]
              split
              · have := HVB.out
                generalize hG : (22517998136852480 : Nat) = G at *
                rw [show (5 * i + (j + 1)) * G = (5 * i + j) * G + G by rw [← Nat.add_assoc, Nat.add_mul, Nat.one_mul]]
                exact Nat.add_le_add this (by omega)
              · exact Nat.le_trans (HM.out m) (Nat.mul_le_mul_right _ (by omega))
            go_wp2
            go_quiet (fail)
            go_wp2
            go_roundw
            case rel =>
              rw [E1.out]
              have q3 := r3.set ((i + j) % 5) (.int .u64 ((v + z : Nat) : Int))
              rw [ns_set] at q3
              refine ⟨j + 1, _, by omega, by go_num, ?_, HM', HN, r0.other (by show w.heap.size ≠ w.heap.size + 1 + 1 + 1; omega) _, r1.other (by show w.heap.size + 1 ≠ w.heap.size + 1 + 1 + 1; omega) _, r2.other (by show w.heap.size + 1 + 1 ≠ w.heap.size + 1 + 1 + 1; omega) _, q3, (below_drewN hbel _).setCell (p := ⟨w.heap.size + 1 + 1 + 1, (i + j) % 5, none⟩) (by show w.heap.size ≤ w.heap.size + 1 + 1 + 1; omega) _⟩
              show List.length _ = 5
              rw [List.length_set]; exact HL.out
            case measure => simp [intOf]; omega
          · have hge : decide ((5 : Int) ≤ (i : Int) + (j : Int)) = true := by simp; omega
            have E1 := veil (show (v : Int) + (z : Int) * 5 = ((v + z * 5 : Nat) : Int) by omega)
            have HN : Hid (Eqp (V5 (zs.set ((i + j) % 5) (v + z * 5))) (Pij a b i (j + 1))) := show Eqp _ _ by
              rw [HVE.out]
              exact HE.out.high HL.out (by omega) (by omega) z HZ.out
            have HM' : Hid (∀ m, gn (zs.set ((i + j) % 5) (v + z * 5)) m ≤ (5 * i + (j + 1)) * 22517998136852480) := show ∀ m, gn (zs.set ((i + j) % 5) (v + z * 5)) m ≤ (5 * i + (j + 1)) * 22517998136852480 from fun m => by
              rw [gn_set]
              split
              · have := HVB.out
                generalize hG : (22517998136852480 : Nat) = G at *
                rw [show (5 * i + (j + 1)) * G = (5 * i + j) * G + G by rw [← Nat.add_assoc, Nat.add_mul, Nat.one_mul]]
                exact Nat.add_le_add this (by omega)
              · exact Nat.le_trans (HM.out m) (Nat.mul_le_mul_right _ (by omega))
            go_wp2
            go_quiet (fail)
            go_wp2
            go_roundw
            case rel =>
              rw [E1.out]
              have q3 := r3.set ((i + j) % 5) (.int .u64 ((v + z * 5 : Nat) : Int))
              rw [ns_set] at q3
              refine ⟨j + 1, _, by omega, by go_num, ?_, HM', HN, r0.other (by show w.heap.size ≠ w.heap.size + 1 + 1 + 1; omega) _, r1.other (by show w.heap.size + 1 ≠ w.heap.size + 1 + 1 + 1; omega) _, r2.other (by show w.heap.size + 1 + 1 ≠ w.heap.size + 1 + 1 + 1; omega) _, q3, (below_drewN hbel _).setCell (p := ⟨w.heap.size + 1 + 1 + 1, (i + j) % 5, none⟩) (by show w.heap.size ≤ w.heap.size + 1 + 1 + 1; omega) _⟩
              show List.length _ = 5
              rw [List.length_set]; exact HL.out
            case measure => simp [intOf]; omega
        · have hd : decide ((j : Int) < 5) = false := by simp; omega
          rw [show j = 5 by omega] at HM HE
          go_wp2
          go_roundw
          case rel => exact ⟨i + 1, zs, by omega, by go_num, HL, HM, show Eqp _ _ by rw [Pij_next]; exact HE.out, r0, r1, r2, r3, hbel⟩
          case measure => simp [intOf]; omega
    · have hd : decide ((i : Int) < 5) = false := by simp; omega
      rw [show i = 5 by omega, Pij_all] at HE
      rw [show i = 5 by omega] at HM
      have HX : Hid (∀ m, gn zs m < 4611686018427387904) := show ∀ m, _ < _ from fun m => Nat.lt_of_le_of_lt (HM.out m) (by omega)
      go_wp2_with (with_reducible (show wpList _ _ _ (⟨_, Op.load 215 _, _, _, _, _⟩ :: _) _ _)
                   refine load_row rfl 215 _ rfl (w.heap.size + 1 + 1 + 1) rfl _ _ r3 5 23 Tryz.underlying215 (by kernel_rfl) (by rw [ns_size, HL.out]) ?_)
      refine (carried_any zs HL.out HX.out wr).mono ?_
      rintro e1 w1 ⟨ys, rfl, hsm, hcy, hb1⟩
      have HS := veil hsm
      have HC := veil hcy
      have hs1 := hbel.size
      have q2 := r2.below hb1 r2.lt
      have bel2 : Below w.heap.size w w1 := hbel.trans (hb1.mono hs1)
      clear hsm hcy
      go_wp2_with (with_reducible (show wpList _ _ _ (⟨_, Op.store 215 _ _, _, _, _, _⟩ :: _) _ _)
                   refine store_row rfl 215 _ _ rfl (w.heap.size + 1 + 1) (ns ys) rfl rfl _ _ q2 5 (by kernel_rfl) (by rw [ns_size, List.length_replicate]) (by rw [ns_size, HS.out.len]) (ns_one _) ?_)
      refine bodyPost_ret (result_row rfl _ _ (w.heap.size + 1 + 1) _ _ (q2.put _) 5 23 rfl Tryz.underlying215 (by kernel_rfl) (by rw [ns_size, HS.out.len])) rfl ⟨ys, rfl, HS.out, by rw [HC.out.mod, HE.out.mod], bSetRow bel2 (by omega) _⟩
end Go.Proofs.YtbheoldakmcppaaGreatDoor

/-! Numbers of bytes: no program in sight. -/
namespace Go.Proofs.YtbheoldakmcppaaGreatDoor
open Go

/-- The number of the first k bytes. -/
def leK (b : List By) : Nat → Nat
  | 0 => 0
  | k + 1 => leK b k + (gb b k).toNat * 256 ^ k
/-- The number of bytes. -/
def leN (b : List By) : Nat := leK b b.length
theorem leK_lt (b : List By) (k : Nat) : leK b k < 256 ^ k := by
  induction k with
  | zero => simp [leK]
  | succ k ih =>
    have := (gb b k).isLt
    rw [show leK b (k + 1) = leK b k + (gb b k).toNat * 256 ^ k from rfl, Nat.pow_succ]
    have h : (gb b k).toNat * 256 ^ k ≤ 255 * 256 ^ k := Nat.mul_le_mul_right _ (by omega)
    omega
theorem pow8 (k : Nat) (hk : k ≤ 16) : 2 ^ (8 * k % 26) * 67108864 ^ (8 * k / 26) = 256 ^ k := by
  have h : ∀ k : Fin 17, 2 ^ (8 * k.1 % 26) * 67108864 ^ (8 * k.1 / 26) = 256 ^ k.1 := by decide +kernel
  exact h ⟨k, by omega⟩
theorem pow8_le (k : Nat) : 2 ^ (8 * k % 26) ≤ 2 ^ 24 := Nat.pow_le_pow_right (by omega) (by omega)
theorem num_step (zs : List Nat) (hl : zs.length = 5) (b : List By) (k : Nat) (hk : k ≤ 16) (h : V5 zs = leK b k) (v y : Nat) (hv : v = gn zs (8 * k / 26)) (hy : y = (gb b k).toNat * 2 ^ (8 * k % 26)) : V5 (zs.set (8 * k / 26) (v + y)) = leK b (k + 1) := by
  rw [hv, V5_add zs hl _ (by omega), h, show leK b (k + 1) = leK b k + (gb b k).toNat * 256 ^ k from rfl, ← pow8 k hk, hy, Nat.mul_assoc]
end Go.Proofs.YtbheoldakmcppaaGreatDoor
