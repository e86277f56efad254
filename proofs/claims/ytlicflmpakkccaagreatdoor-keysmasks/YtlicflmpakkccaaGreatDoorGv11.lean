/-
  Out of ShaRefPad, ShaRef.
-/
import Derived.Test.YtlicflmpakkccaaGreatDoorRows
import Derived.Test.YtlicflmpakkccaaGreatDoorGv1
import Derived.Test.YtlicflmpakkccaaGreatDoorGv17
import Derived.WalkKit
import Derived.WalkSpells
import Derived.WalkLawsBesides
import Derived.Deep.QuietTactic
import Derived.BigQuiet

/-! What mailcoachref02.Padded answers. -/
namespace Go.Proofs.YtlicflmpakkccaaGreatDoor
open Go Go.RowKit

theorem len_shift (n q : Nat) : (n : Int) * 8 / 2 ^ (8 * q) % 256 = v8 (BitVec.ofNat 8 (8 * n / 2 ^ (8 * q))) := by
  unfold v8
  rw [BitVec.toNat_ofNat]
  have e : (n : Int) * 8 / 2 ^ (8 * q) = ((8 * n / 2 ^ (8 * q) : Nat) : Int) := by
    rw [Int.natCast_ediv, Int.natCast_pow]
    push_cast
    congr 1
    omega
  rw [e]
  omega
theorem lenB_take (n k : Nat) (h : k < 8) : (lenB n).take (k + 1) = (lenB n).take k ++ [BitVec.ofNat 8 (8 * n / 2 ^ (8 * (7 - k)))] := by
  rw [List.take_add_one, lenB_get n k h]
  rfl

set_option maxRecDepth 20000 in
set_option maxHeartbeats 1000000 in
theorem padded_any (g off : Nat) (a : Option Addr) (len cap : Nat) (b : List By) (w : World) (hb : b.length = len) (hl : len ≤ 1048576) (hn : a = none → len = 0 ∧ cap = 0) (ha : 0 < len → a = some ⟨g, off, none⟩) (hc : ∀ j : Nat, j < len → w.cell? ⟨g, off + j, none⟩ = some (.int .u8 (v8 (gb b j)))) :
    Calls Tryz.prog 85 #[.slice a len cap] w fun e w' => ∃ g' c', e = .returned (.slice (some ⟨g', 0, none⟩) (64 * nb b) c') ∧ OwnB w' w.heap.size g' (64 * nb b) c' (padL b) ∧ Below w.heap.size w w' := by
  obtain ⟨i0, hi, hz0, hz1, hz2⟩ := info_parts (P := Tryz.prog) (e := 5) (z := .int .u8 0) (size := 1) (bytes := 1) (by kernel_rfl)
  have HB := veil hb
  have HA := veil ha
  have HN := veil hn
  have HC := veil hc
  clear hb ha hc hn
  go_enter Tryz.func85, Tryz.ntmps85
  go_wp2_with (first
    | (with_reducible (show wpList _ _ _ (⟨some 8, Op.call _, _, _, _, _⟩ :: _) _ _)
       refine append_in rfl _ _ 22 rfl w.heap.size i0 Tryz.underlying22 hi hz0 hz1 hz2 rfl a g off len cap b HB.out (by omega) rfl HN.out HA.out HC.out (Nat.le_refl _) ?_
       intro v2 w2 hown2 hgrow2
       have hs2 := hgrow2.size)
    | (with_reducible (show wpList _ _ _ (⟨some 11, Op.call _, _, _, _, _⟩ :: _) _ _)
       refine wpList_append_own _ rfl _ _ 22 rfl w.heap.size 5 i0 (.int .u8 0) 1 1 Tryz.underlying22 hi hz0 hz1 hz2 rfl (by decide) _ len _ rfl (hown2.alloc _) ⟨w2.heap.size, 0, none⟩ 1 1 [.int .u8 128] rfl rfl (cell_one_new _ _ _) (by simp [Value.oneCell']) (by unfold maxLen; omega) (by omega) (by simp; omega) ?_
       intro v3 w3 hown3 hgrow3 _
       obtain ⟨g3, c3, rfl⟩ := ownsRow_succ hown3))
  have HO3 : Hid (OwnB w3 w.heap.size g3 (len + 1) c3 (b ++ [128])) := ⟨by rw [List.length_append, HB.out]; rfl, by rw [vb_append]; exact hown3⟩
  have HB2 : Below w.heap.size w w2 := (Below.refl _ w).grown hgrow2 (Nat.le_refl _) (fun k e => by cases e)
  have HB3 : Hid (Below w.heap.size w w3) := (HB2.alloc HB2.size _).grown hgrow3 (by simp; omega) (fun k e => ((hown2.alloc (.cells #[.int .u8 128] 5)).lt k e).1)
  clear hown3 hgrow3 hown2 hgrow2 HB2
  have HPZ := padZ_le len
  have HPM := padZ_mod len
  go_loopw [3] (fun v wr => ∃ (k g' c' : Nat), k ≤ padZ len ∧ v = .slice (some ⟨g', 0, none⟩) (len + 1 + k) c' ∧ OwnB wr w.heap.size g' (len + 1 + k) c' (b ++ 128 :: List.replicate k 0) ∧ Below w.heap.size w wr)
    (fun v _ => padZ len + len + 1 - slen v)
  case atStart => exact ⟨0, g3, c3, Nat.zero_le _, rfl, HO3.out, HB3.out⟩
  case round =>
    clear HO3 HB3
    obtain ⟨k, g4, c4, hk, rfl, ho, hbel⟩ := hrel
    have HO := veil ho
    have HBl := veil hbel
    have hsz := hbel.size
    clear ho hbel
    by_cases hlt : k < padZ len
    · have hne : ¬ (len + 1 + k) % 64 = 56 := by unfold padZ at hlt; omega
      have hneI : ¬ ((len : Int) + 1 + (k : Int)) % 64 = 56 := by omega
      go_wp2_with (first
        | (with_reducible (show wpList _ _ _ (⟨some 18, Op.call _, _, _, _, _⟩ :: _) _ _)
           refine wpList_append_own _ rfl _ _ 22 rfl w.heap.size 5 i0 (.int .u8 0) 1 1 Tryz.underlying22 hi hz0 hz1 hz2 rfl (by decide) _ (len + 1 + k) _ rfl (HO.out.row.alloc _) ⟨wr.heap.size, 0, none⟩ 1 1 [.int .u8 0] rfl rfl (cell_one_new _ _ _) (by simp [Value.oneCell']) (by unfold maxLen; omega) (by omega) (by simp; omega) ?_
           intro v5 w5 hown5 hgrow5 _
           obtain ⟨g5, c5, rfl⟩ := ownsRow_succ hown5))
      refine ⟨⟨k + 1, g5, c5, by omega, rfl, ⟨?_, ?_⟩, (HBl.out.alloc HBl.out.size _).grown hgrow5 (by simp; omega) (fun q e => ((HO.out.row.alloc (.cells #[.int .u8 0] 5)).lt q e).1)⟩, ?_⟩
      · simp only [List.length_append, List.length_cons, List.length_replicate, HB.out]; omega
      · have e : b ++ 128 :: List.replicate (k + 1) 0 = (b ++ 128 :: List.replicate k 0) ++ [0] := by
          rw [List.replicate_succ', List.append_assoc, List.cons_append]
        rw [e, vb_append]
        exact hown5
      · simp only [slen]; omega
    · obtain rfl : k = padZ len := by omega
      have heq : (len + 1 + padZ len) % 64 = 56 := padZ_mod len
      have heqI : ((len : Int) + 1 + (padZ len : Int)) % 64 = 56 := by omega
      generalize wr = W0 at *
      have HPad : Hid (padL b = (b ++ 128 :: List.replicate (padZ len) 0) ++ lenB len) := show padL b = _ by
        unfold padL; rw [HB.out, List.append_assoc, List.cons_append]
      have HNb : Hid (64 * nb b = len + 1 + padZ len + 8) := show 64 * nb b = _ by rw [nb_mul, padL_length, HB.out]; omega
      generalize padZ len = z at *
      go_wp2_with fail
      clear heq heqI HPM
      go_loopw [3, 5] (fun v i wr => ∃ (k g' c' : Nat), k ≤ 8 ∧ i = .int .i64 (7 - (k : Int)) ∧ v = .slice (some ⟨g', 0, none⟩) (len + 1 + z + k) c' ∧ OwnB wr w.heap.size g' (len + 1 + z + k) c' ((b ++ 128 :: List.replicate z 0) ++ (lenB len).take k) ∧ Below w.heap.size w wr)
        (fun _ i _ => (intOf i + 1).toNat)
      case atStart => exact ⟨0, g4, c4, Nat.zero_le _, rfl, rfl, by rw [List.take_zero, List.append_nil]; exact HO.out, HBl.out⟩
      case round =>
        clear HO HBl
        obtain ⟨k, g6, c6, hk, rfl, rfl, ho, hbel⟩ := hrel
        have HO := veil ho
        have HBl := veil hbel
        have hsz := hbel.size
        clear ho hbel
        by_cases hlt : k < 8
        · obtain ⟨q, hq⟩ : ∃ q : Nat, q + k = 7 := ⟨7 - k, by omega⟩
          have hqI : (7 : Int) - (k : Int) = (q : Int) := by omega
          rw [hqI]
          have hq0 : (0 : Int) ≤ (q : Int) := by omega
          have hw1 : IntKind.i64.wrap (8 * (q : Int)) = 8 * (q : Int) := by rw [IntKind.wrap_i64]; omega
          have HT := veil (lenB_take len k hlt)
          have HV := veil (len_shift len q)
          go_wp2_with (first
            | (with_reducible (show wpList _ _ _ (⟨some 34, Op.call _, _, _, _, _⟩ :: _) _ _)
               refine wpList_append_own _ rfl _ _ 22 rfl w.heap.size 5 i0 (.int .u8 0) 1 1 Tryz.underlying22 hi hz0 hz1 hz2 rfl (by decide) _ (len + 1 + z + k) _ rfl (HO.out.row.alloc _) ⟨wr.heap.size, 0, none⟩ 1 1 [.int .u8 ((len : Int) * 8 / 2 ^ (8 * q) % 256)] rfl rfl (cell_one_new _ _ _) (by simp [Value.oneCell']) (by unfold maxLen; omega) (by omega) (by simp; omega) ?_
               intro v7 w7 hown7 hgrow7 _
               obtain ⟨g7, c7, rfl⟩ := ownsRow_succ hown7))
          go_roundw
          case rel =>
            refine ⟨k + 1, g7, c7, by omega, ?_, rfl, ⟨?_, ?_⟩, (HBl.out.alloc HBl.out.size _).grown hgrow7 (by simp; omega) (fun q e => ((HO.out.row.alloc (.cells #[] 5)).lt q e).1)⟩
            · congr 1; omega
            · rw [HT.out]
              have := HO.out.len
              simp only [List.length_append, List.length_cons, List.length_nil] at this ⊢
              omega
            · rw [HT.out, ← List.append_assoc, vb_append, show 7 - k = q by omega]
              rw [HV.out] at hown7
              exact hown7
          case measure => simp only [intOf]; omega
        · obtain rfl : k = 8 := by omega
          go_wp2
          go_ret
          have ho := HO.out
          rw [List.take_of_length_le (by rw [lenB_length]; exact Nat.le_refl _), ← HPad.out, ← HNb.out] at ho
          refine ⟨g6, c6, by rw [HNb.out]; rfl, ho, HBl.out⟩
end Go.Proofs.YtlicflmpakkccaaGreatDoor

/-! What the document's turn, Words, Begin answer. -/
namespace Go.Proofs.YtlicflmpakkccaaGreatDoor
open Go Go.RowKit

set_option maxHeartbeats 400000 in
theorem refTurn_any (x : Wd) (n : Int) (w : World) (h0 : 1 ≤ n) (h1 : n ≤ 31) :
    Calls Tryz.prog 133 #[.int .u32 (u x), .int .i64 n] w fun e w' => e = .returned (.int .u32 (u (rr x n.toNat))) ∧ ∃ m, w' = w.drewN m := by
  have hs1 := wsl x (32 - n.toNat)
  have hs2 := wsr x n.toNat
  have hb : bits .or .u32 (u (sr x n.toNat)) (u (sl x (32 - n.toNat))) = u (rr x n.toNat) := bo _ _
  have e1 : (32 - n).toNat = 32 - n.toNat := by omega
  have e2 : (0 : Int) ≤ 32 - n ∧ 32 - n ≤ 31 := by omega
  have e3 : IntKind.i64.wrap (32 - n) = 32 - n := by rw [IntKind.wrap_i64]; omega
  go_enter Tryz.func133, Tryz.ntmps133
  go_wp2
  go_quiet (fail)
  go_wp2
  go_ret
  exact ⟨by simp [hs1], _, rfl⟩

set_option maxRecDepth 20000 in
set_option maxHeartbeats 400000 in
theorem refWords_any (w : World) :
    Calls Tryz.prog 134 #[] w fun e w' => e = .returned (.agg (ws KW)) ∧ w' = w.alloc (.cells (ws KW) 80) := by
  go_enter Tryz.func134, Tryz.ntmps134
  go_wp2_with (first
    | (with_reducible (show wpList _ _ _ (⟨_, Op.build 80 _, _, _, _, _⟩ :: _) _ _)
       refine build_row rfl 80 _ rfl (ws KW) (by kernel_rfl) ?_)
    | (with_reducible (show wpList _ _ _ (⟨_, Op.store 80 _ _, _, _, _, _⟩ :: _) _ _)
       refine store_new (w := w) rfl 80 _ _ rfl w.heap.size (ws KW) rfl rfl _ _ rfl 64 (by kernel_rfl) (by rfl) (by rw [ws_size, KW_length]) (ws_one _) ?_))
  exact bodyPost_ret (result_row rfl _ _ w.heap.size _ _ (Row.new _ _ _) 64 76 rfl Tryz.underlying80 (by kernel_rfl) (by rw [ws_size, KW_length])) rfl ⟨rfl, rfl⟩

set_option maxRecDepth 20000 in
set_option maxHeartbeats 400000 in
theorem refBegin_any (w : World) :
    Calls Tryz.prog 86 #[] w fun e w' => e = .returned (.agg (ws HW)) ∧ w' = w.alloc (.cells (ws HW) 82) := by
  go_enter Tryz.func86, Tryz.ntmps86
  go_wp2_with (first
    | (with_reducible (show wpList _ _ _ (⟨_, Op.build 82 _, _, _, _, _⟩ :: _) _ _)
       refine build_row rfl 82 _ rfl (ws HW) (by kernel_rfl) ?_)
    | (with_reducible (show wpList _ _ _ (⟨_, Op.store 82 _ _, _, _, _, _⟩ :: _) _ _)
       refine store_new (w := w) rfl 82 _ _ rfl w.heap.size (ws HW) rfl rfl _ _ rfl 8 (by kernel_rfl) (by rfl) (by rw [ws_size, HW_length]) (ws_one _) ?_))
  exact bodyPost_ret (result_row rfl _ _ w.heap.size _ _ (Row.new _ _ _) 8 76 rfl Tryz.underlying82 (by kernel_rfl) (by rw [ws_size, HW_length])) rfl ⟨rfl, rfl⟩
end Go.Proofs.YtlicflmpakkccaaGreatDoor
