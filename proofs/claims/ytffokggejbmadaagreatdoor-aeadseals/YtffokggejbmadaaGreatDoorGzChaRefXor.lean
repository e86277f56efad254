/-
  What the document's Xor answers.
-/
import Derived.Test.YtffokggejbmadaaGreatDoorGzChaRefBlock
import Derived.Test.YtffokggejbmadaaGreatDoorGzChaXorL
import Derived.Test.YtffokggejbmadaaGreatDoorGzChaLawB
namespace Go.Proofs.YtffokggejbmadaaGreatDoor
open Go Go.RowKit

theorem take_snoc (l : List By) (n : Nat) (h : n < l.length) : l.take (n + 1) = l.take n ++ [gb l n] := by
  rw [List.take_succ_eq_append_getElem h]
  unfold gb
  rw [List.getElem?_eq_getElem h]
  rfl

set_option maxRecDepth 20000 in
set_option maxHeartbeats 400000 in
theorem refXor_limit (key : List By) (count : Wd) (nonce : List By) (b : SL) (w : World) (hl : b.len ≤ 140737488355328) (h : Great count b.len) :
    Calls Tryz.prog 22 #[.agg (bs key), .int .u32 (u count), .agg (bs nonce), .slice b.a b.len b.cap] w fun e w' => e = .returned (.tuple #[.slice none 0 0, .int .i64 3]) ∧ Below w.heap.size w w' := by
  have HH := (show Hid (Great count b.len) from h)
  clear h
  have u0 := u_nn count
  have u1 := u_le count
  have b0 := veil (show Below w.heap.size w ((w.alloc (.cells (bs key) 49)).alloc (.cells (bs nonce) 50)) from ((Below.refl _ w).alloc (Nat.le_refl _) _).alloc (by simp) _)
  have hw1 : IntKind.u64.wrap ((b.len : Int) + 63) = (b.len : Int) + 63 := by rw [IntKind.wrap_u64]; omega
  go_enter Tryz.func22, Tryz.ntmps22
  by_cases h1 : (1048576 : Int) < (b.len : Int)
  · go_wp2_with fail
    go_ret2
    exact ⟨rfl, b0.out⟩
  · have hl1 : decide ((1048576 : Int) < (b.len : Int)) = false := by rw [decide_eq_false_iff_not]; exact h1
    have h2 : (4294967296 : Int) < u count + ((b.len : Int) + 63) / 64 := by
      rcases HH.out with h | h <;> omega
    go_wp2_with fail
    go_ret2
    exact ⟨rfl, b0.out⟩

set_option maxRecDepth 20000 in
set_option maxHeartbeats 2000000 in
theorem refXor_ok (key : List By) (count : Wd) (nonce : List By) (hk : key.length = 32) (hn : nonce.length = 12) (b : SL) (w : World) (hb : b.Ok w) (hG : ¬ Great count b.len) :
    Calls Tryz.prog 22 #[.agg (bs key), .int .u32 (u count), .agg (bs nonce), .slice b.a b.len b.cap] w fun e w' => ∃ v, e = .returned (.tuple #[v, .int .i64 0]) ∧ w'.ownsRow w.heap.size 5 1 v b.len (vb (xorL key count nonce b.b)) ∧ Below w.heap.size w w' := by
  obtain ⟨i0, hi, hz0, hz1, hz2⟩ := info_parts (P := Tryz.prog) (e := 5) (z := .int .u8 0) (size := 1) (bytes := 1) (by kernel_rfl)
  have HK := veil hk
  have HN := veil hn
  have HB := veil hb
  have hbl := hb.hb
  have hgb : 0 < b.len → b.g < w.heap.size := hb.lt
  have hkz : (bs key).size = 32 := by rw [bs_size, hk]
  have hnz : (bs nonce).size = 12 := by rw [bs_size, hn]
  unfold Great at hG
  have u0 := u_nn count
  have u1 := u_le count
  have hl : b.len ≤ 1048576 := by omega
  clear hk hn hb
  have hw1 : IntKind.u64.wrap ((b.len : Int) + 63) = (b.len : Int) + 63 := by rw [IntKind.wrap_u64]; omega
  have hl1 : decide ((1048576 : Int) < (b.len : Int)) = false := by rw [decide_eq_false_iff_not]; omega
  have hc1 : decide ((4294967296 : Int) < u count + ((b.len : Int) + 63) / 64) = false := by rw [decide_eq_false_iff_not]; omega
  have HX := veil (xorL_length key count nonce b.b)
  have HXG : Hid (∀ i j, 64 * i + j < b.len → j < 64 → gb (xorL key count nonce b.b) (64 * i + j) = xb (gb b.b (64 * i + j)) (gb (blockL key (cnt count i) nonce) j)) := show ∀ i j, 64 * i + j < b.len → j < 64 → gb (xorL key count nonce b.b) (64 * i + j) = xb (gb b.b (64 * i + j)) (gb (blockL key (cnt count i) nonce) j) from fun i j h1 h2 => by
    rw [xorL_gb _ _ _ _ _ (by rw [hbl]; exact h1)]
    unfold sby
    rw [show (64 * i + j) / 64 = i by omega, show (64 * i + j) % 64 = j by omega]
  rw [hbl] at HX
  generalize xorL key count nonce b.b = X at *
  go_enter Tryz.func22, Tryz.ntmps22
  go_wp2_with fail
  go_loopw [11, 12] (fun v iv wr => ∃ i : Nat, 64 * i < b.len + 64 ∧ iv = .int .i64 (64 * (i : Int)) ∧ wr.ownsRow (w.heap.size + 2) 5 1 v (min b.len (64 * i)) (vb (X.take (64 * i))) ∧ Row wr w.heap.size 49 (bs key) ∧ Row wr (w.heap.size + 1) 50 (bs nonce) ∧ Below w.heap.size w wr)
    (fun _ iv _ => b.len + 64 - (intOf iv).toNat)
  case atStart =>
    exact ⟨0, by omega, by simp, by simp only [Nat.mul_zero, Nat.min_zero, List.take_zero]; exact World.ownsRow_nil _ _ _ _, (Row.new _ _ _).alloc _, Row.new1 _ _ _ _, ((Below.refl _ w).alloc (Nat.le_refl _) _).alloc (by simp) _⟩
  case round =>
    obtain ⟨i, hi64, rfl, hown, rK, rN, hbel⟩ := hrel
    by_cases hlt : 64 * i < b.len
    · have hp : (64 * (i : Int)) < (b.len : Int) := by omega
      have hq : (64 * (i : Int)) / 64 = (i : Int) := by omega
      have hcw : IntKind.u32.wrap (i : Int) = (i : Int) := by rw [IntKind.wrap_u32']; omega
      have hct := u_cnt count i (by omega)
      have hcn : u count + (i : Int) = u (cnt count i) := by rw [← hct]; omega
      have HOW := veil hown
      clear hown
      go_wp2_with (first
        | (with_reducible (show wpList _ _ _ (⟨_, Op.load 49 _, _, _, _, _⟩ :: _) _ _)
           refine load_row rfl 49 _ rfl w.heap.size rfl _ _ rK 32 5 Tryz.underlying49 (by kernel_rfl) hkz ?_)
        | (with_reducible (show wpList _ _ _ (⟨_, Op.load 50 _, _, _, _, _⟩ :: _) _ _)
           refine load_row rfl 50 _ rfl (w.heap.size + 1) rfl _ _ rN 12 5 Tryz.underlying50 (by kernel_rfl) hnz ?_))
      refine (refBlock_any key (cnt count i) nonce HK.out HN.out wr).mono ?_
      rintro e3 w3 ⟨rfl, hb3⟩
      have HXI : Hid (∀ j, 64 * i + j < b.len → j < 64 → gb X (64 * i + j) = xb (gb b.b (64 * i + j)) (gb (blockL key (cnt count i) nonce) j)) := HXG.out i
      have HD64 := veil (blockL_length key (cnt count i) nonce)
      generalize blockL key (cnt count i) nonce = D at *
--{
      have hs3 := hb3.size
      have own4 := own_below (own_below HOW.out hb3) ((Below.refl _ w3).alloc (Nat.le_refl _) (.cells (bs D) 70))
      have rK4 := (rK.below hb3 rK.lt).alloc (.cells (bs D) 70)
      have rN4 := (rN.below hb3 rN.lt).alloc (.cells (bs D) 70)
      have rD4 : Row (w3.alloc (.cells (bs D) 70)) w3.heap.size 70 (bs D) := Row.new _ _ _
      have b4 := (hbel.trans (hb3.mono hbel.size)).alloc (by have := hbel.size; omega) (.cells (bs D) 70)
      have hD : (bs D).size = 64 := by rw [bs_size, HD64.out]
      have hsw := hbel.size
      rw [show min b.len (64 * i) = 64 * i by omega] at own4
      clear hb3 HOW rK rN hbel hct hcw hq hcn
      go_wp2_with (first
        | (with_reducible (show wpList _ _ _ (⟨_, Op.alloc 70, _, _, _, _⟩ :: _) _ _)
           refine alloc_row rfl 70 rfl (bs (List.replicate 64 0)) (by kernel_rfl) ?_)
        | (with_reducible (show wpList _ _ _ (⟨_, Op.store 70 _ _, _, _, _, _⟩ :: _) _ _)
           refine store_new (w := w3) (by rfl) 70 _ _ (by rfl) w3.heap.size (bs D) (by rfl) (by rfl) 70 _ (by rfl) 64 (by kernel_rfl) (by rfl) hD (bs_one _) ?_))
      go_loopw [11, 14] (fun v jv wr => ∃ j : Nat, j ≤ 64 ∧ 64 * i + j ≤ b.len ∧ jv = .int .i64 (j : Int) ∧ wr.ownsRow (w.heap.size + 2) 5 1 v (64 * i + j) (vb (X.take (64 * i + j))) ∧ Row wr w3.heap.size 70 (bs D) ∧ Row wr w.heap.size 49 (bs key) ∧ Row wr (w.heap.size + 1) 50 (bs nonce) ∧ Below w.heap.size w wr)
        (fun _ jv _ => 64 - (intOf jv).toNat)
      case atStart => exact ⟨0, by omega, by omega, rfl, own4, rD4, rK4, rN4, b4⟩
      case round =>
        clear own4 rD4 rK4 rN4 b4
        obtain ⟨j, hj, hjn, rfl, hown, rD, rK, rN, hbel⟩ := hrel
        by_cases hgo : j < 64 ∧ 64 * i + j < b.len
        · obtain ⟨hj64, hjl⟩ := hgo
          have hba : b.a = some ⟨b.g, b.off, none⟩ := HB.out.at_ (by omega)
          have hd1 : decide ((j : Int) < 64) = true := by rw [decide_eq_true_iff]; omega
          have hd2 : decide (64 * (i : Int) + (j : Int) < (b.len : Int)) = true := by rw [decide_eq_true_iff]; omega
          have hwa : IntKind.i64.wrap (64 * (i : Int) + (j : Int)) = 64 * (i : Int) + (j : Int) := by rw [IntKind.wrap_i64]; omega
          have HOW := veil hown
          have HXV : Hid (X.take (64 * i + j + 1) = X.take (64 * i + j) ++ [xb (gb b.b (64 * i + j)) (gb D j)]) := show _ = _ by rw [take_snoc X _ (by rw [HX.out]; exact hjl), HXI.out j hjl hj64]
          have hbg := hgb (by omega)
          clear hown
          rw [hba]
          go_wp2_with fail
          refine wp_region_held (S := fun W => Row W w3.heap.size 70 (bs D) ∧ b.Ok W) (by kernel_rfl) ?_
          have hS0 : Row wr.drew w3.heap.size 70 (bs D) ∧ b.Ok wr.drew := ⟨rD.drew, (HB.out.below hbel).same (fun _ => rfl) (Nat.le_refl _)⟩
          have own0 : wr.drew.ownsRow (w.heap.size + 2) 5 1 u11 (64 * i + j) (vb (X.take (64 * i + j))) := HOW.out
          have rK0 := rK.drew
          have rN0 := rN.drew
          have b0 := hbel.drew
          show wpAnyH _ _ _ _ _ _ _ _ wr.drew
          generalize wr.drew = V0 at *
          refine wpAnyH_take (i := 0) (v := u11) rfl (by kernel_rfl) (by kernel_rfl) (by kernel_rfl) (fun _ _ _ h => h) (.inl ⟨by kernel_rfl, fun W h => by kernel_rfl⟩) hS0 ?_
          refine wpAnyH_take (i := 1) (v := .slice (some ⟨b.g, b.off, none⟩) b.len b.cap) rfl (by kernel_rfl) (by kernel_rfl) (by kernel_rfl) (fun _ _ _ h => h) (.inl ⟨by kernel_rfl, fun W h => by kernel_rfl⟩) hS0 ?_
          refine wpAnyH_take (i := 2) (v := .int .i64 (64 * (i : Int))) rfl (by kernel_rfl) (by kernel_rfl) (by kernel_rfl) (fun _ _ _ h => h) (.inl ⟨by kernel_rfl, fun W h => by kernel_rfl⟩) hS0 ?_
          refine wpAnyH_take (i := 3) (v := .int .i64 (j : Int)) rfl (by kernel_rfl) (by kernel_rfl) (by kernel_rfl) (fun _ _ _ h => h) (.inl ⟨by kernel_rfl, fun W h => by kernel_rfl⟩) hS0 ?_
          refine wpAnyH_take (i := 4) (v := .int .i64 (64 * (i : Int) + (j : Int))) rfl (by kernel_rfl) (by kernel_rfl) (by kernel_rfl) (fun _ _ _ h => h) (.inl ⟨by kernel_rfl, fun W h => by go_simp⟩) hS0 ?_
          refine wpAnyH_take (i := 5) (v := .pointer (some ⟨b.g, b.off + (64 * i + j), none⟩)) rfl (by kernel_rfl) (by kernel_rfl) (by kernel_rfl) (fun _ _ _ h => h) (.inl ⟨by kernel_rfl, fun W h => run_at 22 5 _ _ b.g b.off b.len b.cap (64 * i + j) rfl (by kernel_rfl) (by kernel_rfl) Tryz.underlying22 (by kernel_rfl) hjl W⟩) hS0 ?_
          refine wpAnyH_take (i := 6) (v := .int .u8 (v8 (gb b.b (64 * i + j)))) rfl (by kernel_rfl) (by kernel_rfl) (by kernel_rfl) (fun _ _ _ h => h) (.inl ⟨by kernel_rfl, fun W h => run_cell 5 _ ⟨b.g, b.off + (64 * i + j), none⟩ _ _ rfl (by kernel_rfl) Tryz.underlying5 rfl W (h.2.cell (64 * i + j) hjl)⟩) hS0 ?_
          refine wpAnyH_take (i := 7) (v := .int .i64 (j : Int)) rfl (by kernel_rfl) (by kernel_rfl) (by kernel_rfl) (fun _ _ _ h => h) (.inl ⟨by kernel_rfl, fun W h => by kernel_rfl⟩) hS0 ?_
          refine wpAnyH_take (i := 8) (v := .pointer (some ⟨w3.heap.size, j, none⟩)) rfl (by kernel_rfl) (by kernel_rfl) (by kernel_rfl) (fun _ _ _ h => h) (.inl ⟨by kernel_rfl, fun W h => run_addr 70 5 64 _ _ w3.heap.size j rfl (by kernel_rfl) (by kernel_rfl) Tryz.underlying70 (by kernel_rfl) hj64 W⟩) hS0 ?_
          refine wpAnyH_take (i := 9) (v := .int .u8 (v8 (gb D j))) rfl (by kernel_rfl) (by kernel_rfl) (by kernel_rfl) (fun _ _ _ h => h) (.inl ⟨by kernel_rfl, fun W h => run_cell 5 _ ⟨w3.heap.size, j, none⟩ _ _ rfl (by kernel_rfl) Tryz.underlying5 rfl W (h.1.cellB (j := j) (by rw [HD64.out]; exact hj64))⟩) hS0 ?_
          refine wpAnyH_take (i := 10) (v := .int .u8 (v8 (xb (gb b.b (64 * i + j)) (gb D j)))) rfl (by kernel_rfl) (by kernel_rfl) (by kernel_rfl) (fun _ _ _ h => h) (.inl ⟨by kernel_rfl, fun W h => by go_simp; exact bxb _ _⟩) hS0 ?_
          obtain ⟨V1, hV1⟩ : ∃ V1, V1 = V0.alloc (.cells #[.int .u8 (v8 (xb (gb b.b (64 * i + j)) (gb D j)))] 5) := ⟨_, rfl⟩
          have hbV1 : Below V0.heap.size V0 V1 := by rw [hV1]; exact (Below.refl _ V0).alloc (Nat.le_refl _) _
          have rV1 : Row V1 V0.heap.size 5 (bs [xb (gb b.b (64 * i + j)) (gb D j)]) := by rw [hV1]; exact Row.new _ _ _
          have hS1 : Row V1 w3.heap.size 70 (bs D) ∧ b.Ok V1 := ⟨hS0.1.below hbV1 hS0.1.lt, hS0.2.below hbV1⟩
          refine H_valueW 11 (.slice (some ⟨V0.heap.size, 0, none⟩) 1 1) V1 rfl (by kernel_rfl) (by kernel_rfl) (by rw [hV1]; go_simp) ⟨hS1, ?_⟩
          have own1 := own_below own0 hbV1
          obtain ⟨v9, V2, hr3, own9, hg9, _⟩ := run_append_own (P := Tryz.prog) V1 (w.heap.size + 2) 22 22 5 i0 (.int .u8 0) 1 1 Tryz.underlying22 hi hz0 hz1 hz2 rfl (by decide) u11 (64 * i + j) _ own1 ⟨V0.heap.size, 0, none⟩ 1 1 (vb [xb (gb b.b (64 * i + j)) (gb D j)]) (by rw [vb_length]; rfl)
            (fun q x hq => by obtain ⟨h1, rfl⟩ := vb_get' _ q x hq; rw [add_off]; exact rV1.cellB h1) (vb_one _) (by unfold maxLen; omega) (by omega) (by have := hbV1.size; have := b0.size; have := rN0.lt; omega)
          rw [← vb_append, ← HXV.out] at own9
          have hob : ∀ y, u11.ownBlock = some y → w.heap.size + 2 ≤ y ∧ y ≠ w3.heap.size := fun y hy => by
            rcases own1.2 with ⟨rfl, _⟩ | ⟨g, cap, cur, rfl, hg, hh, _⟩
            · cases hy
            · obtain rfl : g = y := by simpa [Value.ownBlock] using hy
              refine ⟨hg, fun e => ?_⟩
              have := hS1.1
              unfold Row at this
              rw [e, this] at hh
              injection hh with hh
              injection hh with _ ht _
              exact absurd ht (by decide)
          have hS2 : Row V2 w3.heap.size 70 (bs D) ∧ b.Ok V2 := ⟨(hg9.block _ hS1.1.lt (fun e => (hob _ e.symm).2 rfl)).trans hS1.1, hS1.2.same (fun _ => hg9.block _ (by have := hbV1.size; have := b0.size; omega) (fun e => by have := (hob _ e.symm).1; omega)) hg9.size⟩
          have rK1 := rK0.below hbV1 rK0.lt
          have rN1 := rN0.below hbV1 rN0.lt
          have rK2 : Row V2 w.heap.size 49 (bs key) := (hg9.block _ rK1.lt (fun e => by have := (hob _ e.symm).1; omega)).trans rK1
          have rN2 : Row V2 (w.heap.size + 1) 50 (bs nonce) := (hg9.block _ rN1.lt (fun e => by have := (hob _ e.symm).1; omega)).trans rN1
          have b1 := b0.trans (hbV1.mono b0.size)
          have b2 : Below w.heap.size w V2 := b1.grown hg9 b1.size (fun y e => by have := (hob _ e).1; omega)
          refine H_valueW 12 v9 V2 rfl (by kernel_rfl) (by kernel_rfl) (exec_append _ _ _ _ rfl _ _ (by kernel_rfl) (by kernel_rfl) _ V2 hr3) ⟨hS2, ?_⟩
          refine wpAnyH_take (i := 13) (v := v9) rfl (by kernel_rfl) (by kernel_rfl) (by kernel_rfl) (fun _ _ _ h => h) (.inl ⟨by kernel_rfl, fun W h => by kernel_rfl⟩) hS2 ?_
          go_simp
          refine wpAnyH_done (by kernel_rfl) ?_ _
          go_wp2_with fail
          go_roundw
          case rel => exact ⟨j + 1, by omega, by omega, by go_num, own9, hS2.1, rK2, rN2, b2⟩
          case measure => simp only [intOf]; omega
        · have hend : 64 * i + j = min b.len (64 * (i + 1)) := by omega
          have hown2 : wr.ownsRow (w.heap.size + 2) 5 1 u11 (min b.len (64 * (i + 1))) (vb (X.take (64 * (i + 1)))) := by
            have e : X.take (64 * (i + 1)) = X.take (64 * i + j) := by
              by_cases h64 : j = 64
              · rw [h64]; rfl
              · rw [List.take_of_length_le (by rw [HX.out]; omega), List.take_of_length_le (by rw [HX.out]; omega)]
            rw [e, ← hend]
            exact hown
          have HOW := veil hown2
          clear hown hown2
          by_cases hj64 : j < 64
          · have hd1 : decide ((j : Int) < 64) = true := by rw [decide_eq_true_iff]; omega
            have hd2 : decide (64 * (i : Int) + (j : Int) < (b.len : Int)) = false := by rw [decide_eq_false_iff_not]; omega
            have hwa : IntKind.i64.wrap (64 * (i : Int) + (j : Int)) = 64 * (i : Int) + (j : Int) := by rw [IntKind.wrap_i64]; omega
            go_wp2_with fail
            go_roundw
            case rel => exact ⟨i + 1, by omega, by go_num, HOW.out, rK, rN, hbel⟩
            case measure => simp only [intOf]; omega
          · have hd1 : decide ((j : Int) < 64) = false := by rw [decide_eq_false_iff_not]; omega
            go_wp2_with fail
            go_roundw
            case rel => exact ⟨i + 1, by omega, by go_num, HOW.out, rK, rN, hbel⟩
            case measure => simp only [intOf]; omega
    · have hd1 : decide (64 * (i : Int) < (b.len : Int)) = false := by rw [decide_eq_false_iff_not]; omega
      rw [show min b.len (64 * i) = b.len by omega, List.take_of_length_le (by rw [HX.out]; omega)] at hown
      have HOW := veil hown
      clear hown
      go_wp2_with fail
      go_ret2
      exact ⟨_, rfl, own_low HOW.out (by omega), hbel⟩
end Go.Proofs.YtffokggejbmadaaGreatDoor
