/-
  HkdfKeys' walk.
-/
import Derived.Test.YtcfmghnjokmfiaaHkLawPad
import Derived.Test.YtcfmghnjokmfiaaHkAlive
import Derived.Test.YtcfmghnjokmfiaaShaEq
import Derived.Test.YtcfmghnjokmfiaaShaUndPlain
namespace Go.Proofs.Ytcfmghnjokmfiaa
open Go Go.RowKit

theorem keyL_sum (b : List By) (h : 64 < b.length) : keyL (sumL b) = keyL b := by
  unfold keyL
  rw [if_neg (by rw [sumL_length]; decide), if_pos h, sumL_length]
theorem keyL_zeros (b : List By) (j : Nat) (h : b.length + j ≤ 64) : keyL (b ++ List.replicate j 0) = keyL b := by
  unfold keyL
  rw [if_neg (by rw [List.length_append, List.length_replicate]; omega), if_neg (by omega), List.length_append, List.length_replicate, List.append_assoc, List.replicate_append_replicate]
  congr 2
  omega
theorem mac_fits (k b : List By) (hk : k.length ≤ 1048576) (hb : b.length ≤ 1048512) : macA k b = macK (keyL k) b ∧ macE k b = 0 := by
  unfold macA macE
  rw [if_pos ⟨hk, hb⟩, if_pos ⟨hk, hb⟩]
  exact ⟨rfl, rfl⟩

set_option maxRecDepth 20000 in
set_option maxHeartbeats 2000000 in
theorem keys_walk (k b : SL) (m : Int) (w : World) (hk : k.Ok w) (hb : b.Ok w) (hm0 : 0 ≤ m) (hm1 : m ≤ 255) :
    Calls Try.prog 5 #[.slice k.a k.len k.cap, .slice b.a b.len b.cap, .int .u8 m] w fun e w' => e = .returned (.bool true) ∧ Below w.heap.size w w' := by
  obtain ⟨i0, hi, hz0, hz1, hz2⟩ := info_parts (P := Try.prog) (e := 5) (z := .int .u8 0) (size := 1) (bytes := 1) (by kernel_rfl)
  have HK := veil hk
  have HB := veil hb
  have hbb := hb.hb
  have hkb := hk.hb
  clear hk hb
  go_enter Try.func5, Try.ntmps5
  go_wp2_with fail
  refine (alive_any w).mono ?_
  rintro e0 w0 ⟨rfl, hb0⟩
  have HB0 := veil hb0
  have hs0 := hb0.size
  clear hb0
  by_cases h1 : (5000 : Int) < (k.len : Int)
  · go_wp2_with fail
    refine (alive_any w0).mono ?_
    rintro e1 w1 ⟨rfl, hb1⟩
    go_wp2_with fail
    go_ret
    exact ⟨rfl, HB0.out.trans (hb1.mono hs0)⟩
  by_cases h2 : (5000 : Int) < (b.len : Int)
  · go_wp2_with fail
    refine (alive_any w0).mono ?_
    rintro e1 w1 ⟨rfl, hb1⟩
    go_wp2_with fail
    go_ret
    exact ⟨rfl, HB0.out.trans (hb1.mono hs0)⟩
  have hkl : k.len ≤ 5000 := by omega
  have hbl : b.len ≤ 5000 := by omega
  obtain ⟨M, hM⟩ : ∃ M, M = macK (keyL k.b) b.b := ⟨_, rfl⟩
  have hMl : M.length = 32 := by rw [hM, macK_length]
  have hMs : (bs M).size = 32 := by rw [bs_size, hMl]
  have hself : ∀ j, j < 32 → ∃ z, (bs M)[j]? = some (.int .u8 z) := fun j hj => ⟨_, bs_get M j (by rw [hMl]; exact hj)⟩
  have HF := veil (mac_fits k.b b.b (by omega) (by omega))
  rw [← hM] at HF
  have HMM := veil hM
  clear hM
  go_wp2_with fail
  refine (macF_any k b w0 (HK.out.below HB0.out) (HB.out.below HB0.out)).mono ?_
  rintro e1 w1 ⟨rfl, hb1⟩
  rw [HF.out.1, HF.out.2]
  have HB1 := veil (HB0.out.trans (hb1.mono hs0))
  have hs1 := HB1.out.size
  clear hb1 HB0
  have HB2 := veil (HB1.out.alloc hs1 (.cells (bs M) 25))
  have HR2 : Hid (Row (w1.alloc (.cells (bs M) 25)) w1.heap.size 25 (bs M)) := Row.new _ _ _
  by_cases h64 : (64 : Int) < (k.len : Int)
  · have HKS := veil (keyL_sum k.b (by omega))
    go_wp2_with (first
      | (with_reducible (show wpList _ _ _ (⟨_, Op.alloc 25, _, _, _, _⟩ :: _) _ _)
         refine alloc_row rfl 25 rfl (bs z32) (by kernel_rfl) ?_)
      | (with_reducible (show wpList _ _ _ (⟨_, Op.store 25 (.tmp 7) _, _, _, _, _⟩ :: _) _ _)
         refine store_new (w := w1) (by rfl) 25 _ _ (by rfl) w1.heap.size (bs M) (by rfl) (by rfl) 25 (bs z32) (by rfl) 32 (by kernel_rfl) (by rfl) hMs (bs_one _) ?_))
    generalize w1.alloc (.cells (bs M) 25) = W2 at *
    have hs2 := HB2.out.size
    have HKW := HK.out.below HB2.out
    refine (sum_any k.g k.off k.a k.len k.cap k.b W2 hkb (by omega) HKW.hcap HKW.at_ HKW.lt HKW.cell).mono ?_
    rintro e3 w3 ⟨rfl, hb3⟩
    have HB3 := veil (HB2.out.trans (hb3.mono hs2))
    have HR3 := veil (HR2.out.below hb3 HR2.out.lt)
    have hs3 := HB3.out.size
    clear hb3 HB2 HR2 HKW
    obtain ⟨T, hT⟩ : ∃ T, T = sumL k.b := ⟨_, rfl⟩
    have hTl : T.length = 32 := by rw [hT, sumL_length]
    have hTs : (bs T).size = 32 := by rw [bs_size, hTl]
    rw [← hT] at HKS ⊢
    clear hT
    go_wp2_with (first
      | (with_reducible (show wpList _ _ _ (⟨_, Op.alloc 25, _, _, _, _⟩ :: _) _ _)
         refine alloc_row rfl 25 rfl (bs z32) (by kernel_rfl) ?_)
      | (with_reducible (show wpList _ _ _ (⟨_, Op.store 25 (.tmp 9) _, _, _, _, _⟩ :: _) _ _)
         refine store_new (w := w3) (by rfl) 25 _ _ (by rfl) w3.heap.size (bs T) (by rfl) (by rfl) 25 (bs z32) (by rfl) 32 (by kernel_rfl) (by rfl) hTs (bs_one _) ?_))
    have HB4 := veil (HB3.out.alloc hs3 (.cells (bs T) 25))
    have HR4 := veil (HR3.out.alloc (.cells (bs T) 25))
    have rT : Row (w3.alloc (.cells (bs T) 25)) w3.heap.size 25 (bs T) := Row.new _ _ _
    generalize w3.alloc (.cells (bs T) 25) = W4 at *
    have hs4 := HB4.out.size
    refine (macF_any (rowN w3.heap.size 32 T) b W4 (rowN_ok rT hTl) (HB.out.below HB4.out)).mono ?_
    rintro e5 w5 ⟨rfl, hb5⟩
    have hf5 := mac_fits T b.b (by omega) (by omega)
    rw [HKS.out, ← HMM.out] at hf5
    rw [show macA (rowN w3.heap.size 32 T).b b.b = M from hf5.1, show macE (rowN w3.heap.size 32 T).b b.b = 0 from hf5.2]
    have HB5 := veil (HB4.out.trans (hb5.mono hs4))
    have HR5 := veil (HR4.out.below hb5 HR4.out.lt)
    have hs5 := HB5.out.size
    clear hb5 HB4 HR4 rT hf5 HB3 HR3
    have HB6 := veil (HB5.out.alloc hs5 (.cells (bs M) 25))
    have rA := HR5.out.alloc (.cells (bs M) 25)
    have rB : Row (w5.alloc (.cells (bs M) 25)) w5.heap.size 25 (bs M) := Row.new _ _ _
    go_wp2_with (first
      | (with_reducible (show wpList _ _ _ (⟨_, Op.alloc 25, _, _, _, _⟩ :: _) _ _)
         refine alloc_row rfl 25 rfl (bs z32) (by kernel_rfl) ?_)
      | (with_reducible (show wpList _ _ _ (⟨_, Op.store 25 _ _, _, _, _, _⟩ :: _) _ _)
         refine store_new (w := w5) (by rfl) 25 _ _ (by rfl) w5.heap.size (bs M) (by rfl) (by rfl) 25 (bs z32) (by rfl) 32 (by kernel_rfl) (by rfl) hMs (bs_one _) ?_)
      | (with_reducible (show wpList _ _ _ (⟨some 61, Op.load 25 _, _, _, _, _⟩ :: _) _ _)
         refine load_rowG (by rfl) 25 _ rfl w1.heap.size rfl _ _ rA 32 5 Try.underlying25 (by kernel_rfl) hMs ?_)
      | (with_reducible (show wpList _ _ _ (⟨some 62, Op.load 25 _, _, _, _, _⟩ :: _) _ _)
         refine load_rowG (by rfl) 25 _ rfl w5.heap.size rfl _ _ rB 32 5 Try.underlying25 (by kernel_rfl) hMs ?_)
      | (with_reducible (show wpList _ _ _ (⟨some 63, Op.binOp _ _ _ _ _, _, _, _, _⟩ :: _) _ _)
         refine value_G (by rfl) (.bool true) (exec_eql_self _ 25 5 32 .u8 (.tmp 61) (.tmp 62) 25 (bs M) rfl rfl rfl Try.underlying25 Try.underlying5 (by kernel_rfl) (by kernel_rfl) (by kernel_rfl) hself) ?_))
    go_ret
    exact ⟨rfl, HB6.out⟩
  · have hk64 : k.len ≤ 64 := by omega
    go_wp2_with (first
      | (with_reducible (show wpList _ _ _ (⟨_, Op.alloc 25, _, _, _, _⟩ :: _) _ _)
         refine alloc_row rfl 25 rfl (bs z32) (by kernel_rfl) ?_)
      | (with_reducible (show wpList _ _ _ (⟨_, Op.store 25 (.tmp 7) _, _, _, _, _⟩ :: _) _ _)
         refine store_new (w := w1) (by rfl) 25 _ _ (by rfl) w1.heap.size (bs M) (by rfl) (by rfl) 25 (bs z32) (by rfl) 32 (by kernel_rfl) (by rfl) hMs (bs_one _) ?_)
      | (with_reducible (show wpList _ _ _ (⟨some 67, Op.call _, _, _, _, _⟩ :: _) _ _)
         refine append_sl rfl _ _ 22 rfl (w1.heap.size + 1) i0 Try.underlying22 hi hz0 hz1 hz2 _ 0 [] rfl (World.ownsRow_nil _ _ _ _) k (HK.out.below HB2.out) rfl (by omega) (by simp) ?_
         intro v2 w2 hown2 hgrow2
         rw [Nat.zero_add, List.nil_append] at hown2
         obtain ⟨a2, c2, rfl⟩ := own_shape hown2))
    have HO2 := veil hown2
    have HB3 : Hid (Below w.heap.size w w2) := HB2.out.grown hgrow2 HB2.out.size (fun q e => by cases e)
    have HR3 : Hid (Row w2 w1.heap.size 25 (bs M)) := (hgrow2.block _ HR2.out.lt (fun e => by cases e)).trans HR2.out
    clear hown2 hgrow2 HB2 HR2
    go_loopw [13, 14] (fun v iv wr => ∃ (i n : Nat) (a : Option Addr) (c : Nat), iv = .int .i64 i ∧ n = k.len + i ∧ n ≤ 64 ∧ v = .slice a n c ∧ wr.ownsRow (w1.heap.size + 1) 5 1 (.slice a n c) n (vb (k.b ++ List.replicate i 0)) ∧ Row wr w1.heap.size 25 (bs M) ∧ Below w.heap.size w wr ∧ w1.heap.size + 1 ≤ wr.heap.size)
      (fun v _ _ => 64 - slen v)
    case atStart => exact ⟨0, k.len, a2, c2, rfl, rfl, hk64, rfl, by rw [List.replicate_zero, List.append_nil]; exact HO2.out, HR3.out, HB3.out, HR3.out.lt⟩
    case round =>
      clear HO2 HB3 HR3
      obtain ⟨i, n, a4, c4, rfl, hn, hn64, rfl, hown, hrow, hbel, hsz⟩ := hrel
      have HOWN := veil hown
      have HBL := veil hbel
      have HRW := veil hrow
      have HN := veil hn
      have hszb := hbel.size
      clear hown hbel hrow hn
      by_cases hgo : (i : Int) < m ∧ n < 64
      · obtain ⟨g1, g2⟩ := hgo
        go_wp2_with (with_reducible (show wpList _ _ _ (⟨some 81, Op.call _, _, _, _, _⟩ :: _) _ _)
                     refine wpList_append_own _ rfl _ _ 22 rfl (w1.heap.size + 1) 5 i0 (.int .u8 0) 1 1 Try.underlying22 hi hz0 hz1 hz2 rfl (by decide) _ n _ rfl (HOWN.out.alloc _) ⟨wr.heap.size, 0, none⟩ 1 1 [.int .u8 0] rfl rfl (cell_one_new _ _ _) (by simp [Value.oneCell']) (by unfold maxLen; omega) (by omega) (by simp; omega) ?_
                     intro v5 w5 hown5 hgrow5 _
                     obtain ⟨a5, c5, rfl⟩ := own_shape hown5)
        go_wp2_with fail
        go_roundw
        case rel =>
          refine ⟨i + 1, n + 1, a5, c5, by go_num, by have := HN.out; omega, by omega, rfl, ?_, ?_, (HBL.out.alloc hszb _).grown hgrow5 (by simp; omega) (fun q e => by have := ((HOWN.out.alloc (.cells #[] 5)).lt q e).1; omega), by have := hgrow5.size; simp at this; omega⟩
          · have e : k.b ++ List.replicate (i + 1) (0 : By) = (k.b ++ List.replicate i 0) ++ [0] := by rw [List.replicate_succ', List.append_assoc]
            rw [e, vb_append]
            exact hown5
          · exact (hgrow5.block _ (by have := HRW.out.lt; simp; omega) (fun e => by have := ((HOWN.out.alloc (.cells #[] 5)).lt _ e.symm).1; omega)).trans (HRW.out.alloc _)
        case measure => simp only [slen]; omega
      · obtain ⟨s, hv, hsl, hsb, hok, _⟩ := SL.of_own HOWN.out
        have HS := veil hok
        have hf5 := mac_fits s.b b.b (by rw [hok.hb]; omega) (by omega)
        rw [hsb, keyL_zeros k.b i (by have := HN.out; omega), ← HMM.out] at hf5
        have HF5 := veil hf5
        have HSB := veil hsb
        have hvv : (.slice a4 n c4 : Value) = .slice s.a s.len s.cap := hv.symm
        clear hv hsb hok hf5 HOWN
        have hdone : Calls Try.prog 9 #[.slice a4 n c4, .slice b.a b.len b.cap] wr fun e w' => e = .returned (.tuple #[.agg (bs M), .int .i64 0]) ∧ Below wr.heap.size wr w' := by
          rw [hvv]
          refine (macF_any s b wr HS.out (HB.out.below HBL.out)).mono ?_
          rintro e w' ⟨rfl, h⟩
          rw [HSB.out]
          exact ⟨by rw [HF5.out.1, HF5.out.2], h⟩
        generalize wr = W5 at *
        have HD := veil hdone
        clear hdone hvv
        rcases (show ¬ (i : Int) < m ∨ ((i : Int) < m ∧ ¬ n < 64) by omega) with g1 | ⟨g1, g2⟩
        · go_wp2_with fail
          refine HD.out.mono ?_
          rintro e6 w6 ⟨rfl, hb6⟩
          have rA := (HRW.out.below hb6 HRW.out.lt).alloc (.cells (bs M) 25)
          have rB : Row (w6.alloc (.cells (bs M) 25)) w6.heap.size 25 (bs M) := Row.new _ _ _
          have b6 := HBL.out.trans (hb6.mono hszb)
          have b7 := b6.alloc b6.size (.cells (bs M) 25)
          go_wp2_with (first
            | (with_reducible (show wpList _ _ _ (⟨_, Op.alloc 25, _, _, _, _⟩ :: _) _ _)
               refine alloc_row rfl 25 rfl (bs z32) (by kernel_rfl) ?_)
            | (with_reducible (show wpList _ _ _ (⟨_, Op.store 25 _ _, _, _, _, _⟩ :: _) _ _)
               refine store_new (w := w6) (by rfl) 25 _ _ (by rfl) w6.heap.size (bs M) (by rfl) (by rfl) 25 (bs z32) (by rfl) 32 (by kernel_rfl) (by rfl) hMs (bs_one _) ?_)
            | (with_reducible (show wpList _ _ _ (⟨some 95, Op.load 25 _, _, _, _, _⟩ :: _) _ _)
               refine load_rowG (by rfl) 25 _ rfl w1.heap.size rfl _ _ rA 32 5 Try.underlying25 (by kernel_rfl) hMs ?_)
            | (with_reducible (show wpList _ _ _ (⟨some 96, Op.load 25 _, _, _, _, _⟩ :: _) _ _)
               refine load_rowG (by rfl) 25 _ rfl w6.heap.size rfl _ _ rB 32 5 Try.underlying25 (by kernel_rfl) hMs ?_)
            | (with_reducible (show wpList _ _ _ (⟨some 97, Op.binOp _ _ _ _ _, _, _, _, _⟩ :: _) _ _)
               refine value_G (by rfl) (.bool true) (exec_eql_self _ 25 5 32 .u8 (.tmp 95) (.tmp 96) 25 (bs M) rfl rfl rfl Try.underlying25 Try.underlying5 (by kernel_rfl) (by kernel_rfl) (by kernel_rfl) hself) ?_))
          go_ret
          exact ⟨rfl, b7⟩
        · go_wp2_with fail
          refine HD.out.mono ?_
          rintro e6 w6 ⟨rfl, hb6⟩
          have rA := (HRW.out.below hb6 HRW.out.lt).alloc (.cells (bs M) 25)
          have rB : Row (w6.alloc (.cells (bs M) 25)) w6.heap.size 25 (bs M) := Row.new _ _ _
          have b6 := HBL.out.trans (hb6.mono hszb)
          have b7 := b6.alloc b6.size (.cells (bs M) 25)
          go_wp2_with (first
            | (with_reducible (show wpList _ _ _ (⟨_, Op.alloc 25, _, _, _, _⟩ :: _) _ _)
               refine alloc_row rfl 25 rfl (bs z32) (by kernel_rfl) ?_)
            | (with_reducible (show wpList _ _ _ (⟨_, Op.store 25 _ _, _, _, _, _⟩ :: _) _ _)
               refine store_new (w := w6) (by rfl) 25 _ _ (by rfl) w6.heap.size (bs M) (by rfl) (by rfl) 25 (bs z32) (by rfl) 32 (by kernel_rfl) (by rfl) hMs (bs_one _) ?_)
            | (with_reducible (show wpList _ _ _ (⟨some 95, Op.load 25 _, _, _, _, _⟩ :: _) _ _)
               refine load_rowG (by rfl) 25 _ rfl w1.heap.size rfl _ _ rA 32 5 Try.underlying25 (by kernel_rfl) hMs ?_)
            | (with_reducible (show wpList _ _ _ (⟨some 96, Op.load 25 _, _, _, _, _⟩ :: _) _ _)
               refine load_rowG (by rfl) 25 _ rfl w6.heap.size rfl _ _ rB 32 5 Try.underlying25 (by kernel_rfl) hMs ?_)
            | (with_reducible (show wpList _ _ _ (⟨some 97, Op.binOp _ _ _ _ _, _, _, _, _⟩ :: _) _ _)
               refine value_G (by rfl) (.bool true) (exec_eql_self _ 25 5 32 .u8 (.tmp 95) (.tmp 96) 25 (bs M) rfl rfl rfl Try.underlying25 Try.underlying5 (by kernel_rfl) (by kernel_rfl) (by kernel_rfl) hself) ?_))
          go_ret
          exact ⟨rfl, b7⟩
end Go.Proofs.Ytcfmghnjokmfiaa
