/-
  HkdfBegins' walk.
-/
import Derived.Test.YtcfmghnjokmfiaaHkBegPlain
import Derived.Test.YtcfmghnjokmfiaaHkKeysW
namespace Go.Proofs.Ytcfmghnjokmfiaa
open Go Go.RowKit

set_option maxRecDepth 20000 in
set_option maxHeartbeats 2000000 in
theorem begins_walk (k q : SL) (m : Int) (w : World) (hk : k.Ok w) (hq : q.Ok w) (hm0 : 0 ≤ m) (hm1 : m ≤ 65535) :
    Calls Try.prog 6 #[.slice k.a k.len k.cap, .slice q.a q.len q.cap, .int .u16 m] w fun e w' => e = .returned (.bool true) ∧ Below w.heap.size w w' := by
  obtain ⟨i0, hi, hz0, hz1, hz2⟩ := info_parts (P := Try.prog) (e := 5) (z := .int .u8 0) (size := 1) (bytes := 1) (by kernel_rfl)
  have HK := veil hk
  have HQ := veil hq
  have hqb := hq.hb
  have hkb := hk.hb
  clear hk hq
  obtain ⟨N, hN⟩ : ∃ N : Nat, m % 8161 = (N : Int) := ⟨(m % 8161).toNat, by omega⟩
  have hN1 : N ≤ 8160 := by omega
  obtain ⟨H, hH⟩ : ∃ H : Nat, (N : Int) / 2 = (H : Int) := ⟨N / 2, by omega⟩
  have hH1 : H ≤ N := by omega
  go_enter Try.func6, Try.ntmps6
  go_wp2_with fail
  refine (alive_any w).mono ?_
  rintro e0 w0 ⟨rfl, hb0⟩
  have HB0 := veil hb0
  have hs0 := hb0.size
  clear hb0
  by_cases h1 : (2000 : Int) < (k.len : Int)
  · go_wp2_with fail
    refine (alive_any w0).mono ?_
    rintro e1 w1 ⟨rfl, hb1⟩
    go_wp2_with fail
    go_ret
    exact ⟨rfl, HB0.out.trans (hb1.mono hs0)⟩
  by_cases h2 : (2000 : Int) < (q.len : Int)
  · go_wp2_with fail
    refine (alive_any w0).mono ?_
    rintro e1 w1 ⟨rfl, hb1⟩
    go_wp2_with fail
    go_ret
    exact ⟨rfl, HB0.out.trans (hb1.mono hs0)⟩
  have hkl : k.len ≤ 2000 := by omega
  have hql : q.len ≤ 2000 := by omega
  go_wp2_with fail
  refine (expand_ok k q N w0 (HK.out.below HB0.out) (HQ.out.below HB0.out) hN1 (by omega) (by omega)).mono ?_
  rintro e1 w1 ⟨g1, rfl, hown1, hb1⟩
  have HO1 : Hid (OwnB w1 w0.heap.size g1 N N (expandL (keyL k.b) q.b N)) := ⟨expandL_length _ _ _, hown1⟩
  have HB1 := veil (HB0.out.trans (hb1.mono hs0))
  have hs1 := HB1.out.size
  clear hb1 hown1 HB0
  go_wp2_with fail
  refine (expand_ok k q H w1 (HK.out.below HB1.out) (HQ.out.below HB1.out) (by omega) (by omega) (by omega)).mono ?_
  rintro e2 w2 ⟨g2, rfl, hown2, hb2⟩
  have HO2 : Hid (OwnB w2 w1.heap.size g2 H H (expandL (keyL k.b) q.b H)) := ⟨expandL_length _ _ _, hown2⟩
  have HA2 := veil (HO1.out.below hb2)
  have HB2 := veil (HB1.out.trans (hb2.mono hs1))
  have hs2 := HB2.out.size
  clear hb2 hown2 HB1 HO1
  have qA : (⟨some ⟨g1, 0, none⟩, N, N, g1, 0, expandL (keyL k.b) q.b N⟩ : SL).Ok w2 := ⟨expandL_length _ _ _, Nat.le_refl _, (fun e => by cases e), fun _ => rfl, fun _ => HA2.out.lt.2, fun j hj => by
    rw [Nat.zero_add]; exact HA2.out.cell hj⟩
  have qF : (⟨some ⟨g2, 0, none⟩, H, H, g2, 0, expandL (keyL k.b) q.b H⟩ : SL).Ok w2 := ⟨expandL_length _ _ _, Nat.le_refl _, (fun e => by cases e), fun _ => rfl, fun _ => HO2.out.lt.2, fun j hj => by
    rw [Nat.zero_add]; exact HO2.out.cell hj⟩
  have qS := qA.sub 0 H (by omega)
  have HQA := veil qA
  have HQF := veil qF
  have HQS := veil qS
  clear qA qF qS HO2 HA2
  have hne1 : ((N : Int) != (N : Int)) = false := by simp
  have hne2 : ((H : Int) != (H : Int)) = false := by simp
  have hH0 : (0 : Int) ≤ (H : Int) := by omega
  have hHN : (H : Int) ≤ (N : Int) := by omega
  go_wp2_with fail
  refine (same_sl ⟨some ⟨g2, 0, none⟩, H, H, g2, 0, expandL (keyL k.b) q.b H⟩ ⟨some ⟨g1, 0, none⟩, H, N - 0, g1, 0, ((expandL (keyL k.b) q.b N).drop 0).take H⟩ w2 HQF.out HQS.out (by rw [List.drop_zero]; exact expandL_few _ _ N H hH1) (by show H ≤ 8388608; omega)).mono ?_
  rintro e3 w3 ⟨rfl, hb3⟩
  have HB3 := veil (HB2.out.trans (hb3.mono hs2))
  have HQ3 := veil (HQA.out.below hb3)
  have hs3 := HB3.out.size
  clear hb3 HB2 HQA HQF HQS
  have HEL := veil (expandL_length (keyL k.b) q.b N)
  go_wp2_with fail
  go_loopw [12, 13] (fun v iv wr => ∃ i n : Nat, i ≤ 4 ∧ 32 * i ≤ N ∧ iv = .int .i64 ((i : Int) + 1) ∧ n = (partL (keyL k.b) q.b i).length ∧ wr.ownsRow w3.heap.size 5 1 v n (vb (partL (keyL k.b) q.b i)) ∧ Below w3.heap.size w3 wr)
    (fun _ iv _ => (5 - intOf iv).toNat)
  case atStart => exact ⟨0, 0, by omega, by omega, rfl, rfl, World.ownsRow_nil _ _ _ _, Below.refl _ _⟩
  case round =>
    obtain ⟨i, n, hi4, hiN, rfl, hn, hown, hbel⟩ := hrel
    have hn32 : n ≤ 32 := by rw [hn]; exact partL_le _ _ _
    have HOWN := veil hown
    have HBL := veil hbel
    have hszb := hbel.size
    clear hown hbel hn
    by_cases hgo : i + 1 ≤ 4 ∧ 32 * (i + 1) ≤ N
    · obtain ⟨hg4, hgN⟩ := hgo
      have g1' : (i : Int) + 1 ≤ 4 := by omega
      have g2' : 32 * ((i : Int) + 1) ≤ (N : Int) := by omega
      have hw32 : IntKind.i64.wrap (32 * ((i : Int) + 1)) = 32 * ((i : Int) + 1) := by rw [IntKind.wrap_i64]; omega
      have hcv : IntKind.u8.wrap ((i : Int) + 1) = (i : Int) + 1 := by rw [IntKind.wrap_u8]; omega
      have HPB := veil (part_byte i (by omega))
      have HQr := veil ((HQ.out.below HB3.out).below HBL.out)
      have HKr := veil ((HK.out.below HB3.out).below HBL.out)
      go_wp2_with (first
        | (with_reducible (show wpList _ _ _ (⟨some 88, Op.call _, _, _, _, _⟩ :: _) _ _)
           refine append_sl rfl _ _ 22 rfl w3.heap.size i0 Try.underlying22 hi hz0 hz1 hz2 _ n _ rfl HOWN.out q HQr.out rfl (by omega) hszb ?_
           intro v4 w4 hown4 hgrow4
           have hs4 := hgrow4.size)
        | (with_reducible (show wpList _ _ _ (⟨some 92, Op.call _, _, _, _, _⟩ :: _) _ _)
           refine wpList_append_own _ rfl _ _ 22 rfl w3.heap.size 5 i0 (.int .u8 0) 1 1 Try.underlying22 hi hz0 hz1 hz2 rfl (by decide) _ (n + q.len) _ rfl (hown4.alloc _) ⟨w4.heap.size, 0, none⟩ 1 1 [.int .u8 ((i : Int) + 1)] rfl rfl (cell_one_new _ _ _) (by simp [Value.oneCell']) (by unfold maxLen; omega) (by omega) (by simp; omega) ?_
           intro v5 w5 hown5 hgrow5 _))
      have hpl : (partL (keyL k.b) q.b i ++ q.b) ++ [BitVec.ofNat 8 (i + 1)] = partL (keyL k.b) q.b i ++ (q.b ++ [BitVec.ofNat 8 (i + 1)]) := List.append_assoc _ _ _
      have hown6 : w5.ownsRow w3.heap.size 5 1 v5 (n + q.len + 1) (vb (partL (keyL k.b) q.b i ++ (q.b ++ [BitVec.ofNat 8 (i + 1)]))) := by
        rw [← hpl, vb_append]
        have e : vb [BitVec.ofNat 8 (i + 1)] = [.int .u8 ((i : Int) + 1)] := by
          unfold vb
          rw [List.map_cons, HPB.out]
          rfl
        rw [e]
        exact hown5
      obtain ⟨s5, rfl, hsl5, hsb5, hok5, _⟩ := SL.of_own hown6
      have HB4 : Below w3.heap.size w3 w4 := HBL.out.grown hgrow4 hszb (fun z e => (HOWN.out.lt z e).1)
      have HB5 := veil ((HB4.alloc HB4.size _).grown hgrow5 (by have := HB4.size; simp; omega) (fun z e => ((hown4.alloc (.cells #[.int .u8 ((i : Int) + 1)] 5)).lt z e).1))
      have hs5 := HB5.out.size
      have HS5 := veil hok5
      have hf := mac_fits k.b s5.b (by omega) (by rw [hok5.hb]; omega)
      have hpart : macK (keyL k.b) s5.b = partL (keyL k.b) q.b (i + 1) := by rw [hsb5]; rfl
      rw [hpart] at hf
      have HF := veil hf
      clear hown4 hgrow4 hown5 hgrow5 hown6 HB4 hok5 hf hpart hpl HOWN HQr hsb5
      unfold SL.v
      refine (macF_any k s5 w5 ((HK.out.below HB3.out).below HB5.out) HS5.out).mono ?_
      rintro e6 w6 ⟨rfl, hb6⟩
      rw [HF.out.1, HF.out.2]
      have HB6 := veil (HB5.out.trans (hb6.mono hs5))
      have hs6 := HB6.out.size
      clear hb6 HB5 HS5 HKr
      have hXl := partL_length (keyL k.b) q.b i
      have HEP := veil (expandL_part (keyL k.b) q.b N i hgN)
      obtain ⟨X, hX⟩ : ∃ X, X = partL (keyL k.b) q.b (i + 1) := ⟨_, rfl⟩
      rw [← hX] at hXl HEP ⊢
      have HX := veil hX
      clear hX HF
      have hXs : (bs X).size = 32 := by rw [bs_size, hXl]
      go_wp2_with (first
        | (with_reducible (show wpList _ _ _ (⟨_, Op.alloc 25, _, _, _, _⟩ :: _) _ _)
           refine alloc_row rfl 25 rfl (bs z32) (by kernel_rfl) ?_)
        | (with_reducible (show wpList _ _ _ (⟨_, Op.store 25 _ _, _, _, _, _⟩ :: _) _ _)
           refine store_new (w := w6) (by rfl) 25 _ _ (by rfl) w6.heap.size (bs X) (by rfl) (by rfl) 25 (bs z32) (by rfl) 32 (by kernel_rfl) (by rfl) hXs (bs_one _) ?_))
      have rX : Row (w6.alloc (.cells (bs X) 25)).drew w6.heap.size 25 (bs X) := (Row.new _ _ _).drew
      have HB7 := veil ((HB6.out.alloc hs6 (.cells (bs X) 25)).drew)
      refine held_at (by kernel_rfl) ?_
      generalize (w6.alloc (.cells (bs X) 25)).drew = w7 at *
      have hs7 := HB7.out.size
      obtain ⟨lo, hlo⟩ : ∃ lo : Nat, lo = 32 * i := ⟨_, rfl⟩
      have HLO := veil hlo
      have hlo1 : 32 * ((i : Int) + 1) = (lo : Int) + 32 := by omega
      have hlo2 : lo + 32 ≤ N := by omega
      rw [← hlo] at HEP
      clear hlo
      refine H_take 0 (.int .i64 0) rfl (fun W _ => by go_simp) (by kernel_rfl) (by kernel_rfl) (by kernel_rfl) (fun _ _ _ _ h => h) rfl trivial ?_
      go_simp
      refine H_take 1 (.bool false) rfl (fun W _ => by go_simp) (by kernel_rfl) (by kernel_rfl) (by kernel_rfl) (fun _ _ _ _ h => h) rfl trivial ?_
      go_simp
      refine H_take 2 (.bool false) rfl (fun W _ => by go_simp) (by kernel_rfl) (by kernel_rfl) (by kernel_rfl) (fun _ _ _ _ h => h) rfl trivial ?_
      go_simp
      refine H_take 3 (.slice (some ⟨w6.heap.size, 0, none⟩) 32 32) rfl (fun W _ => by go_simp) (by kernel_rfl) (by kernel_rfl) (by kernel_rfl) (fun _ _ _ _ h => h) rfl trivial ?_
      go_simp
      refine H_take 4 (.slice (some ⟨g1, 0, none⟩) N N) rfl (fun W _ => by go_simp) (by kernel_rfl) (by kernel_rfl) (by kernel_rfl) (fun _ _ _ _ h => h) rfl trivial ?_
      go_simp
      refine H_take 5 (.int .i64 ((i : Int) + 1)) rfl (fun W _ => by go_simp) (by kernel_rfl) (by kernel_rfl) (by kernel_rfl) (fun _ _ _ _ h => h) rfl trivial ?_
      go_simp
      refine H_take 6 (.int .i64 ((lo : Int) + 32)) rfl (fun W _ => by go_simp; rw [IntKind.wrap_i64]; omega) (by kernel_rfl) (by kernel_rfl) (by kernel_rfl) (fun _ _ _ _ h => h) rfl trivial ?_
      go_simp
      refine H_take 7 (.int .i64 (lo : Int)) rfl (fun W _ => by go_simp; rw [IntKind.wrap_i64]; omega) (by kernel_rfl) (by kernel_rfl) (by kernel_rfl) (fun _ _ _ _ h => h) rfl trivial ?_
      go_simp
      refine H_take 8 (.int .i64 ((i : Int) + 1)) rfl (fun W _ => by go_simp) (by kernel_rfl) (by kernel_rfl) (by kernel_rfl) (fun _ _ _ _ h => h) rfl trivial ?_
      go_simp
      refine H_take 9 (.int .i64 ((lo : Int) + 32)) rfl (fun W _ => by go_simp; rw [IntKind.wrap_i64]; omega) (by kernel_rfl) (by kernel_rfl) (by kernel_rfl) (fun _ _ _ _ h => h) rfl trivial ?_
      go_simp
      have hcA : (0 : Int) ≤ (lo : Int) + 32 ∧ (lo : Int) + 32 ≤ (N : Int) := by omega
      have hcB : lo ≤ ((lo : Int) + 32).toNat := by omega
      have hcC : ¬ N = lo := by omega
      have hcD : ((lo : Int) + 32).toNat - lo = 32 := by omega
      refine H_take 10 (.slice (some ⟨g1, lo, none⟩) 32 (N - lo)) rfl (fun W _ => by go_simp) (by kernel_rfl) (by kernel_rfl) (by kernel_rfl) (fun _ _ _ _ h => h) rfl trivial ?_
      go_simp
      have hsub := (HQ3.out.below HB7.out).sub lo 32 hlo2
      refine H_one 11 (by kernel_rfl) (O_call rfl rfl 17 #[.slice (some ⟨w6.heap.size, 0, none⟩) 32 32, .slice (some ⟨g1, lo, none⟩) 32 (N - lo)] (by go_simp) ?_)
      refine (same_sl (rowN w6.heap.size 32 X) ⟨some ⟨g1, lo, none⟩, 32, N - lo, g1, lo, ((expandL (keyL k.b) q.b N).drop lo).take 32⟩ w7 (rowN_ok rX hXl) hsub HEP.out.symm (by show 32 ≤ 8388608; omega)).mono ?_
      rintro e8 w8 ⟨rfl, hb8⟩
      refine ⟨_, rfl, trivial, ?_⟩
      go_simp
      refine H_one 12 (by kernel_rfl) (O_value rfl rfl (.bool false) w8 (by go_simp) ⟨trivial, ?_⟩)
      go_simp
      refine H_one 13 (by kernel_rfl) (O_value rfl rfl (.bool false) w8 (by go_simp) ⟨trivial, ?_⟩)
      go_simp
      refine wpAnyH_done (by kernel_rfl) ?_ _
      have HB8 := veil (HB7.out.trans (hb8.mono hs7))
      have rX8 := rX.below hb8 rX.lt
      have hs8 := HB8.out.size
      clear hb8 hsub rX HB7
      clear hcA hcB hcC hcD
      go_wp2_with (with_reducible (show wpList _ _ _ (⟨some 115, Op.call _, _, _, _, _⟩ :: _) _ _)
                   refine append_sl rfl _ _ 22 rfl w3.heap.size i0 Try.underlying22 hi hz0 hz1 hz2 _ 0 [] rfl (World.ownsRow_made w8 #[] 0 hs8 (Nat.zero_le _) rfl) (rowN w6.heap.size 32 X) ((rowN_ok rX8 hXl).alloc _) rfl (by show 0 + 32 ≤ 8388608; omega) (by simp; omega) ?_
                   intro v9 w9 hown9 hgrow9)
      have HB9 := (HB8.out.alloc hs8 (.cells #[] 5)).grown hgrow9 (by simp; omega) (fun z e => by cases e; exact hs8)
      rw [List.nil_append, Nat.zero_add] at hown9
      go_wp2_with fail
      go_roundw
      case rel =>
        refine ⟨i + 1, 32, by omega, by omega, by go_num, (partL_length _ _ _).symm, ?_, HB9⟩
        rw [← HX.out]
        exact hown9
      case measure => simp only [intOf]; omega
    · rcases (show ¬ (i : Int) + 1 ≤ 4 ∨ ((i : Int) + 1 ≤ 4 ∧ ¬ 32 * ((i : Int) + 1) ≤ (N : Int)) by omega) with g1' | ⟨g1', g2'⟩
      · go_wp2_with fail
        go_ret
        exact ⟨rfl, HB3.out.trans (HBL.out.mono hs3)⟩
      · have hw32 : IntKind.i64.wrap (32 * ((i : Int) + 1)) = 32 * ((i : Int) + 1) := by rw [IntKind.wrap_i64]; omega
        go_wp2_with fail
        go_ret
        exact ⟨rfl, HB3.out.trans (HBL.out.mono hs3)⟩
end Go.Proofs.Ytcfmghnjokmfiaa
