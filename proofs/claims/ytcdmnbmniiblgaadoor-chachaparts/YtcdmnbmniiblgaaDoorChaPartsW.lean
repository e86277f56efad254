/-
  ChachaParts' walk. Written by mkparts.py.
-/
import Derived.Test.YtcdmnbmniiblgaaDoorChaPartsP
import Derived.Laws.AppendOwn
namespace Go.Proofs.YtcdmnbmniiblgaaDoor
open Go Go.RowKit

set_option maxRecDepth 20000 in
set_option maxHeartbeats 4000000 in
theorem parts_walk (key : List By) (count : Wd) (nonce : List By) (hk : key.length = 32) (hn : nonce.length = 12) (b : SL) (at0 : Int) (ha0 : 0 ≤ at0) (ha1 : at0 ≤ 65535) (w : World) (hg : Glob w) (hb : b.Ok w) (hl : b.len ≤ 140737488355328) :
    Calls Tryd.prog 5 #[.agg (fromC key count nonce), .slice b.a b.len b.cap, .int .u16 at0] w fun e w' => e = .returned (.bool true) ∧ Below w.heap.size w w' := by
  obtain ⟨i0, hi, hz0, hz1, hz2⟩ := info_parts (P := Tryd.prog) (e := 5) (z := .int .u8 0) (size := 1) (bytes := 1) (by kernel_rfl)
  have HK := veil hk
  have HN := veil hn
  have HG := veil hg
  have HB := veil hb
  have hkz : (bs key).size = 32 := by rw [bs_size, hk]
  have hnz : (bs nonce).size = 12 := by rw [bs_size, hn]
  have hbl := hb.hb
  have hbc := hb.hcap
  clear hk hn hg hb
  have r0 : Row (w.alloc (.cells (fromC key count nonce) 26)) w.heap.size 26 (fromC key count nonce) := Row.new _ _ _
  have b0 : Below w.heap.size w (w.alloc (.cells (fromC key count nonce) 26)) := (Below.refl _ w).alloc (Nat.le_refl _) _
  go_enter Tryd.func5, Tryd.ntmps5
  go_wp2_with fail
  refine (alive_any _ (HG.out.below b0 (Nat.le_refl _))).mono ?_
  rintro e1 w1 ⟨rfl, hb1⟩
  have r1 := r0.below hb1 r0.lt
  have b1 := b0.trans (hb1.mono b0.size)
  clear hb1 r0 b0
  by_cases hbig : b.len ≤ 20000
  · have hd0 : decide ((20000 : Int) < (b.len : Int)) = false := by rw [decide_eq_false_iff_not]; omega
    have c32 := from_count r1 HK.out
    have HR1 := veil r1
    have HB1 := veil b1
    clear r1 b1
    go_wp2_with (first
      | (with_reducible (show wpList _ _ _ (⟨_, Op.load 22 _, _, _, _, _⟩ :: _) _ _)
         refine load_part rfl 22 _ rfl w.heap.size 0 rfl (bs key) _ Tryd.underlying22 rfl 32 (by kernel_rfl) hkz (from_key HR1.out) ?_)
      | (with_reducible (show wpList _ _ _ (⟨_, Op.load 24 _, _, _, _, _⟩ :: _) _ _)
         refine load_part rfl 24 _ rfl w.heap.size 33 rfl (bs nonce) _ Tryd.underlying24 rfl 12 (by kernel_rfl) hnz (from_nonce HR1.out HK.out) ?_))
    have hg2 := HG.out.below HB1.out (Nat.le_refl _)
    have hb2 := HB.out.below HB1.out
    rcases xor_cases key count nonce HK.out HN.out b w1 hg2 hb2 with ⟨hG, hX⟩ | ⟨hG, hX⟩
    · refine hX.mono ?_
      rintro e3 w3 ⟨rfl, hb3⟩
      have b3 := HB1.out.trans (hb3.mono HB1.out.size)
      clear hb3 hX
      go_wp2_with fail
      go_ret
      exact ⟨rfl, b3⟩
    · refine hX.mono ?_
      rintro e3 w3 ⟨g3, rfl, own3, hb3⟩
      have hG2 := (show Hid (¬ Great count b.len) from hG)
      have ok3 := veil (own_ok own3)
      have b3 := veil (HB1.out.trans (hb3.mono HB1.out.size))
      have r3 := veil (HR1.out.below hb3 HR1.out.lt)
      have bb3 := veil (hb2.below hb3)
      have hg3 : g3 < w3.heap.size := (own3.lt g3 rfl).2
      clear own3 hb3 hX hG hg2 hb2 c32 HR1 HB1
      obtain ⟨k, hk⟩ : ∃ k : Nat, (k : Int) = at0 % ((b.len : Int) / 64 + 1) := ⟨(at0 % ((b.len : Int) / 64 + 1)).toNat, by
        have := Int.emod_nonneg at0 (b := (b.len : Int) / 64 + 1) (by omega)
        omega⟩
      have hk1 : (k : Int) < (b.len : Int) / 64 + 1 := by rw [hk]; exact Int.emod_lt_of_pos _ (by omega)
      have hk2 : 64 * k ≤ b.len := by omega
      have hrem : Int.tmod at0 ((b.len : Int) / 64 + 1) = (k : Int) := by rw [hk, Int.tmod_eq_emod_of_nonneg ha0]
      have hquo : Int.tdiv (b.len : Int) 64 = (b.len : Int) / 64 := Int.tdiv_eq_ediv_of_nonneg (by omega)
      have hcv : IntKind.i64.wrap at0 = at0 := by rw [IntKind.wrap_i64]; omega
      have hw64 : IntKind.i64.wrap (64 * (k : Int)) = 64 * (k : Int) := by rw [IntKind.wrap_i64]; omega
      have hne : ¬ ((b.len : Int) / 64 + 1 = 0) := by omega
      have hwk : IntKind.i64.wrap ((b.len : Int) / 64 + 1) = (b.len : Int) / 64 + 1 := by rw [IntKind.wrap_i64]; omega
      go_upto_if 49 with fail
      rw [← hk]
      clear hk hrem hquo hcv hne hwk hk1
      by_cases hfull : 64 * k = b.len
      · have heq : ((64 * (k : Int)) == (b.len : Int)) = true := by rw [beq_iff_eq]; omega
        go_wp2_with fail
        go_ret
        exact ⟨rfl, b3.out⟩
      · have heq : ((64 * (k : Int)) == (b.len : Int)) = false := by rw [beq_eq_false_iff_ne]; omega
        have hlt : 64 * k < b.len := by omega
        have hba : b.a = some ⟨b.g, b.off, none⟩ := HB.out.at_ (by omega)
        obtain ⟨hGh, hGt⟩ := great_parts count b.len k hG2.out hlt
        rw [hba]
        go_wp2_with fail
        refine held_any (S := fun W => Row W w.heap.size 26 (fromC key count nonce) ∧ Below w3.heap.size w3 W) (by kernel_rfl) ⟨r3.out.drew, (Below.refl _ w3).drew⟩ (fun W hW => ?_)
        refine wpAnyH_take (i := 0) (v := .pointer (some ⟨w.heap.size, 0, none⟩)) rfl (by kernel_rfl) (by kernel_rfl) (by kernel_rfl) (fun _ _ _ h => h) (.inl ⟨by kernel_rfl, fun W h => by kernel_rfl⟩) hW ?_
        refine wpAnyH_take (i := 1) (v := .agg (bs key)) rfl (by kernel_rfl) (by kernel_rfl) (by kernel_rfl) (fun _ _ _ h => h) (.inl ⟨by kernel_rfl, fun W h => run_mid 22 _ w.heap.size 0 (bs key) _ rfl (by kernel_rfl) Tryd.underlying22 rfl (by rw [hkz]; kernel_rfl) W (from_key h.1)⟩) hW ?_
        refine wpAnyH_take (i := 2) (v := .pointer (some ⟨w.heap.size, 32, none⟩)) rfl (by kernel_rfl) (by kernel_rfl) (by kernel_rfl) (fun _ _ _ h => h) (.inl ⟨by kernel_rfl, fun W h => by kernel_rfl⟩) hW ?_
        refine wpAnyH_take (i := 3) (v := .int .u32 (u count)) rfl (by kernel_rfl) (by kernel_rfl) (by kernel_rfl) (fun _ _ _ h => h) (.inl ⟨by kernel_rfl, fun W h => run_cell 23 _ ⟨w.heap.size, 32, none⟩ _ _ rfl (by kernel_rfl) Tryd.underlying23 rfl W (from_count h.1 HK.out)⟩) hW ?_
        refine wpAnyH_take (i := 4) (v := .pointer (some ⟨w.heap.size, 33, none⟩)) rfl (by kernel_rfl) (by kernel_rfl) (by kernel_rfl) (fun _ _ _ h => h) (.inl ⟨by kernel_rfl, fun W h => by kernel_rfl⟩) hW ?_
        refine wpAnyH_take (i := 5) (v := .agg (bs nonce)) rfl (by kernel_rfl) (by kernel_rfl) (by kernel_rfl) (fun _ _ _ h => h) (.inl ⟨by kernel_rfl, fun W h => run_mid 24 _ w.heap.size 33 (bs nonce) _ rfl (by kernel_rfl) Tryd.underlying24 rfl (by rw [hnz]; kernel_rfl) W (from_nonce h.1 HK.out)⟩) hW ?_
        refine wpAnyH_take (i := 6) (v := .slice (some ⟨b.g, b.off, none⟩) b.len b.cap) rfl (by kernel_rfl) (by kernel_rfl) (by kernel_rfl) (fun _ _ _ h => h) (.inl ⟨by kernel_rfl, fun W h => run_move _ (.slice (some ⟨b.g, b.off, none⟩) b.len b.cap) rfl (by kernel_rfl) W⟩) hW ?_
        refine wpAnyH_take (i := 7) (v := .int .i64 (k : Int)) rfl (by kernel_rfl) (by kernel_rfl) (by kernel_rfl) (fun _ _ _ h => h) (.inl ⟨by kernel_rfl, fun W h => run_move _ (.int .i64 (k : Int)) rfl (by kernel_rfl) W⟩) hW ?_
        refine wpAnyH_take (i := 8) (v := .int .i64 (64 * (k : Int))) rfl (by kernel_rfl) (by kernel_rfl) (by kernel_rfl) (fun _ _ _ h => h) (.inl ⟨by kernel_rfl, fun W h => by go_simp⟩) hW ?_
        refine wpAnyH_take (i := 9) (v := .slice (some ⟨b.g, b.off, none⟩) (64 * k) b.cap) rfl (by kernel_rfl) (by kernel_rfl) (by kernel_rfl) (fun _ _ _ h => h) (.inl ⟨by kernel_rfl, fun W h => run_cut_hi 30 5 _ _ ⟨b.g, b.off, none⟩ b.len b.cap (64 * k) rfl (by kernel_rfl) (by kernel_rfl) Tryd.underlying30 (by kernel_rfl) (by omega) W⟩) hW ?_
        refine H_call 10 11 #[.agg (bs key), .int .u32 (u count), .agg (bs nonce), .slice (some ⟨b.g, b.off, none⟩) (64 * k) b.cap] rfl (by kernel_rfl) (by kernel_rfl) (by kernel_rfl) ?_
        obtain ⟨hW1, hW2⟩ := hW
        have hbW := b3.out.trans (hW2.mono b3.out.size)
        have hX := xor_ok key count nonce HK.out HN.out ⟨some ⟨b.g, b.off, none⟩, 64 * k, b.cap, b.g, b.off, b.b.take (64 * k)⟩ W (HG.out.below hbW (Nat.le_refl _)) ((bb3.out.below hW2).head (64 * k) (by omega) (by omega)) (by show 64 * k ≤ _; omega) (by unfold Great at hGh; show (((64 * k + 63) / 64 : Nat) : Int) ≤ _; omega)
        refine hX.mono ?_
        rintro e5 w5 ⟨g5, rfl, own5, hb5⟩
        have k0 := hW1.below hb5 hW1.lt
        have kb := hW2.trans (hb5.mono hW2.size)
        refine ⟨_, rfl, ⟨k0, kb⟩, ?_⟩
        clear hX
        refine wpAnyH_take (i := 11) (v := .tuple #[.slice (some ⟨g5, 0, none⟩) (64 * k) (64 * k), .int .i64 0]) rfl (by kernel_rfl) (by kernel_rfl) (by kernel_rfl) (fun _ _ _ h => h) (.inl ⟨by kernel_rfl, fun W h => run_move _ _ rfl (by kernel_rfl) W⟩) ⟨k0, kb⟩ ?_
        refine wpAnyH_take (i := 12) (v := .slice (some ⟨g5, 0, none⟩) (64 * k) (64 * k)) rfl (by kernel_rfl) (by kernel_rfl) (by kernel_rfl) (fun _ _ _ h => h) (.inl ⟨by kernel_rfl, fun W h => run_extract _ 0 #[.slice (some ⟨g5, 0, none⟩) (64 * k) (64 * k), .int .i64 0] _ rfl (by kernel_rfl) rfl W⟩) ⟨k0, kb⟩ ?_
        refine wpAnyH_take (i := 13) (v := .int .i64 0) rfl (by kernel_rfl) (by kernel_rfl) (by kernel_rfl) (fun _ _ _ h => h) (.inl ⟨by kernel_rfl, fun W h => run_extract _ 1 #[.slice (some ⟨g5, 0, none⟩) (64 * k) (64 * k), .int .i64 0] _ rfl (by kernel_rfl) rfl W⟩) ⟨k0, kb⟩ ?_
        refine wpAnyH_take (i := 14) (v := .slice (some ⟨g5, 0, none⟩) (64 * k) (64 * k)) rfl (by kernel_rfl) (by kernel_rfl) (by kernel_rfl) (fun _ _ _ h => h) (.inl ⟨by kernel_rfl, fun W h => by kernel_rfl⟩) ⟨k0, kb⟩ ?_
        refine wpAnyH_take (i := 15) (v := .int .i64 0) rfl (by kernel_rfl) (by kernel_rfl) (by kernel_rfl) (fun _ _ _ h => h) (.inl ⟨by kernel_rfl, fun W h => by kernel_rfl⟩) ⟨k0, kb⟩ ?_
        go_simp
        refine wpAnyH_done (by kernel_rfl) ?_ _
        have hg5 : g5 < w5.heap.size ∧ W.heap.size ≤ g5 := ⟨(own5.lt g5 rfl).2, (own5.lt g5 rfl).1⟩
        have hs5 := kb.size
        have hsW := hW2.size
        have own5v := veil own5
        have ok5 := veil (ok3.out.below kb)
        have bb5 := veil (bb3.out.below kb)
        have b5 := veil (b3.out.trans (kb.mono b3.out.size))
        have r5 := veil k0
        clear own5 hb5 k0 kb hW1 hW2 hbW
        go_wp2_with fail
        have hwk : IntKind.u32.wrap (k : Int) = (k : Int) := by rw [IntKind.wrap_u32']; omega
        have hct := u_cnt count k (by omega)
        refine held_any (S := fun W => Row W w.heap.size 26 (fromC key count nonce) ∧ Below w5.heap.size w5 W) (by kernel_rfl) ⟨r5.out.drew, (Below.refl _ w5).drew⟩ (fun V hV => ?_)
        refine wpAnyH_take (i := 0) (v := .pointer (some ⟨w.heap.size, 0, none⟩)) rfl (by kernel_rfl) (by kernel_rfl) (by kernel_rfl) (fun _ _ _ h => h) (.inl ⟨by kernel_rfl, fun W h => by kernel_rfl⟩) hV ?_
        refine wpAnyH_take (i := 1) (v := .agg (bs key)) rfl (by kernel_rfl) (by kernel_rfl) (by kernel_rfl) (fun _ _ _ h => h) (.inl ⟨by kernel_rfl, fun W h => run_mid 22 _ w.heap.size 0 (bs key) _ rfl (by kernel_rfl) Tryd.underlying22 rfl (by rw [hkz]; kernel_rfl) W (from_key h.1)⟩) hV ?_
        refine wpAnyH_take (i := 2) (v := .pointer (some ⟨w.heap.size, 32, none⟩)) rfl (by kernel_rfl) (by kernel_rfl) (by kernel_rfl) (fun _ _ _ h => h) (.inl ⟨by kernel_rfl, fun W h => by kernel_rfl⟩) hV ?_
        refine wpAnyH_take (i := 3) (v := .int .u32 (u count)) rfl (by kernel_rfl) (by kernel_rfl) (by kernel_rfl) (fun _ _ _ h => h) (.inl ⟨by kernel_rfl, fun W h => run_cell 23 _ ⟨w.heap.size, 32, none⟩ _ _ rfl (by kernel_rfl) Tryd.underlying23 rfl W (from_count h.1 HK.out)⟩) hV ?_
        refine wpAnyH_take (i := 4) (v := .int .i64 (k : Int)) rfl (by kernel_rfl) (by kernel_rfl) (by kernel_rfl) (fun _ _ _ h => h) (.inl ⟨by kernel_rfl, fun W h => run_move _ (.int .i64 (k : Int)) rfl (by kernel_rfl) W⟩) hV ?_
        refine wpAnyH_take (i := 5) (v := .int .u32 (k : Int)) rfl (by kernel_rfl) (by kernel_rfl) (by kernel_rfl) (fun _ _ _ h => h) (.inl ⟨by kernel_rfl, fun W h => by go_simp⟩) hV ?_
        refine wpAnyH_take (i := 6) (v := .int .u32 (u (cnt count k))) rfl (by kernel_rfl) (by kernel_rfl) (by kernel_rfl) (fun _ _ _ h => h) (.inl ⟨by kernel_rfl, fun W h => by go_simp; rw [IntKind.wrap_u32']; exact hct⟩) hV ?_
        refine wpAnyH_take (i := 7) (v := .pointer (some ⟨w.heap.size, 33, none⟩)) rfl (by kernel_rfl) (by kernel_rfl) (by kernel_rfl) (fun _ _ _ h => h) (.inl ⟨by kernel_rfl, fun W h => by kernel_rfl⟩) hV ?_
        refine wpAnyH_take (i := 8) (v := .agg (bs nonce)) rfl (by kernel_rfl) (by kernel_rfl) (by kernel_rfl) (fun _ _ _ h => h) (.inl ⟨by kernel_rfl, fun W h => run_mid 24 _ w.heap.size 33 (bs nonce) _ rfl (by kernel_rfl) Tryd.underlying24 rfl (by rw [hnz]; kernel_rfl) W (from_nonce h.1 HK.out)⟩) hV ?_
        refine wpAnyH_take (i := 9) (v := .slice (some ⟨b.g, b.off, none⟩) b.len b.cap) rfl (by kernel_rfl) (by kernel_rfl) (by kernel_rfl) (fun _ _ _ h => h) (.inl ⟨by kernel_rfl, fun W h => run_move _ (.slice (some ⟨b.g, b.off, none⟩) b.len b.cap) rfl (by kernel_rfl) W⟩) hV ?_
        refine wpAnyH_take (i := 10) (v := .int .i64 (k : Int)) rfl (by kernel_rfl) (by kernel_rfl) (by kernel_rfl) (fun _ _ _ h => h) (.inl ⟨by kernel_rfl, fun W h => run_move _ (.int .i64 (k : Int)) rfl (by kernel_rfl) W⟩) hV ?_
        refine wpAnyH_take (i := 11) (v := .int .i64 (64 * (k : Int))) rfl (by kernel_rfl) (by kernel_rfl) (by kernel_rfl) (fun _ _ _ h => h) (.inl ⟨by kernel_rfl, fun W h => by go_simp⟩) hV ?_
        refine wpAnyH_take (i := 12) (v := .slice (some ⟨b.g, b.off + 64 * k, none⟩) (b.len - 64 * k) (b.cap - 64 * k)) rfl (by kernel_rfl) (by kernel_rfl) (by kernel_rfl) (fun _ _ _ h => h) (.inl ⟨by kernel_rfl, fun W h => run_cut_off 30 5 _ _ b.g b.off b.len b.cap (64 * k) rfl (by kernel_rfl) (by kernel_rfl) Tryd.underlying30 (by kernel_rfl) hlt hbc W⟩) hV ?_
        refine H_call 13 11 #[.agg (bs key), .int .u32 (u (cnt count k)), .agg (bs nonce), .slice (some ⟨b.g, b.off + 64 * k, none⟩) (b.len - 64 * k) (b.cap - 64 * k)] rfl (by kernel_rfl) (by kernel_rfl) (by kernel_rfl) ?_
        obtain ⟨hV1, hV2⟩ := hV
        have hbV := b5.out.trans (hV2.mono b5.out.size)
        have hX := xor_ok key (cnt count k) nonce HK.out HN.out ⟨some ⟨b.g, b.off + 64 * k, none⟩, b.len - 64 * k, b.cap - 64 * k, b.g, b.off + 64 * k, b.b.drop (64 * k)⟩ V (HG.out.below hbV (Nat.le_refl _)) ((bb5.out.below hV2).tail (64 * k) hlt) (by show b.len - 64 * k ≤ _; omega) (by unfold Great at hGt; show (((b.len - 64 * k + 63) / 64 : Nat) : Int) ≤ _; omega)
        refine hX.mono ?_
        rintro e6 w6 ⟨g6, rfl, own6, hb6⟩
        have k0 := hV1.below hb6 hV1.lt
        have kb := hV2.trans (hb6.mono hV2.size)
        refine ⟨_, rfl, ⟨k0, kb⟩, ?_⟩
        clear hX
        refine wpAnyH_take (i := 14) (v := .tuple #[.slice (some ⟨g6, 0, none⟩) (b.len - 64 * k) (b.len - 64 * k), .int .i64 0]) rfl (by kernel_rfl) (by kernel_rfl) (by kernel_rfl) (fun _ _ _ h => h) (.inl ⟨by kernel_rfl, fun W h => run_move _ _ rfl (by kernel_rfl) W⟩) ⟨k0, kb⟩ ?_
        refine wpAnyH_take (i := 15) (v := .slice (some ⟨g6, 0, none⟩) (b.len - 64 * k) (b.len - 64 * k)) rfl (by kernel_rfl) (by kernel_rfl) (by kernel_rfl) (fun _ _ _ h => h) (.inl ⟨by kernel_rfl, fun W h => run_extract _ 0 #[.slice (some ⟨g6, 0, none⟩) (b.len - 64 * k) (b.len - 64 * k), .int .i64 0] _ rfl (by kernel_rfl) rfl W⟩) ⟨k0, kb⟩ ?_
        refine wpAnyH_take (i := 16) (v := .int .i64 0) rfl (by kernel_rfl) (by kernel_rfl) (by kernel_rfl) (fun _ _ _ h => h) (.inl ⟨by kernel_rfl, fun W h => run_extract _ 1 #[.slice (some ⟨g6, 0, none⟩) (b.len - 64 * k) (b.len - 64 * k), .int .i64 0] _ rfl (by kernel_rfl) rfl W⟩) ⟨k0, kb⟩ ?_
        refine wpAnyH_take (i := 17) (v := .slice (some ⟨g6, 0, none⟩) (b.len - 64 * k) (b.len - 64 * k)) rfl (by kernel_rfl) (by kernel_rfl) (by kernel_rfl) (fun _ _ _ h => h) (.inl ⟨by kernel_rfl, fun W h => by kernel_rfl⟩) ⟨k0, kb⟩ ?_
        refine wpAnyH_take (i := 18) (v := .int .i64 0) rfl (by kernel_rfl) (by kernel_rfl) (by kernel_rfl) (fun _ _ _ h => h) (.inl ⟨by kernel_rfl, fun W h => by kernel_rfl⟩) ⟨k0, kb⟩ ?_
        go_simp
        refine wpAnyH_done (by kernel_rfl) ?_ _
        have hg6 : g6 < w6.heap.size ∧ V.heap.size ≤ g6 := ⟨(own6.lt g6 rfl).2, (own6.lt g6 rfl).1⟩
        have hs6 := kb.size
        have tl6 := veil (own_ok own6)
        have own56 := veil (own_below own5v.out kb)
        have ok6 := veil (ok5.out.below kb)
        have bb6 := veil (bb5.out.below kb)
        have b6 := veil (b5.out.trans (kb.mono b5.out.size))
        have r6 := veil k0
        have c32 := from_count k0 HK.out
        clear own6 hb6 k0 kb hV1 hV2 hbV own5v ok5 bb5 b5 r5
        go_wp2_with (first
          | (with_reducible (show wpList _ _ _ (⟨_, Op.load 22 _, _, _, _, _⟩ :: _) _ _)
             refine load_part rfl 22 _ rfl w.heap.size 0 rfl (bs key) _ Tryd.underlying22 rfl 32 (by kernel_rfl) hkz (from_key r6.out) ?_)
          | (with_reducible (show wpList _ _ _ (⟨_, Op.load 24 _, _, _, _, _⟩ :: _) _ _)
             refine load_part rfl 24 _ rfl w.heap.size 33 rfl (bs nonce) _ Tryd.underlying24 rfl 12 (by kernel_rfl) hnz (from_nonce r6.out HK.out) ?_))
        refine (block_any key (cnt count k) nonce HK.out HN.out w6 (HG.out.below b6.out (Nat.le_refl _))).mono ?_
        rintro e7 w7 ⟨rfl, hb7⟩
        have HAT := veil (xorL_at key count nonce b.b k (by rw [hbl]; exact hlt))
        have HPT := veil (xorL_parts key count nonce b.b k (by rw [hbl]; omega))
        have HB64 := veil (blockL_length key (cnt count k) nonce)
        generalize blockL key (cnt count k) nonce = D at *
        have hD : (bs D).size = 64 := by rw [bs_size, HB64.out]
        have tl7 := veil (tl6.out.below hb7)
        have own57 := veil (own_below own56.out hb7)
        have ok7 := veil (ok6.out.below hb7)
        have bb7 := veil (bb6.out.below hb7)
        have b7 := veil (b6.out.trans (hb7.mono b6.out.size))
        have hs7 := hb7.size
        clear hb7 tl6 own56 ok6 bb6 b6 r6 c32 hct hwk
        go_wp2_with (first
          | (with_reducible (show wpList _ _ _ (⟨_, Op.alloc 27, _, _, _, _⟩ :: _) _ _)
             refine alloc_row rfl 27 rfl (bs (List.replicate 64 0)) (by kernel_rfl) ?_)
          | (with_reducible (show wpList _ _ _ (⟨_, Op.store 27 _ _, _, _, _, _⟩ :: _) _ _)
             refine store_new (w := w7) (by rfl) 27 _ _ (by rfl) w7.heap.size (bs D) (by rfl) (by rfl) 27 _ (by rfl) 64 (by kernel_rfl) (by rfl) hD (bs_one _) ?_))
        have bA : Below w7.heap.size w7 (w7.alloc (.cells (bs D) 27)).drew := ((Below.refl _ w7).alloc (Nat.le_refl _) _).drew
        have rD : Row (w7.alloc (.cells (bs D) 27)).drew w7.heap.size 27 (bs D) := (Row.new _ _ _).drew
        have own8 := own_below own57.out (by exact bA)
        have tl8 := tl7.out.below bA
        have ok8 := ok7.out.below bA
        have bb8 := bb7.out.below bA
        have b8 := b7.out.trans (bA.mono b7.out.size)
        have hs8 := bA.size
        refine wp_region_held (S := fun W => Row W w7.heap.size 27 (bs D) ∧ (⟨some ⟨g3, 0, none⟩, b.len, b.len, g3, 0, xorL key count nonce b.b⟩ : SL).Ok W ∧ b.Ok W) (by kernel_rfl) ?_
        show wpAnyH _ _ _ _ _ _ _ _ (w7.alloc (.cells (bs D) 27)).drew
        generalize (w7.alloc (.cells (bs D) 27)).drew = V2 at *
        have hS2 : Row V2 w7.heap.size 27 (bs D) ∧ (⟨some ⟨g3, 0, none⟩, b.len, b.len, g3, 0, xorL key count nonce b.b⟩ : SL).Ok V2 ∧ b.Ok V2 := ⟨rD, ok8, bb8⟩
        refine wpAnyH_take (i := 0) (v := .int .i64 0) rfl (by kernel_rfl) (by kernel_rfl) (by kernel_rfl) (fun _ _ _ h => h) (.inl ⟨by kernel_rfl, fun W h => by kernel_rfl⟩) hS2 ?_
        refine wpAnyH_take (i := 1) (v := .bool true) rfl (by kernel_rfl) (by kernel_rfl) (by kernel_rfl) (fun _ _ _ h => h) (.inl ⟨by kernel_rfl, fun W h => by kernel_rfl⟩) hS2 ?_
        refine wpAnyH_take (i := 2) (v := .bool true) rfl (by kernel_rfl) (by kernel_rfl) (by kernel_rfl) (fun _ _ _ h => h) (.inl ⟨by kernel_rfl, fun W h => by kernel_rfl⟩) hS2 ?_
        refine wpAnyH_take (i := 3) (v := .int .i64 0) rfl (by kernel_rfl) (by kernel_rfl) (by kernel_rfl) (fun _ _ _ h => h) (.inl ⟨by kernel_rfl, fun W h => by kernel_rfl⟩) hS2 ?_
        refine wpAnyH_take (i := 4) (v := .bool true) rfl (by kernel_rfl) (by kernel_rfl) (by kernel_rfl) (fun _ _ _ h => h) (.inl ⟨by kernel_rfl, fun W h => by kernel_rfl⟩) hS2 ?_
        refine wpAnyH_take (i := 5) (v := .bool true) rfl (by kernel_rfl) (by kernel_rfl) (by kernel_rfl) (fun _ _ _ h => h) (.inl ⟨by kernel_rfl, fun W h => by kernel_rfl⟩) hS2 ?_
        refine wpAnyH_take (i := 6) (v := .bool true) rfl (by kernel_rfl) (by kernel_rfl) (by kernel_rfl) (fun _ _ _ h => h) (.inl ⟨by kernel_rfl, fun W h => by kernel_rfl⟩) hS2 ?_
        refine wpAnyH_take (i := 7) (v := .slice (some ⟨g3, 0, none⟩) b.len b.len) rfl (by kernel_rfl) (by kernel_rfl) (by kernel_rfl) (fun _ _ _ h => h) (.inl ⟨by kernel_rfl, fun W h => by kernel_rfl⟩) hS2 ?_
        refine wpAnyH_take (i := 8) (v := .slice (some ⟨g5, 0, none⟩) (64 * k) (64 * k)) rfl (by kernel_rfl) (by kernel_rfl) (by kernel_rfl) (fun _ _ _ h => h) (.inl ⟨by kernel_rfl, fun W h => by kernel_rfl⟩) hS2 ?_
        refine wpAnyH_take (i := 9) (v := .slice (some ⟨g6, 0, none⟩) (b.len - 64 * k) (b.len - 64 * k)) rfl (by kernel_rfl) (by kernel_rfl) (by kernel_rfl) (fun _ _ _ h => h) (.inl ⟨by kernel_rfl, fun W h => by kernel_rfl⟩) hS2 ?_
        obtain ⟨v9, V3, hr3, own9, hg9, _⟩ := run_append_own (P := Tryd.prog) V2 W.heap.size 30 30 5 i0 (.int .u8 0) 1 1 Tryd.underlying30 hi hz0 hz1 hz2 rfl (by decide) (.slice (some ⟨g5, 0, none⟩) (64 * k) (64 * k)) (64 * k) _ own8 ⟨g6, 0, none⟩ (b.len - 64 * k) (b.len - 64 * k) (vb (xorL key (cnt count k) nonce (b.b.drop (64 * k)))) (by rw [vb_length, xorL_length, List.length_drop, hbl, Nat.mul_one])
          (fun j u hj => by
            obtain ⟨h1, rfl⟩ := vb_get' _ j u hj
            rw [xorL_length, List.length_drop, hbl] at h1
            rw [add_off]
            have := tl8.cell j h1
            simp only [Nat.zero_add] at this
            exact this) (vb_one _) (by unfold maxLen; omega) (by omega) (by omega)
        rw [← vb_append, HPT.out] at own9
        obtain ⟨⟨sa, sl, sc, sg, so, sb⟩, hsv, hsl, hsb, hsok, _⟩ := SL.of_own own9
        simp only at hsl hsb
        subst hsl hsb
        have hv9 : v9 = .slice sa (64 * k + (b.len - 64 * k)) sc := hsv.symm
        rw [hv9] at hr3
        have hge : g5 ≠ w7.heap.size ∧ g3 ≠ g5 ∧ g3 < V2.heap.size ∧ w7.heap.size < V2.heap.size := ⟨by omega, by omega, by omega, rD.lt⟩
        have hbgl := HB.out.lt (by omega)
        have hws := b3.out.size
        have hS3 : Row V3 w7.heap.size 27 (bs D) ∧ (⟨some ⟨g3, 0, none⟩, b.len, b.len, g3, 0, xorL key count nonce b.b⟩ : SL).Ok V3 ∧ b.Ok V3 := ⟨(hg9.block _ rD.lt (fun e => by injection e with e; dsimp only at e; omega)).trans rD, ok8.same (fun _ => hg9.block _ hge.2.2.1 (fun e => by injection e with e; dsimp only at e; omega)) hg9.size, bb8.same (fun _ => hg9.block _ (by omega) (fun e => by injection e with e; dsimp only at e; omega)) hg9.size⟩
        have b9 : Below w.heap.size w V3 := b8.grown hg9 b8.size (fun j e => by injection e with e; dsimp only at e; omega)
        refine H_valueW 10 (.slice sa (64 * k + (b.len - 64 * k)) sc) V3 rfl (by kernel_rfl) (by kernel_rfl) (exec_append _ _ _ _ rfl _ _ (by kernel_rfl) (by kernel_rfl) _ V3 hr3) ⟨hS3, ?_⟩
        refine H_call 11 12 #[.slice (some ⟨g3, 0, none⟩) b.len b.len, .slice sa (64 * k + (b.len - 64 * k)) sc] rfl (by kernel_rfl) (by kernel_rfl) (by kernel_rfl) ?_
        refine (same_sl ⟨some ⟨g3, 0, none⟩, b.len, b.len, g3, 0, xorL key count nonce b.b⟩ ⟨sa, 64 * k + (b.len - 64 * k), sc, sg, so, xorL key count nonce b.b⟩ V3 hS3.2.1 hsok rfl (by show b.len ≤ _; omega)).mono ?_
        rintro e9 w9 ⟨rfl, hb9⟩
        have hS9 : Row w9 w7.heap.size 27 (bs D) ∧ (⟨some ⟨g3, 0, none⟩, b.len, b.len, g3, 0, xorL key count nonce b.b⟩ : SL).Ok w9 ∧ b.Ok w9 := ⟨hS3.1.below hb9 hS3.1.lt, hS3.2.1.below hb9, hS3.2.2.below hb9⟩
        have b10 := b9.trans (hb9.mono b9.size)
        refine ⟨_, rfl, hS9, ?_⟩
        refine wpAnyH_take (i := 12) (v := .bool true) rfl (by kernel_rfl) (by kernel_rfl) (by kernel_rfl) (fun _ _ _ h => h) (.inl ⟨by kernel_rfl, fun W h => by kernel_rfl⟩) hS9 ?_
        refine wpAnyH_take (i := 13) (v := .bool true) rfl (by kernel_rfl) (by kernel_rfl) (by kernel_rfl) (fun _ _ _ h => h) (.inl ⟨by kernel_rfl, fun W h => by kernel_rfl⟩) hS9 ?_
        refine wpAnyH_take (i := 14) (v := .slice (some ⟨g3, 0, none⟩) b.len b.len) rfl (by kernel_rfl) (by kernel_rfl) (by kernel_rfl) (fun _ _ _ h => h) (.inl ⟨by kernel_rfl, fun W h => by kernel_rfl⟩) hS9 ?_
        refine wpAnyH_take (i := 15) (v := .int .i64 (k : Int)) rfl (by kernel_rfl) (by kernel_rfl) (by kernel_rfl) (fun _ _ _ h => h) (.inl ⟨by kernel_rfl, fun W h => by kernel_rfl⟩) hS9 ?_
        refine wpAnyH_take (i := 16) (v := .int .i64 (64 * (k : Int))) rfl (by kernel_rfl) (by kernel_rfl) (by kernel_rfl) (fun _ _ _ h => h) (.inl ⟨by kernel_rfl, fun W h => by go_simp⟩) hS9 ?_
        refine wpAnyH_take (i := 17) (v := .pointer (some ⟨g3, 0 + 64 * k, none⟩)) rfl (by kernel_rfl) (by kernel_rfl) (by kernel_rfl) (fun _ _ _ h => h) (.inl ⟨by kernel_rfl, fun W h => run_at 30 5 _ _ g3 0 b.len b.len (64 * k) rfl (by kernel_rfl) (by kernel_rfl) Tryd.underlying30 (by kernel_rfl) hlt W⟩) hS9 ?_
        refine wpAnyH_take (i := 18) (v := .int .u8 (v8 (xb (gb b.b (64 * k)) (gb D 0)))) rfl (by kernel_rfl) (by kernel_rfl) (by kernel_rfl) (fun _ _ _ h => h) (.inl ⟨by kernel_rfl, fun W h => run_cell 5 _ ⟨g3, 0 + 64 * k, none⟩ _ _ rfl (by kernel_rfl) Tryd.underlying5 rfl W (by rw [← HAT.out]; exact h.2.1.cell (64 * k) hlt)⟩) hS9 ?_
        refine wpAnyH_take (i := 19) (v := .slice (some ⟨b.g, b.off, none⟩) b.len b.cap) rfl (by kernel_rfl) (by kernel_rfl) (by kernel_rfl) (fun _ _ _ h => h) (.inl ⟨by kernel_rfl, fun W h => by kernel_rfl⟩) hS9 ?_
        refine wpAnyH_take (i := 20) (v := .int .i64 (k : Int)) rfl (by kernel_rfl) (by kernel_rfl) (by kernel_rfl) (fun _ _ _ h => h) (.inl ⟨by kernel_rfl, fun W h => by kernel_rfl⟩) hS9 ?_
        refine wpAnyH_take (i := 21) (v := .int .i64 (64 * (k : Int))) rfl (by kernel_rfl) (by kernel_rfl) (by kernel_rfl) (fun _ _ _ h => h) (.inl ⟨by kernel_rfl, fun W h => by go_simp⟩) hS9 ?_
        refine wpAnyH_take (i := 22) (v := .pointer (some ⟨b.g, b.off + 64 * k, none⟩)) rfl (by kernel_rfl) (by kernel_rfl) (by kernel_rfl) (fun _ _ _ h => h) (.inl ⟨by kernel_rfl, fun W h => run_at 30 5 _ _ b.g b.off b.len b.cap (64 * k) rfl (by kernel_rfl) (by kernel_rfl) Tryd.underlying30 (by kernel_rfl) hlt W⟩) hS9 ?_
        refine wpAnyH_take (i := 23) (v := .int .u8 (v8 (gb b.b (64 * k)))) rfl (by kernel_rfl) (by kernel_rfl) (by kernel_rfl) (fun _ _ _ h => h) (.inl ⟨by kernel_rfl, fun W h => run_cell 5 _ ⟨b.g, b.off + 64 * k, none⟩ _ _ rfl (by kernel_rfl) Tryd.underlying5 rfl W (h.2.2.cell (64 * k) hlt)⟩) hS9 ?_
        refine wpAnyH_take (i := 24) (v := .pointer (some ⟨w7.heap.size, 0, none⟩)) rfl (by kernel_rfl) (by kernel_rfl) (by kernel_rfl) (fun _ _ _ h => h) (.inl ⟨by kernel_rfl, fun W h => run_addr 27 5 64 _ _ w7.heap.size 0 rfl (by kernel_rfl) (by kernel_rfl) Tryd.underlying27 (by kernel_rfl) (by omega) W⟩) hS9 ?_
        refine wpAnyH_take (i := 25) (v := .int .u8 (v8 (gb D 0))) rfl (by kernel_rfl) (by kernel_rfl) (by kernel_rfl) (fun _ _ _ h => h) (.inl ⟨by kernel_rfl, fun W h => run_cell 5 _ ⟨w7.heap.size, 0, none⟩ _ _ rfl (by kernel_rfl) Tryd.underlying5 rfl W (h.1.cellB (j := 0) (by rw [HB64.out]; omega))⟩) hS9 ?_
        refine wpAnyH_take (i := 26) (v := .int .u8 (v8 (xb (gb b.b (64 * k)) (gb D 0)))) rfl (by kernel_rfl) (by kernel_rfl) (by kernel_rfl) (fun _ _ _ h => h) (.inl ⟨by kernel_rfl, fun W h => by go_simp; exact bxb _ _⟩) hS9 ?_
        refine wpAnyH_take (i := 27) (v := .bool true) rfl (by kernel_rfl) (by kernel_rfl) (by kernel_rfl) (fun _ _ _ h => h) (.inl ⟨by kernel_rfl, fun W h => by go_simp⟩) hS9 ?_
        refine wpAnyH_take (i := 28) (v := .bool true) rfl (by kernel_rfl) (by kernel_rfl) (by kernel_rfl) (fun _ _ _ h => h) (.inl ⟨by kernel_rfl, fun W h => by kernel_rfl⟩) hS9 ?_
        refine wpAnyH_take (i := 29) (v := .bool true) rfl (by kernel_rfl) (by kernel_rfl) (by kernel_rfl) (fun _ _ _ h => h) (.inl ⟨by kernel_rfl, fun W h => by kernel_rfl⟩) hS9 ?_
        go_simp
        refine wpAnyH_done (by kernel_rfl) ?_ _
        go_wp2_with fail
        go_ret
        exact ⟨rfl, b10⟩
  · have hd0 : decide ((20000 : Int) < (b.len : Int)) = true := by rw [decide_eq_true_iff]; omega
    go_wp2_with fail
    refine (alive_any _ (HG.out.below b1 (Nat.le_refl _))).mono ?_
    rintro e3 w3 ⟨rfl, hb3⟩
    have b3 := b1.trans (hb3.mono b1.size)
    clear hb3
    go_wp2_with fail
    go_ret
    exact ⟨rfl, b3⟩
end Go.Proofs.YtcdmnbmniiblgaaDoor
