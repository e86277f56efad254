/-
  What the document's Put answers.
-/
import Derived.Test.YtiecpkkklefjdaaGreatDoorGuHfRefPu
import Derived.Test.YtiecpkkklefjdaaGreatDoorGuChaSl
namespace Go.Proofs.YtiecpkkklefjdaaGreatDoor
open Go Go.RowKit

theorem txt_at (b : List By) {i m : Nat} (hi : i < b.length) (hm : m < Hf.sz (gb b i).toNat) : (Hf.txt b)[(Hf.txt (b.take i)).length + m]? = some (decide (Hf.val (gb b i).toNat / 2 ^ (Hf.sz (gb b i).toNat - 1 - m) % 2 = 1)) := by
  have e : Hf.txt b = Hf.txt (b.take i) ++ (Hf.wb (gb b i).toNat ++ Hf.txt (b.drop (i + 1))) := by
    rw [← List.append_assoc, ← txt_take b hi, ← Hf.txt_append, List.take_append_drop]
  rw [e, List.getElem?_append_right (by omega), Nat.add_sub_cancel_left, List.getElem?_append_left (by rw [Hf.wb_length]; exact hm)]
  unfold Hf.wb
  exact Hf.bitsN_get _ _ _ hm
theorem vb_set (b : List By) (j : Nat) (c : By) : (vb b).set j (.int .u8 (v8 c)) = vb (b.set j c) := by simp [vb, List.map_set]
/-- What Put has: the tables, and its bytes. -/
structure PuG (w : World) (Lg O B : Nat) (b : List By) (vt : Value) (W : World) : Prop where
  ls : Row W Lg 3 (ia Hf.szL)
  cd : Row W O 65 (ua Hf.valL)
  own : W.ownsRow B 5 1 vt b.length (vb b)
  lo : Lg < B ∧ O < B ∧ w.heap.size ≤ B ∧ B ≤ W.heap.size
  below : Below w.heap.size w W
theorem PuG.more {w W W' : World} {Lg O B : Nat} {b : List By} {vt vt' : Value} {o : Obj} (h : PuG w Lg O B b vt W) (c : By) (hg : (W.alloc o).grownBy W' vt.ownBlock) (ho : W'.ownsRow B 5 1 vt' (b.length + 1) (vb b ++ vb [c])) : PuG w Lg O B (b ++ [c]) vt' W' := by
  obtain ⟨l1, l2, l3, l4⟩ := h.lo
  have hb : Below B W W' := ⟨hg.os, hg.tape, hg.output, by have := hg.size; rw [World.size_alloc] at this; omega, fun k hk => (hg.block k (by rw [World.size_alloc]; omega) (fun e => by have := (h.own.lt k e.symm).1; omega)).trans (Below.heap_alloc W o k (by omega))⟩
  refine ⟨h.ls.below hb l1, h.cd.below hb l2, ?_, ⟨l1, l2, l3, Nat.le_trans l4 hb.size⟩, h.below.trans (hb.mono l3)⟩
  rw [List.length_append, vb_append]
  exact ho
theorem PuG.drew {w W : World} {Lg O B : Nat} {b : List By} {vt : Value} (h : PuG w Lg O B b vt W) : PuG w Lg O B b vt W.drew := ⟨h.ls.drew, h.cd.drew, h.own.drew, h.lo, h.below.drew⟩
theorem PuG.set {w W : World} {Lg O B g n cap : Nat} {b : List By} (h : PuG w Lg O B b (.slice (some ⟨g, 0, none⟩) n cap) W) (hn : n = b.length) (j : Nat) (c : By) : PuG w Lg O B (b.set j c) (.slice (some ⟨g, 0, none⟩) n cap) (W.setCell ⟨g, j, none⟩ (.int .u8 (v8 c))) := by
  obtain ⟨l1, l2, l3, l4⟩ := h.lo
  subst hn
  have hg := (h.own.lt g rfl).1
  have hs := (h.own.stored j (.int .u8 (v8 c))).1
  rw [vb_set] at hs
  exact ⟨h.ls.other (a := ⟨g, j, none⟩) (show Lg ≠ g by omega) _, h.cd.other (a := ⟨g, j, none⟩) (show O ≠ g by omega) _, by rw [List.length_set]; exact hs, ⟨l1, l2, l3, by simpa [World.setCell] using l4⟩, h.below.setCell (p := ⟨g, j, none⟩) (by show w.heap.size ≤ g; omega) _⟩
theorem own_some {w : World} {B n : Nat} {v : Value} {xs : List Value} (h : w.ownsRow B 5 1 v n xs) (hn : 0 < n) : ∃ g c, v = .slice (some ⟨g, 0, none⟩) n c ∧ n ≤ c := by
  rcases h.2 with ⟨_, h0⟩ | ⟨g, c, cur, h1, _, _, h2, _⟩
  · omega
  · exact ⟨g, c, h1, h2⟩
set_option maxRecDepth 20000 in
set_option maxHeartbeats 4000000 in
theorem putR_any (s : ByteArray) (hs : s.size ≤ 65536) (w : World) : Calls Tryz.prog 20 #[.string s] w fun e w' => ∃ vt, e = .returned (.tuple #[vt, .int .i64 0]) ∧ w'.ownsRow w.heap.size 5 1 vt (Hf.packL (Hf.txt (bOf s))).length (vb (Hf.packL (Hf.txt (bOf s)))) ∧ Below w.heap.size w w' := by
  obtain ⟨i0, hi, hz0, hz1, hz2⟩ := info_parts (P := Tryz.prog) (e := 5) (z := .int .u8 0) (size := 1) (bytes := 1) (by kernel_rfl)
  have hlim : ¬ ((s.size : Int) > 65536) := by omega
  have HL := veil (bOf_length s)
  have HTL := veil (show (Hf.txt (bOf s)).length ≤ 1966080 by have := Hf.txt_length_le (bOf s); rw [bOf_length] at this; omega)
  go_enter Tryz.func20, Tryz.ntmps20
  go_wp2_with fail
  refine (lengths_any w).mono ?_
  rintro e1 w1 ⟨rfl, hw1⟩
  have rL : Row w1 w.heap.size 3 (ia Hf.szL) := by rw [hw1]; exact Row.new _ _ _
  have b1 : Below w.heap.size w w1 := by rw [hw1]; exact (Below.refl _ w).alloc (Nat.le_refl _) _
  clear hw1
  go_wp2_with fail
  refine (code_any w1).mono ?_
  rintro e2 w2 ⟨O, rfl, rO, hb2⟩
  have HG0 := veil (show PuG w w.heap.size O w2.heap.size (Hf.packL ((Hf.txt (bOf s)).take 0)) (.slice none 0 0) w2 from
    ⟨rL.below hb2 rL.lt, rO, by rw [List.take_zero, show Hf.packL [] = [] from rfl]; exact World.ownsRow_nil _ _ _ _, ⟨Nat.lt_of_lt_of_le rL.lt hb2.size, rO.lt, Nat.le_trans b1.size hb2.size, Nat.le_refl _⟩, b1.trans (hb2.mono b1.size)⟩)
  clear rL b1 rO hb2
  generalize w2.heap.size = B at *
  generalize hLg : w.heap.size = Lg at HG0
  have HLG := veil hLg
  clear hLg
  go_wp2_with fail
  go_loopw [6, 7, 8] (fun out at_ i wr => ∃ (k j : Nat) (vt : Value), k ≤ s.size ∧ j = (Hf.txt ((bOf s).take k)).length ∧ i = .int .i64 (k : Int) ∧ at_ = .int .i64 (j : Int) ∧ out = vt ∧ PuG w Lg O B (Hf.packL ((Hf.txt (bOf s)).take j)) vt wr)
    (fun _ _ i _ => s.size - (intOf i).toNat)
  case atStart => exact ⟨0, 0, .slice none 0 0, Nat.zero_le _, rfl, rfl, rfl, rfl, HG0.out⟩
  case round =>
    clear HG0
    obtain ⟨k, j0, vt0, hk, hj0, rfl, rfl, rfl, hG⟩ := hrel
    by_cases hlt : k < s.size
    · obtain ⟨w9, rfl⟩ : ∃ x, x = wr := ⟨_, rfl⟩
      have hix := fun W => run_strIx (P := Tryz.prog) Tryz.underlying9 s k hlt W
      have hx := (gb (bOf s) k).isLt
      have e8 : v8 (gb (bOf s) k) = ((gb (bOf s) k).toNat : Int) := rfl
      have hkb : k < (bOf s).length := by rw [HL.out]; exact hlt
      have HAT := veil (fun m (hm : m < Hf.sz (gb (bOf s) k).toNat) => txt_at (bOf s) hkb hm)
      have HNX := veil (txt_take (bOf s) hkb)
      have hw := Hf.word_ok (i := (gb (bOf s) k).toNat) (by omega)
      have hv := Hf.word_all_lt (gb (bOf s) k)
      rw [e8] at hix
      generalize (gb (bOf s) k).toNat = x at *
      have cS := hG.ls.cellI (j := x) (by rw [Hf.sz_len]; omega)
      rw [Hf.gn_sz] at cS
      have h30 := hw.2.1
      have h5 := hw.1
      have hval : Hf.val x < 4294967296 := by
        have h6 := hw.2.2.2.1
        have : 2 ^ Hf.sz x ≤ 2 ^ 30 := Nat.pow_le_pow_right (by decide) h30
        omega
      have HJ0 := veil hj0
      have HG := veil hG
      have hj0l : j0 + Hf.sz x ≤ 1966080 := by
        have h7 := congrArg List.length HNX.out
        rw [List.length_append, Hf.wb_length, ← hj0] at h7
        have h8 : (Hf.txt ((bOf s).take (k + 1))).length ≤ (Hf.txt (bOf s)).length := by
          conv => rhs; rw [← List.take_append_drop (k + 1) (bOf s), Hf.txt_append, List.length_append]
          omega
        have := HTL.out
        omega
      have HNXL := veil (show (Hf.txt ((bOf s).take (k + 1))).length = j0 + Hf.sz x by
        have h7 := congrArg List.length HNX.out
        rw [List.length_append, Hf.wb_length, ← hj0] at h7
        exact h7)
      have hVL := Hf.val_len
      have HVAL := veil (show gn Hf.valL x = Hf.val x from rfl)
      clear hw hv e8 hG hj0
      generalize Hf.sz x = SZ at *
      generalize Hf.val x = VX at *
      have hd9 : decide ((k : Int) < (s.size : Int)) = true := by simp; omega
      go_wp2_with fail
      go_loopw [6, 7, 10] (fun out at_ kk wr => ∃ (m : Nat) (vt : Value), m ≤ SZ ∧ kk = .int .i64 ((SZ : Int) - 1 - (m : Int)) ∧ at_ = .int .i64 ((j0 + m : Nat) : Int) ∧ out = vt ∧ PuG w Lg O B (Hf.packL ((Hf.txt (bOf s)).take (j0 + m))) vt wr)
        (fun _ a _ _ => j0 + SZ - (intOf a).toNat)
      case atStart => exact ⟨0, _, Nat.zero_le _, by simp, rfl, rfl, HG.out⟩
      case round =>
        clear HG
        obtain ⟨m, vt, hm, rfl, rfl, rfl, hI⟩ := hrel
        by_cases hmz : m < SZ
        · obtain ⟨kk, hkk⟩ : ∃ kk, kk = SZ - 1 - m := ⟨_, rfl⟩
          rw [show (SZ : Int) - 1 - (m : Int) = (kk : Int) by omega]
          have hT := HAT.out m hmz
          rw [← HJ0.out, ← hkk] at hT
          obtain ⟨j, hj⟩ : ∃ j, j = j0 + m := ⟨_, rfl⟩
          rw [← hj] at hT hI
          rw [← hj]
          have hjl : j < (Hf.txt (bOf s)).length := (List.getElem?_eq_some_iff.1 hT).1
          have hTk : ((Hf.txt (bOf s)).take j).length = j := by rw [List.length_take]; omega
          obtain ⟨sv, hsv⟩ : ∃ sv, sv = VX / 2 ^ kk := ⟨_, rfl⟩
          have hsvl : sv < 4294967296 := by rw [hsv]; exact Nat.lt_of_le_of_lt (Nat.div_le_self _ _) hval
          rw [← hsv] at hT
          obtain ⟨cb, hcb⟩ : ∃ cb, cb = sv % 2 := ⟨_, rfl⟩
          rw [← hcb] at hT
          have hcb2 : cb = 0 ∨ cb = 1 := by omega
          obtain ⟨r, hr⟩ : ∃ r, r = j % 8 := ⟨_, rfl⟩
          have hr8 : r < 8 := by omega
          obtain ⟨c, hc⟩ : ∃ c, c = j / 8 := ⟨_, rfl⟩
          have hq : (j : Int) / 8 = (c : Int) := by omega
          have hk0 : decide ((kk : Int) ≥ 0) = true := by simp
          have hjm : j ≤ 1966080 := by omega
          have hkk30 : kk ≤ 32 := by omega
          have HSV := veil hsv
          have HCB := veil hcb
          have HR := veil hr
          have HC := veil hc
          have HJ := veil hj
          have HKK := veil hkk
          have HNEXT := veil (show (Hf.txt (bOf s)).take (j + 1) = (Hf.txt (bOf s)).take j ++ [decide (cb = 1)] by rw [List.take_add_one, hT]; rfl)
          have HPL := veil (Hf.padL_length ((Hf.txt (bOf s)).take j))
          have HPS := veil (Hf.pad_sub ((Hf.txt (bOf s)).take j))
          rw [hTk, ← hc] at HPL
          rw [hTk, ← hc, ← hr] at HPS
          have HTK := veil hTk
          clear hT hsv hcb hr hc hj hkk hTk hjl
          generalize (Hf.txt (bOf s)).take j = TT at *
          by_cases hr0 : r = 0
          · subst hr0
            have hrt : Int.tmod (j : Int) 8 = 0 := by rw [Int.tmod_eq_emod_of_nonneg (by omega)]; have := HR.out; omega
            obtain ⟨va, vc, hvt⟩ := own_slice hI.own
            subst hvt
            have hpad : Hf.padL TT = Hf.packL TT ++ [255] := by unfold Hf.padL; rw [if_pos (by rw [HTK.out]; exact HR.out.symm)]
            have hlo := hI.lo
            have hpl : (Hf.packL TT).length = c := by have := HPL.out; rw [hpad, List.length_append] at this; simpa using this
            obtain ⟨v4, W1, hrunA, hownA, hgrowA, _⟩ := run_append_own (P := Tryz.prog) (wr.alloc (.cells #[.int .u8 255] 5)) B 23 23 5 i0 (.int .u8 0) 1 1 Tryz.underlying23 hi hz0 hz1 hz2 rfl (by decide) (.slice va (Hf.packL TT).length vc) (Hf.packL TT).length (vb (Hf.packL TT)) (hI.own.alloc _) ⟨wr.heap.size, 0, none⟩ 1 1 [.int .u8 255] rfl (cell_one_new _ _ _) (by simp [Value.oneCell']) (by unfold maxLen; omega) (by omega) (by rw [World.size_alloc]; omega)
            have hvk : [Value.int .u8 255] = vb [255] := rfl
            rw [hvk] at hownA
            have hM := hI.more 255 hgrowA hownA
            rw [← hpad] at hM
            obtain ⟨g, cp, hv4, hcp⟩ := own_some hM.own (by rw [HPL.out]; omega)
            subst hv4
            have hpN : (Hf.padL TT).length = c + 1 := HPL.out
            rw [hpN] at hcp hrunA
            have cV : W1.cell? ⟨O, x, none⟩ = some (.int .u32 (VX : Int)) := by
              have := hM.cd.cellU (j := x) (by rw [hVL]; omega)
              rw [HVAL.out] at this
              exact this
            rw [hpl] at hrunA
            have hMe : PuG w Lg O B (Hf.padL TT) (.slice (some ⟨g, 0, none⟩) (c + 1) cp) W1 := by rw [hpN] at hM; exact hM
            have HM := veil hMe
            clear hM hMe hownA hgrowA hvk hI hlo hpN hpad
            rw [hpl]
            clear hpl
            rcases hcb2 with rfl | rfl
            · have HPK := veil (show Hf.packL ((TT ++ [decide (0 = 1)])) = (Hf.padL TT).set c (Hf.clr (gb (Hf.padL TT) c) 0) by
                have := Hf.pack_false TT
                rw [HTK.out, ← HC.out, ← HR.out] at this
                exact this)
              have hown : W1.ownsRow B 5 1 (.slice (some ⟨g, 0, none⟩) (c + 1) cp) (c + 1) (vb (Hf.padL TT)) := by
                  have := HM.out.own
                  rw [HPL.out] at this
                  exact this
              have cG : W1.cell? ⟨g, c, none⟩ = some (.int .u8 (((gb (Hf.padL TT) c).toNat : Nat) : Int)) := by
                have := hown.cellAt c (by omega)
                rw [vb_get _ _ (by rw [HPL.out]; omega)] at this
                exact this
              have fG := hown.frozenAt c
              have hps := HPS.out
              have hzl : (gb (Hf.padL TT) c).toNat < 256 := (gb (Hf.padL TT) c).isLt
              have HSET := veil ((HM.out.drew).set HPL.out.symm c (Hf.clr (gb (Hf.padL TT) c) 0))
              have e8 : v8 (Hf.clr (gb (Hf.padL TT) c) 0) = (((Hf.clr (gb (Hf.padL TT) c) 0).toNat : Nat) : Int) := rfl
              rw [e8] at HSET
              generalize (Hf.clr (gb (Hf.padL TT) c) 0).toNat = y at *
              generalize (gb (Hf.padL TT) c).toNat = z at *
              have cG2 : W1.drew.cell? ⟨g, c, none⟩ = some (.int .u8 (z : Int)) := cG
              have fG2 : W1.drew.frozen? ⟨g, c, none⟩ = false := fG
              go_wp2_with first
                | (with_reducible (show wpList _ _ _ (⟨_, Op.binOp BinOp.rem _ _ _ _, _, _, _, _⟩ :: _) _ _)
                   refine val_run rfl (.int .i64 ((0 : Nat) : Int)) (run_rem8d _ _ _ _ j 0 HR.out rfl (by kernel_rfl) (by kernel_rfl) _) ?_)
                | (with_reducible (show wpList _ _ _ (⟨_, Op.binOp BinOp.shr _ _ _ _, _, _, _, _⟩ :: _) _ _)
                   refine val_run rfl (.int .u32 (sv : Int)) (run_shr32d _ _ _ _ VX kk sv hkk30 HSV.out rfl (by kernel_rfl) (by kernel_rfl) _) ?_)
                | (with_reducible (show wpList _ _ _ (⟨_, Op.binOp BinOp.and _ _ _ _, _, _, _, _⟩ :: _) _ _)
                   refine val_run rfl (.int .u32 ((0 : Nat) : Int)) (run_and32d _ _ _ _ sv 0 HCB.out hsvl rfl (by kernel_rfl) (by kernel_rfl) _) ?_)
                | (with_reducible (show wpList _ _ _ (⟨_, Op.call { callee := .builtin .append, args := _, argTypes := _ }, _, _, _, _⟩ :: _) _ _)
                   refine appR_run rfl _ _ 23 rfl (.slice va c vc) (.slice (some ⟨wr.heap.size, 0, none⟩) 1 1) (.slice (some ⟨g, 0, none⟩) (c + 1) cp) rfl rfl hrunA ?_)
              have es : (z : Int) - 128 = (y : Int) := by have : y + 128 = z := hps; omega
              have hrt2 : Int.tmod (j : Int) 8 = 0 := hrt
              clear hps
              go_region
              all_goals go_wp2_with fail
              all_goals
                go_roundw
                case rel => exact ⟨m + 1, _, by omega, by rw [show (SZ : Int) - 1 - ((m + 1 : Nat) : Int) = (kk : Int) - 1 by have := HKK.out; omega], by rw [← Nat.add_assoc, ← HJ.out]; go_num, rfl, by rw [← Nat.add_assoc, ← HJ.out, HNEXT.out, HPK.out]; exact HSET.out⟩
                case measure => simp [intOf]; have := HJ.out; omega
            · have HPK := veil (show Hf.packL ((TT ++ [decide (1 = 1)])) = Hf.padL TT from Hf.pack_true TT)
              go_wp2_with first
                | (with_reducible (show wpList _ _ _ (⟨_, Op.binOp BinOp.rem _ _ _ _, _, _, _, _⟩ :: _) _ _)
                   refine val_run rfl (.int .i64 ((0 : Nat) : Int)) (run_rem8d _ _ _ _ j 0 HR.out rfl (by kernel_rfl) (by kernel_rfl) _) ?_)
                | (with_reducible (show wpList _ _ _ (⟨_, Op.binOp BinOp.shr _ _ _ _, _, _, _, _⟩ :: _) _ _)
                   refine val_run rfl (.int .u32 (sv : Int)) (run_shr32d _ _ _ _ VX kk sv hkk30 HSV.out rfl (by kernel_rfl) (by kernel_rfl) _) ?_)
                | (with_reducible (show wpList _ _ _ (⟨_, Op.binOp BinOp.and _ _ _ _, _, _, _, _⟩ :: _) _ _)
                   refine val_run rfl (.int .u32 ((1 : Nat) : Int)) (run_and32d _ _ _ _ sv 1 HCB.out hsvl rfl (by kernel_rfl) (by kernel_rfl) _) ?_)
                | (with_reducible (show wpList _ _ _ (⟨_, Op.call { callee := .builtin .append, args := _, argTypes := _ }, _, _, _, _⟩ :: _) _ _)
                   refine appR_run rfl _ _ 23 rfl (.slice va c vc) (.slice (some ⟨wr.heap.size, 0, none⟩) 1 1) (.slice (some ⟨g, 0, none⟩) (c + 1) cp) rfl rfl hrunA ?_)
              go_roundw
              case rel => exact ⟨m + 1, _, by omega, by rw [show (SZ : Int) - 1 - ((m + 1 : Nat) : Int) = (kk : Int) - 1 by have := HKK.out; omega], by rw [← Nat.add_assoc, ← HJ.out]; go_num, rfl, by rw [← Nat.add_assoc, ← HJ.out, HNEXT.out, HPK.out]; exact HM.out⟩
              case measure => simp [intOf]; have := HJ.out; omega
          · have hrt : ((r : Int) == 0) = false := by simp; omega
            have hpad : Hf.padL TT = Hf.packL TT := by unfold Hf.padL; rw [if_neg (by rw [HTK.out, ← HR.out]; exact hr0)]
            rw [← hpad] at hI
            obtain ⟨g, cp, hv4, hcp⟩ := own_some hI.own (by rw [HPL.out]; omega)
            subst hv4
            have hpN : (Hf.padL TT).length = c + 1 := HPL.out
            rw [hpN] at hcp
            have cV : wr.cell? ⟨O, x, none⟩ = some (.int .u32 (VX : Int)) := by
              have := hI.cd.cellU (j := x) (by rw [hVL]; omega)
              rw [HVAL.out] at this
              exact this
            have hMe : PuG w Lg O B (Hf.padL TT) (.slice (some ⟨g, 0, none⟩) (c + 1) cp) wr := by rw [hpN] at hI; exact hI
            have HM := veil hMe
            rw [hpN]
            clear hMe hI hpN hpad
            rcases hcb2 with rfl | rfl
            · have HPK := veil (show Hf.packL ((TT ++ [decide (0 = 1)])) = (Hf.padL TT).set c (Hf.clr (gb (Hf.padL TT) c) r) by
                have := Hf.pack_false TT
                rw [HTK.out, ← HC.out, ← HR.out] at this
                exact this)
              have hown : wr.ownsRow B 5 1 (.slice (some ⟨g, 0, none⟩) (c + 1) cp) (c + 1) (vb (Hf.padL TT)) := by
                  have := HM.out.own
                  rw [HPL.out] at this
                  exact this
              have cG : wr.cell? ⟨g, c, none⟩ = some (.int .u8 (((gb (Hf.padL TT) c).toNat : Nat) : Int)) := by
                have := hown.cellAt c (by omega)
                rw [vb_get _ _ (by rw [HPL.out]; omega)] at this
                exact this
              have fG := hown.frozenAt c
              have hps := HPS.out
              have hzl : (gb (Hf.padL TT) c).toNat < 256 := (gb (Hf.padL TT) c).isLt
              have HSET := veil ((HM.out.drew).set HPL.out.symm c (Hf.clr (gb (Hf.padL TT) c) r))
              have e8 : v8 (Hf.clr (gb (Hf.padL TT) c) r) = (((Hf.clr (gb (Hf.padL TT) c) r).toNat : Nat) : Int) := rfl
              rw [e8] at HSET
              generalize (Hf.clr (gb (Hf.padL TT) c) r).toNat = y at *
              generalize (gb (Hf.padL TT) c).toNat = z at *
              have cG2 : wr.drew.cell? ⟨g, c, none⟩ = some (.int .u8 (z : Int)) := cG
              have fG2 : wr.drew.frozen? ⟨g, c, none⟩ = false := fG
              go_wp2_with first
                | (with_reducible (show wpList _ _ _ (⟨_, Op.binOp BinOp.rem _ _ _ _, _, _, _, _⟩ :: _) _ _)
                   refine val_run rfl (.int .i64 ((r : Nat) : Int)) (run_rem8d _ _ _ _ j r HR.out rfl (by kernel_rfl) (by kernel_rfl) _) ?_)
                | (with_reducible (show wpList _ _ _ (⟨_, Op.binOp BinOp.shr _ _ _ _, _, _, _, _⟩ :: _) _ _)
                   refine val_run rfl (.int .u32 (sv : Int)) (run_shr32d _ _ _ _ VX kk sv hkk30 HSV.out rfl (by kernel_rfl) (by kernel_rfl) _) ?_)
                | (with_reducible (show wpList _ _ _ (⟨_, Op.binOp BinOp.and _ _ _ _, _, _, _, _⟩ :: _) _ _)
                   refine val_run rfl (.int .u32 ((0 : Nat) : Int)) (run_and32d _ _ _ _ sv 0 HCB.out hsvl rfl (by kernel_rfl) (by kernel_rfl) _) ?_)
              have hrm : Int.tmod (j : Int) 8 = (r : Int) := by rw [Int.tmod_eq_emod_of_nonneg (by omega)]; have := HR.out; omega
              have hc7 : r = 1 ∨ r = 2 ∨ r = 3 ∨ r = 4 ∨ r = 5 ∨ r = 6 ∨ r = 7 := by omega
              rcases hc7 with rfl | rfl | rfl | rfl | rfl | rfl | rfl
              · have es : (z : Int) - 64 = (y : Int) := by have : y + 64 = z := hps; omega
                have hrt2 : Int.tmod (j : Int) 8 = 1 := hrm
                clear hps hrm
                go_region
                all_goals go_wp2_with fail
                all_goals
                  go_roundw
                  case rel => exact ⟨m + 1, _, by omega, by rw [show (SZ : Int) - 1 - ((m + 1 : Nat) : Int) = (kk : Int) - 1 by have := HKK.out; omega], by rw [← Nat.add_assoc, ← HJ.out]; go_num, rfl, by rw [← Nat.add_assoc, ← HJ.out, HNEXT.out, HPK.out]; exact HSET.out⟩
                  case measure => simp [intOf]; have := HJ.out; omega
              · have es : (z : Int) - 32 = (y : Int) := by have : y + 32 = z := hps; omega
                have hrt2 : Int.tmod (j : Int) 8 = 2 := hrm
                clear hps hrm
                go_region
                all_goals go_wp2_with fail
                all_goals
                  go_roundw
                  case rel => exact ⟨m + 1, _, by omega, by rw [show (SZ : Int) - 1 - ((m + 1 : Nat) : Int) = (kk : Int) - 1 by have := HKK.out; omega], by rw [← Nat.add_assoc, ← HJ.out]; go_num, rfl, by rw [← Nat.add_assoc, ← HJ.out, HNEXT.out, HPK.out]; exact HSET.out⟩
                  case measure => simp [intOf]; have := HJ.out; omega
              · have es : (z : Int) - 16 = (y : Int) := by have : y + 16 = z := hps; omega
                have hrt2 : Int.tmod (j : Int) 8 = 3 := hrm
                clear hps hrm
                go_region
                all_goals go_wp2_with fail
                all_goals
                  go_roundw
                  case rel => exact ⟨m + 1, _, by omega, by rw [show (SZ : Int) - 1 - ((m + 1 : Nat) : Int) = (kk : Int) - 1 by have := HKK.out; omega], by rw [← Nat.add_assoc, ← HJ.out]; go_num, rfl, by rw [← Nat.add_assoc, ← HJ.out, HNEXT.out, HPK.out]; exact HSET.out⟩
                  case measure => simp [intOf]; have := HJ.out; omega
              · have es : (z : Int) - 8 = (y : Int) := by have : y + 8 = z := hps; omega
                have hrt2 : Int.tmod (j : Int) 8 = 4 := hrm
                clear hps hrm
                go_region
                all_goals go_wp2_with fail
                all_goals
                  go_roundw
                  case rel => exact ⟨m + 1, _, by omega, by rw [show (SZ : Int) - 1 - ((m + 1 : Nat) : Int) = (kk : Int) - 1 by have := HKK.out; omega], by rw [← Nat.add_assoc, ← HJ.out]; go_num, rfl, by rw [← Nat.add_assoc, ← HJ.out, HNEXT.out, HPK.out]; exact HSET.out⟩
                  case measure => simp [intOf]; have := HJ.out; omega
              · have es : (z : Int) - 4 = (y : Int) := by have : y + 4 = z := hps; omega
                have hrt2 : Int.tmod (j : Int) 8 = 5 := hrm
                clear hps hrm
                go_region
                all_goals go_wp2_with fail
                all_goals
                  go_roundw
                  case rel => exact ⟨m + 1, _, by omega, by rw [show (SZ : Int) - 1 - ((m + 1 : Nat) : Int) = (kk : Int) - 1 by have := HKK.out; omega], by rw [← Nat.add_assoc, ← HJ.out]; go_num, rfl, by rw [← Nat.add_assoc, ← HJ.out, HNEXT.out, HPK.out]; exact HSET.out⟩
                  case measure => simp [intOf]; have := HJ.out; omega
              · have es : (z : Int) - 2 = (y : Int) := by have : y + 2 = z := hps; omega
                have hrt2 : Int.tmod (j : Int) 8 = 6 := hrm
                clear hps hrm
                go_region
                all_goals go_wp2_with fail
                all_goals
                  go_roundw
                  case rel => exact ⟨m + 1, _, by omega, by rw [show (SZ : Int) - 1 - ((m + 1 : Nat) : Int) = (kk : Int) - 1 by have := HKK.out; omega], by rw [← Nat.add_assoc, ← HJ.out]; go_num, rfl, by rw [← Nat.add_assoc, ← HJ.out, HNEXT.out, HPK.out]; exact HSET.out⟩
                  case measure => simp [intOf]; have := HJ.out; omega
              · have es : (z : Int) - 1 = (y : Int) := by have : y + 1 = z := hps; omega
                have hrt2 : Int.tmod (j : Int) 8 = 7 := hrm
                clear hps hrm
                go_region
                all_goals go_wp2_with fail
                all_goals
                  go_roundw
                  case rel => exact ⟨m + 1, _, by omega, by rw [show (SZ : Int) - 1 - ((m + 1 : Nat) : Int) = (kk : Int) - 1 by have := HKK.out; omega], by rw [← Nat.add_assoc, ← HJ.out]; go_num, rfl, by rw [← Nat.add_assoc, ← HJ.out, HNEXT.out, HPK.out]; exact HSET.out⟩
                  case measure => simp [intOf]; have := HJ.out; omega
            · have HPK := veil (show Hf.packL ((TT ++ [decide (1 = 1)])) = Hf.padL TT from Hf.pack_true TT)
              go_wp2_with first
                | (with_reducible (show wpList _ _ _ (⟨_, Op.binOp BinOp.rem _ _ _ _, _, _, _, _⟩ :: _) _ _)
                   refine val_run rfl (.int .i64 ((r : Nat) : Int)) (run_rem8d _ _ _ _ j r HR.out rfl (by kernel_rfl) (by kernel_rfl) _) ?_)
                | (with_reducible (show wpList _ _ _ (⟨_, Op.binOp BinOp.shr _ _ _ _, _, _, _, _⟩ :: _) _ _)
                   refine val_run rfl (.int .u32 (sv : Int)) (run_shr32d _ _ _ _ VX kk sv hkk30 HSV.out rfl (by kernel_rfl) (by kernel_rfl) _) ?_)
                | (with_reducible (show wpList _ _ _ (⟨_, Op.binOp BinOp.and _ _ _ _, _, _, _, _⟩ :: _) _ _)
                   refine val_run rfl (.int .u32 ((1 : Nat) : Int)) (run_and32d _ _ _ _ sv 1 HCB.out hsvl rfl (by kernel_rfl) (by kernel_rfl) _) ?_)
              go_roundw
              case rel => exact ⟨m + 1, _, by omega, by rw [show (SZ : Int) - 1 - ((m + 1 : Nat) : Int) = (kk : Int) - 1 by have := HKK.out; omega], by rw [← Nat.add_assoc, ← HJ.out]; go_num, rfl, by rw [← Nat.add_assoc, ← HJ.out, HNEXT.out, HPK.out]; exact HM.out⟩
              case measure => simp [intOf]; have := HJ.out; omega
        · obtain rfl : m = SZ := by omega
          rw [show (m : Int) - 1 - (m : Int) = -1 by omega]
          have HOUT := veil hI
          obtain ⟨j, hj⟩ : ∃ j, j = j0 + m := ⟨_, rfl⟩
          rw [← hj]
          rw [← hj] at HOUT
          have HJ := veil (show j = (Hf.txt ((bOf s).take (k + 1))).length by rw [HNXL.out, hj])
          clear hI hj
          go_wp2_with fail
          go_roundw
          case rel => exact ⟨k + 1, j, _, by omega, HJ.out, by go_num, rfl, rfl, HOUT.out⟩
          case measure => simp [intOf]; omega
    · obtain rfl : k = s.size := by omega
      rw [List.take_of_length_le (by rw [HL.out]; omega)] at hj0
      rw [hj0, List.take_length] at hG
      have HG := veil hG
      clear hG hlt hk
      go_wp2_with fail
      go_ret2
      exact ⟨_, rfl, by have := HG.out.own; obtain ⟨_, _, l3, _⟩ := HG.out.lo; exact own_low this l3, HG.out.below⟩
end Go.Proofs.YtiecpkkklefjdaaGreatDoor
