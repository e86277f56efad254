/-
  Out of ChaBlock, ChaStream.
-/
import Derived.Test.YtbheoldakmcppaaGreatDoorGsChaTwo
import Derived.Test.YtbheoldakmcppaaGreatDoorGs30
import Derived.Test.YtbheoldakmcppaaGreatDoorGsChaLoop
import Derived.Test.YtbheoldakmcppaaGreatDoorGsHkIn
import Derived.Test.YtbheoldakmcppaaGreatDoorGs2

/-! What chacha.Block answers. -/
namespace Go.Proofs.YtbheoldakmcppaaGreatDoor
open Go Go.RowKit

set_option maxRecDepth 20000 in
set_option maxHeartbeats 1000000 in
theorem block_any (key : List By) (count : Wd) (nonce : List By) (hk : key.length = 32) (hn : nonce.length = 12) (w : World) (hg : Glob w) :
    Calls Tryz.prog 120 #[.agg (bs key), .int .u32 (u count), .agg (bs nonce)] w fun e w' => e = .returned (.agg (bs (blockL key count nonce))) ∧ Below w.heap.size w w' := by
  have HK : Hid (key.length = 32) := hk
  have HN : Hid (nonce.length = 12) := hn
  have HG : Hid (Glob w) := hg
  clear hk hn hg
  have q0 : Row (((w.alloc (.cells (bs key) 78)).alloc (.cells (bs nonce) 76)).alloc (.cells (bs (List.replicate 64 0)) 187)) w.heap.size 78 (bs key) := ((Row.new _ _ _).alloc _).alloc _
  have q1 : Row (((w.alloc (.cells (bs key) 78)).alloc (.cells (bs nonce) 76)).alloc (.cells (bs (List.replicate 64 0)) 187)) (w.heap.size + 1) 76 (bs nonce) := (Row.new1 _ _ _ _).alloc _
  have q2 : Row (((w.alloc (.cells (bs key) 78)).alloc (.cells (bs nonce) 76)).alloc (.cells (bs (List.replicate 64 0)) 187)) (w.heap.size + 1 + 1) 187 (bs (List.replicate 64 0)) := Row.new2 _ _ _ _ _
  have hb0 : Below w.heap.size w (((w.alloc (.cells (bs key) 78)).alloc (.cells (bs nonce) 76)).alloc (.cells (bs (List.replicate 64 0)) 187)) := (((Below.refl _ w).alloc (Nat.le_refl _) _).alloc (by simp) _).alloc (by simp; omega) _
  have HS : Hid ((stateL key count nonce).length = 16) := show _ = _ from stateL_length _ _ _
  go_enter Tryz.func120, Tryz.ntmps120
  go_wp2_with (first
    | (with_reducible (show wpList _ _ _ (⟨_, Op.load 78 _, _, _, _, _⟩ :: _) _ _)
       refine load_row rfl 78 _ rfl w.heap.size rfl _ _ q0 32 5 Tryz.underlying78 (by kernel_rfl) (by rw [bs_size, HK.out]) ?_)
    | (with_reducible (show wpList _ _ _ (⟨_, Op.load 76 _, _, _, _, _⟩ :: _) _ _)
       refine load_row rfl 76 _ rfl (w.heap.size + 1) rfl _ _ q1 12 5 Tryz.underlying76 (by kernel_rfl) (by rw [bs_size, HN.out]) ?_))
  refine (stateOf_any key count nonce HK.out HN.out _ (HG.out.below hb0 (Nat.le_refl _))).mono ?_
  rintro e1 w1 ⟨rfl, hb1⟩
  have r2 := q2.below hb1 q2.lt
  have hbel : Below w.heap.size w w1 := hb0.trans (hb1.mono hb0.size)
  clear hb1 q0 q1 q2 hb0
  have HBL : Hid (blockL key count nonce = bytesL (sumL16 (roundsL (stateL key count nonce) 10) (stateL key count nonce))) := show _ = _ by rfl
  generalize stateL key count nonce = s at *
  obtain ⟨R, HRR, HBL2⟩ : ∃ R, Hid (∀ j, j = 10 → roundsL s j = R) ∧ Hid (blockL key count nonce = bytesL (sumL16 R s)) := ⟨roundsL s 10, (show ∀ j, j = 10 → roundsL s j = roundsL s 10 from fun j hj => by rw [hj]), HBL⟩
  clear HBL
  have hl2 := r2.lt
  go_wp2_with (first
    | (with_reducible (show wpList _ _ _ (⟨_, Op.alloc 210, _, _, _, _⟩ :: _) _ _)
       refine alloc_row rfl 210 rfl (ws (List.replicate 16 0)) (by kernel_rfl) ?_)
    | (with_reducible (show wpList _ _ _ (⟨_, Op.store 210 _ _, _, _, _, _⟩ :: _) _ _)
       refine store_new (w := w1) (by rfl) 210 _ _ (by rfl) w1.heap.size (ws s) (by rfl) (by rfl) 210 _ (by rfl) 16 (by kernel_rfl) (by rfl) (by rw [ws_size, HS.out]) (ws_one _) ?_)
    | (with_reducible (show wpList _ _ _ (⟨_, Op.load 210 _, _, _, _, _⟩ :: _) _ _)
       refine load_row rfl 210 _ rfl w1.heap.size rfl _ _ (Row.new _ _ _) 16 91 Tryz.underlying210 (by kernel_rfl) (by rw [ws_size, HS.out]) ?_)
    | (with_reducible (show wpList _ _ _ (⟨_, Op.store 210 _ _, _, _, _, _⟩ :: _) _ _)
       refine store_new (w := w1.alloc (.cells (ws s) 210)) (by rfl) 210 _ _ (by rfl) (w1.heap.size + 1) (ws s) (by rfl) (by rfl) 210 _ (by simp) 16 (by kernel_rfl) (by rfl) (by rw [ws_size, HS.out]) (ws_one _) ?_))
  have HGL : Hid (∀ W, Below w.heap.size w W → Glob W) := show ∀ W, Below w.heap.size w W → Glob W from fun W h => HG.out.below h (Nat.le_refl _)
  go_loopw [15] (fun i wr => ∃ k : Nat, k ≤ 10 ∧ i = .int .i64 k ∧ Row wr (w.heap.size + 1 + 1) 187 (bs (List.replicate 64 0)) ∧ Row wr w1.heap.size 210 (ws s) ∧ Row wr (w1.heap.size + 1) 210 (ws (roundsL s k)) ∧ Below w.heap.size w wr)
    (fun i _ => 10 - (intOf i).toNat)
  case atStart => exact ⟨0, by omega, rfl, (r2.alloc _).alloc _, (Row.new _ _ _).alloc _, by rw [roundsL_zero]; exact Row.new1 _ _ _ _, (hbel.alloc hbel.size _).alloc (by have := hbel.size; simp; omega) _⟩
  case round =>
    clear r2 hbel
    obtain ⟨k, hk, rfl, r2, r7, r8, hbel⟩ := hrel
    by_cases hlt : k < 10
    · have HL : Hid ((roundsL s k).length = 16) := show _ = _ by rw [roundsL_length]; exact HS.out
      have HE : Hid (roundsL s (k + 1) = twoL (roundsL s k)) := show _ = _ from roundsL_succ s k
      have HL2 : Hid ((twoL (roundsL s k)).length = 16) := show _ = _ by rw [twoL, twoTo_length]; exact HL.out
      generalize roundsL s k = S at *
      go_wp2_with (first
        | (with_reducible (show wpList _ _ _ (⟨_, Op.load 210 _, _, _, _, _⟩ :: _) _ _)
           refine load_row rfl 210 _ rfl (w1.heap.size + 1) rfl _ _ r8 16 91 Tryz.underlying210 (by kernel_rfl) (by rw [ws_size, HL.out]) ?_))
      refine (twoRounds_any S HL.out wr (HGL.out wr hbel)).mono ?_
      rintro e2 w2 ⟨rfl, hb2⟩
      have s2 := r2.below hb2 r2.lt
      have s7 := r7.below hb2 r7.lt
      have s8 := r8.below hb2 r8.lt
      have sb2 := hbel.trans (hb2.mono hbel.size)
      clear hb2 r2 r7 r8 hbel
      generalize twoL S = T at *
      go_wp2_with (first
        | (with_reducible (show wpList _ _ _ (⟨_, Op.store 210 _ _, _, _, _, _⟩ :: _) _ _)
           refine store_row rfl 210 _ _ rfl (w1.heap.size + 1) (ws T) rfl rfl _ _ s8 16 (by kernel_rfl) (by rw [ws_size, HL.out]) (by rw [ws_size, HL2.out]) (ws_one _) ?_))
      go_roundw
      case rel => exact ⟨k + 1, by omega, by go_num, s2.putOther (by omega) _, s7.putOther (by omega) _, by rw [HE.out]; exact s8.put _, bSetRow sb2 (by omega) _⟩
      case measure => simp [intOf]; omega
    · rw [HRR.out k (by omega)] at r8
      have hd : decide ((k : Int) < 10) = false := by simp; omega
      have HL : Hid (R.length = 16) := show _ = _ by rw [← HRR.out 10 rfl, roundsL_length]; exact HS.out
      clear HRR
      generalize R = S at *
      generalize wr = W1 at *
      go_wp2
      go_loopw [20] (fun i wr => ∃ t : Nat, t ≤ 16 ∧ i = .int .i64 t ∧ Row wr (w.heap.size + 1 + 1) 187 (bs (List.replicate 64 0)) ∧ Row wr w1.heap.size 210 (ws s) ∧ Row wr (w1.heap.size + 1) 210 (ws (mixed (sumL16 S s) S t)) ∧ Below w.heap.size w wr)
        (fun i _ => 16 - (intOf i).toNat)
      case atStart => exact ⟨0, by omega, rfl, r2, r7, by rw [mixed_zero]; exact r8, hbel⟩
      case round =>
        clear r2 r7 r8 hbel
        obtain ⟨t, ht, rfl, r2, r7, r8, hbel⟩ := hrel
        by_cases hlt : t < 16
        · have HE := (show Hid _ from mixed_set (sumL16 S s) S t 16 (sumL16_length S s) HL.out hlt _ (sumL16_get S s t hlt))
          have c7 := r7.cellW (j := t) (by rw [HS.out]; omega)
          have c8 := r8.cellW (j := t) (by rw [mixed_length _ _ t 16 (sumL16_length S s) HL.out ht]; omega)
          rw [mixed_gw _ _ t 16 (sumL16_length S s) hlt] at c8
          have f8 := r8.frozen t
          have hp : (0 : Int) ≤ (t : Int) ∧ (t : Int) < 16 := by omega
          have ha := wadd (gw S t) (gw s t)
          generalize gw S t = X at *
          generalize gw s t = Y at *
          go_wp2
          go_region
          all_goals go_wp2
          all_goals
            go_roundw
            case rel =>
              refine ⟨t + 1, by omega, by go_num, r2.other (by show w.heap.size + 1 + 1 ≠ w1.heap.size + 1; omega) _, r7.other (by show w1.heap.size ≠ w1.heap.size + 1; omega) _, ?_, hbel.drew.setCell (p := ⟨w1.heap.size + 1, t, none⟩) (by show w.heap.size ≤ w1.heap.size + 1; omega) _⟩
              rw [← HE.out, ← ws_set]
              exact r8.set t _
            case measure => simp [intOf]; omega
        · rw [show t = 16 by omega, mixed_all _ _ 16 (sumL16_length S s) HL.out] at r8
          have hd2 : decide ((t : Int) < 16) = false := by simp; omega
          generalize wr = W2 at *
          go_wp2_with (first
            | (with_reducible (show wpList _ _ _ (⟨_, Op.load 210 _, _, _, _, _⟩ :: _) _ _)
               refine load_row rfl 210 _ rfl (w1.heap.size + 1) rfl _ _ r8 16 91 Tryz.underlying210 (by kernel_rfl) (by rw [ws_size, sumL16_length]) ?_))
          refine (chaBytesOf_any (sumL16 S s) (sumL16_length S s) W2).mono ?_
          rintro e3 w3 ⟨rfl, hb3⟩
          have t2 := r2.below hb3 r2.lt
          have tb := hbel.trans (hb3.mono hbel.size)
          clear hb3
          go_wp2_with (first
            | (with_reducible (show wpList _ _ _ (⟨_, Op.store 187 _ _, _, _, _, _⟩ :: _) _ _)
               refine store_row rfl 187 _ _ rfl (w.heap.size + 1 + 1) (bs (bytesL (sumL16 S s))) rfl rfl _ _ t2 64 (by kernel_rfl) (by rw [bs_size, List.length_replicate]) (by rw [bs_size, bytesL_length]) (bs_one _) ?_))
          refine bodyPost_ret (result_row rfl _ _ (w.heap.size + 1 + 1) _ _ (t2.put _) 64 5 rfl Tryz.underlying187 (by kernel_rfl) (by rw [bs_size, bytesL_length])) rfl ⟨?_, bSetRow tb (by omega) _⟩
          rw [HBL2.out]
end Go.Proofs.YtbheoldakmcppaaGreatDoor

/-! What chacha.stream tells: the stream's bytes, one by one. -/
namespace Go.Proofs.YtbheoldakmcppaaGreatDoor
open Go Go.RowKit Go.Shelf
attribute [local go_sem] Oper.semAt_some

set_option maxHeartbeats 400000 in
theorem blocksOf_any (N : Nat) (h : N ≤ 1048576) (w : World) :
    Calls Tryz.prog 141 #[.int .i64 (N : Int)] w fun e w' => e = .returned (.int .u64 (((N + 63) / 64 : Nat) : Int)) ∧ w' = w := by
  have h1 : IntKind.u64.wrap (N : Int) = (N : Int) := by rw [IntKind.wrap_u64]; omega
  have h2 : ((N : Int) + 64 - 1) / 64 = (((N + 63) / 64 : Nat) : Int) := by omega
  go_enter Tryz.func141, Tryz.ntmps141
  go_wp2
  go_ret
  refine ⟨?_, rfl⟩
  rw [← h2]
  rfl
set_option maxHeartbeats 400000 in
theorem countsLeft_any (count : Wd) (w : World) :
    Calls Tryz.prog 142 #[.int .u32 (u count)] w fun e w' => e = .returned (.int .u64 (4294967296 - u count)) ∧ w' = w := by
  have h0 := u_nn count
  have h1 := u_le count
  go_enter Tryz.func142, Tryz.ntmps142
  go_wp2
  go_ret
  exact ⟨rfl, rfl⟩

theorem plain_builtin {F : Fence} {n : Nat} {P : Program} {ops : Array Oper} {rest : List Oper} {o : Oper} {a : Act} {w : World} {Q : Exit → Act → World → Prop} (hgd : o.guard = none) (b : Builtin) (args : Array Operand) (tys : Array TypeId) (ho : o.op = .call { callee := .builtin b, args := args, argTypes := tys }) (v : Value)
    (he : (execOp a.eval o).run P w = .ok (.value v) w) (h : wpListIn F n P ops Q rest (a.put o.dst v) w) : wpListIn F n P ops Q (o :: rest) a w :=
  wpListIn_plain hgd fun _ hK => ⟨(fun f hf => by rw [about_builtin _ _ _ ho] at hf; cases hf), (by rw [Oper.semAt_eq _ _ _ (by simp [ho]), he]; exact hK _ _ h)⟩

/-- What is told of a byte. -/
def encY (x : By) : Array Value := #[.int .u8 (v8 x)]

set_option maxHeartbeats 400000 in
theorem stream_in (n : Nat) (key : List By) (count : Wd) (nonce : List By) (N : Int) (w : World) :
    CallsIn Fence.wide n Tryz.prog 143 #[.agg (bs key), .int .u32 (u count), .agg (bs nonce), .int .i64 N] w fun e w' => e = .returned (.func (.func 171) #[] #[.pointer (some ⟨w.heap.size + 1 + 1 + 1, 0, none⟩), .pointer (some ⟨w.heap.size, 0, none⟩), .pointer (some ⟨w.heap.size + 1, 0, none⟩), .pointer (some ⟨w.heap.size + 1 + 1, 0, none⟩)]) ∧
      w' = (((w.alloc (.cells (bs key) 78)).alloc (.cells #[.int .u32 (u count)] 91)).alloc (.cells (bs nonce) 76)).alloc (.cells #[.int .i64 N] 3) := by
  refine callsIn_of_wp Tryz.func143 rfl trivial ?_ rfl
  simp only [Tryz.ntmps143, List.size_toArray, List.length_cons, List.length_nil, Nat.reduceAdd, Nat.reduceSub, Array.replicate_succ, Array.replicate_zero, List.push_toArray, List.append_toArray, List.nil_append, List.cons_append]
  gi_wp2
  go_ret
  exact ⟨rfl, rfl⟩

theorem KeepP.glob {st : Nat → Prop} {W W' : World} (h : KeepP st W W') (hg : Glob W) (h0 : ¬ st 0) (h1 : ¬ st 1) : Glob W' := by
  have hl := hg.lt
  obtain ⟨⟨t, fr, e1⟩, ⟨t', fr', e2⟩⟩ := hg
  exact ⟨⟨t, fr, (h.block _ hl.1 h0).trans e1⟩, ⟨t', fr', (h.block _ hl.2 h1).trans e2⟩⟩

set_option maxRecDepth 100000 in
set_option maxHeartbeats 1000000 in
theorem stream1_in (n : Nat) (hn1 : 1 ≤ n) (l Bk Bc Bn Bz : Nat) (st : Nat → Prop) (key : List By) (count : Wd) (nonce : List By) (hk : key.length = 32) (hn : nonce.length = 12) (N : Nat) (hN : N ≤ 1048576) (J : List By → World → Prop)
    (W : World) (rk : Row W Bk 78 (bs key)) (rc : Row W Bc 91 #[.int .u32 (u count)]) (rn : Row W Bn 76 (bs nonce)) (rz : Row W Bz 3 #[.int .i64 (N : Int)]) (hg : Glob W)
    (hst : ∀ j, st j → j < W.heap.size) (sk : ¬ st Bk) (sc : ¬ st Bc) (sn : ¬ st Bn) (sz : ¬ st Bz) (s0 : ¬ st 0) (s1 : ¬ st 1)
    (hJ : ∀ s A B, J s A → Below W.heap.size A B → J s B)
    (hY : ∀ pre x W1, pre.length < N → J pre W1 → YieldAt Fence.wide (n - 1) Tryz.prog l (encY x) W1 fun e W' => e = .returned (.bool true) ∧ J (pre ++ [x]) W' ∧ KeepP st W1 W')
    (h0 : J [] W) :
    CallsIn Fence.wide n Tryz.prog 171 #[.func (.yield l) #[] #[], .pointer (some ⟨Bz, 0, none⟩), .pointer (some ⟨Bk, 0, none⟩), .pointer (some ⟨Bc, 0, none⟩), .pointer (some ⟨Bn, 0, none⟩)] W fun e W' => (∃ v, e = .returned v) ∧ J (sbTo key count nonce N) W' := by
  have HK := veil hk
  have HN := veil hn
  have HRK := veil rk
  have HRC := veil rc
  have HRN := veil rn
  have HRZ := veil rz
  have HG := veil hg
  have HST := veil hst
  have HJ := veil hJ
  have HY := veil hY
  have cz : W.cell? ⟨Bz, 0, none⟩ = some (.int .i64 (N : Int)) := rz.cell 0
  clear hk hn rk rc rn rz hg hst hJ hY
  obtain ⟨M, hM⟩ : ∃ M, M = (N + 63) / 64 := ⟨_, rfl⟩
  have hM1 : 64 * M < N + 64 := by omega
  have hM2 : N ≤ 64 * M := by omega
  refine callsIn_of_wp Tryz.func171 rfl trivial ?_ rfl
  simp only [Tryz.ntmps171, List.size_toArray, List.length_cons, List.length_nil, Nat.reduceAdd, Nat.reduceSub, Array.replicate_succ, Array.replicate_zero, List.push_toArray, List.append_toArray, List.nil_append, List.cons_append]
  gi_wp2_with fail
  refine ⟨trivial, (callsIn_wide.2 (blocksOf_any N hN W)).mono ?_⟩
  rintro e1 w1 ⟨rfl, hw⟩
  rw [hw, ← hM]
  clear hw w1 hM cz
  gi_wp2_with fail
  gi_loopw [13] (fun iv wr => ∃ i : Nat, i ≤ M ∧ iv = .int .u64 (i : Int) ∧ J (sbTo key count nonce (min N (64 * i))) wr ∧ KeepP st W wr)
    (fun iv _ => M - (intOf iv).toNat)
  case atStart => exact ⟨0, Nat.zero_le _, rfl, by rw [Nat.mul_zero, Nat.min_zero]; exact h0, KeepP.refl _ _⟩
  case round =>
    clear h0
    obtain ⟨i, hi, rfl, hJi, hkp⟩ := hrel
    have hsz := hkp.size
    by_cases hlt : i < M
    · obtain ⟨m, hm⟩ : ∃ m, m = min (N - 64 * i) 64 := ⟨_, rfl⟩
      have hm64 : m ≤ 64 := by omega
      have hmN : 64 * i + m ≤ N := by omega
      have hm1 : min N (64 * (i + 1)) = 64 * i + m := by omega
      have HM1 := veil hm1
      rw [show min N (64 * i) = 64 * i by omega] at hJi
      have HJi := veil hJi
      have HKP := veil hkp
      have rkw := hkp.row HRK.out sk
      have rcw := hkp.row HRC.out sc
      have rnw := hkp.row HRN.out sn
      have rzw := hkp.row HRZ.out sz
      have hgw := hkp.glob HG.out s0 s1
      have ccw : wr.cell? ⟨Bc, 0, none⟩ = some (.int .u32 (u count)) := rcw.cell 0
      have czw : wr.cell? ⟨Bz, 0, none⟩ = some (.int .i64 (N : Int)) := rzw.cell 0
      have hkz : (bs key).size = 32 := by rw [bs_size, HK.out]
      have hnz : (bs nonce).size = 12 := by rw [bs_size, HN.out]
      have hcv : IntKind.i64.wrap (i : Int) = (i : Int) := by rw [IntKind.wrap_i64]; omega
      have hcw : IntKind.u32.wrap (i : Int) = (i : Int) := by rw [IntKind.wrap_u32']; omega
      have hlf : IntKind.i64.wrap ((N : Int) - (i : Int) * 64) = (N : Int) - (i : Int) * 64 := by rw [IntKind.wrap_i64]; omega
      have hml : IntKind.i64.wrap ((i : Int) * 64) = (i : Int) * 64 := by rw [IntKind.wrap_i64]; omega
      have hct := u_cnt count i (by omega)
      have hHM := veil hm
      clear hm hm1 hJi hkp rcw rzw
      gi_wp2_with (first
        | (with_reducible (show wpListIn _ _ _ _ _ (⟨_, Op.load 78 _, _, _, _, _⟩ :: _) _ _)
           refine load_rowIn rfl 78 _ rfl Bk rfl _ _ rkw 32 5 Tryz.underlying78 (by kernel_rfl) hkz ?_)
        | (with_reducible (show wpListIn _ _ _ _ _ (⟨_, Op.load 76 _, _, _, _, _⟩ :: _) _ _)
           refine load_rowIn rfl 76 _ rfl Bn rfl _ _ rnw 12 5 Tryz.underlying76 (by kernel_rfl) hnz ?_))
      refine ⟨trivial, (callsIn_wide.2 (block_any key (cnt count i) nonce HK.out HN.out wr hgw)).mono ?_⟩
      rintro e3 w3 ⟨rfl, hb3⟩
      have HBL : Hid (∀ k, k < 64 → gb (blockL key (cnt count i) nonce) k = sby key count nonce (64 * i + k)) := show ∀ k, k < 64 → gb (blockL key (cnt count i) nonce) k = sby key count nonce (64 * i + k) from fun k hk => by
        unfold sby
        rw [show (64 * i + k) / 64 = i by omega, show (64 * i + k) % 64 = k by omega]
      have HB64 : Hid ((blockL key (cnt count i) nonce).length = 64) := show _ = _ from blockL_length _ _ _
      generalize blockL key (cnt count i) nonce = B at *
      have hs3 := hb3.size
      have b4 : Below wr.heap.size wr (w3.alloc (.cells (bs B) 187)) := hb3.alloc hs3 _
      have r4 : Row (w3.alloc (.cells (bs B) 187)) w3.heap.size 187 (bs B) := Row.new _ _ _
      have J4 := veil (HJ.out _ _ _ HJi.out (b4.mono hsz))
      have k4 := veil (HKP.out.trans (KeepP.of_below (st := st) b4))
      have hB64 : (bs B).size = 64 := by rw [bs_size, HB64.out]
      have hm0 : (0 : Int) ≤ (m : Int) := by omega
      have hmi : (m : Int) ≤ 64 := by omega
      clear hct hcw hcv hml
      gi_wp2_with (first
        | (with_reducible (show wpListIn _ _ _ _ _ (⟨_, Op.alloc 187, _, _, _, _⟩ :: _) _ _)
           refine alloc_rowIn rfl 187 rfl (bs (List.replicate 64 0)) (by kernel_rfl) ?_)
        | (with_reducible (show wpListIn _ _ _ _ _ (⟨_, Op.store 187 _ _, _, _, _, _⟩ :: _) _ _)
           refine store_newIn (w := w3) (by rfl) 187 _ _ (by rfl) w3.heap.size (bs B) (by rfl) (by rfl) 187 (bs (List.replicate 64 0)) (by rfl) 64 (by kernel_rfl) (by rfl) hB64 (bs_one _) ?_)
        | (with_reducible (show wpListIn _ _ _ _ _ (⟨_, Op.call { callee := .builtin .min, args := _, argTypes := _ }, _, _, _, _⟩ :: _) _ _)
           refine plain_builtin rfl .min _ _ rfl (.int .i64 (m : Int)) ?hmin ?_
           case hmin => (go_simp; have := hHM.out; split <;> omega)))
      gi_loopw [32] (fun kv wv => ∃ k : Nat, k ≤ m ∧ kv = .int .i64 (k : Int) ∧ Row wv w3.heap.size 187 (bs B) ∧ J (sbTo key count nonce (64 * i + k)) wv ∧ KeepP st W wv)
        (fun kv _ => m - (intOf kv).toNat)
      case atStart => exact ⟨0, Nat.zero_le _, rfl, r4, J4.out, k4.out⟩
      case round =>
        clear r4 b4
        obtain ⟨k, hk, rfl, rB, hJk, hkk⟩ := hrel
        by_cases hkm : k < m
        · have cB := rB.cellB (j := k) (by rw [HB64.out]; omega)
          rw [HBL.out k (by omega)] at cB
          obtain ⟨fn, tmps, assign, body, hy, hR⟩ := HY.out (sbTo key count nonce (64 * i + k)) (sby key count nonce (64 * i + k)) wr (by rw [sbTo_length]; omega) hJk
          unfold encY at hy
          rw [← sbTo_succ] at hR
          generalize sby key count nonce (64 * i + k) = x at *
          have hp : (0 : Int) ≤ (k : Int) ∧ (k : Int) < (m : Int) := by omega
          gi_wp2_with fail
          refine hR.mono ?_
          rintro e W5 ⟨rfl, hJ5, hk5⟩
          gi_wp2
          go_roundw
          case rel => exact ⟨k + 1, by omega, by go_num, hk5.row rB (fun e => by have := HST.out _ e; omega), hJ5, hkk.trans hk5⟩
          case measure => simp only [intOf]; omega
        · have hd : decide ((k : Int) < (m : Int)) = false := by simp; omega
          rw [show 64 * i + k = min N (64 * (i + 1)) by rw [HM1.out]; omega] at hJk
          gi_wp2
          go_roundw
          case rel => exact ⟨i + 1, by omega, by go_num, hJk, hkk⟩
          case measure => simp only [intOf]; omega
    · have hd : decide ((i : Int) < (M : Int)) = false := by simp; omega
      rw [show min N (64 * i) = N by omega] at hJi
      gi_wp2
      go_end0
      exact ⟨⟨_, rfl⟩, hJi⟩

theorem stream_tells (n : Nat) (hn1 : 1 ≤ n) (Bk Bc Bn Bz : Nat) (st : Nat → Prop) (key : List By) (count : Wd) (nonce : List By) (hk : key.length = 32) (hn : nonce.length = 12) (N : Nat) (hN : N ≤ 1048576)
    (w : World) (rk : Row w Bk 78 (bs key)) (rc : Row w Bc 91 #[.int .u32 (u count)]) (rn : Row w Bn 76 (bs nonce)) (rz : Row w Bz 3 #[.int .i64 (N : Int)]) (hg : Glob w)
    (hst : ∀ j, st j → j < w.heap.size) (sk : ¬ st Bk) (sc : ¬ st Bc) (sn : ¬ st Bn) (sz : ¬ st Bz) (s0 : ¬ st 0) (s1 : ¬ st 1) :
    TellsQ Fence.wide n Tryz.prog 171 #[.pointer (some ⟨Bz, 0, none⟩), .pointer (some ⟨Bk, 0, none⟩), .pointer (some ⟨Bc, 0, none⟩), .pointer (some ⟨Bn, 0, none⟩)] encY st (sbTo key count nonce N) w := fun l J W hW hJ hY h0 =>
  stream1_in n hn1 l Bk Bc Bn Bz st key count nonce hk hn N hN J W (rk.below hW rk.lt) (rc.below hW rc.lt) (rn.below hW rn.lt) (rz.below hW rz.lt) (hg.below hW (Nat.le_refl _)) (fun j hj => Nat.lt_of_lt_of_le (hst j hj) hW.size) sk sc sn sz s0 s1 hJ (fun pre x W1 h => hY pre x W1 (by rw [sbTo_length]; exact h)) h0
end Go.Proofs.YtbheoldakmcppaaGreatDoor
