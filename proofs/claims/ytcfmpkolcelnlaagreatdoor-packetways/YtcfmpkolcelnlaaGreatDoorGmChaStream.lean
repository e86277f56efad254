/-
  What chacha.stream tells: the stream's bytes, one by one.
-/
import Derived.Test.YtcfmpkolcelnlaaGreatDoorGmChaLoop
import Derived.Test.YtcfmpkolcelnlaaGreatDoorGmHkIn
import Derived.Test.YtcfmpkolcelnlaaGreatDoorGm2
import Derived.Test.YtcfmpkolcelnlaaGreatDoorGmChaBlock
namespace Go.Proofs.YtcfmpkolcelnlaaGreatDoor
open Go Go.RowKit Go.Shelf
attribute [local go_sem] Oper.semAt_some

set_option maxHeartbeats 400000 in
theorem blocksOf_any (N : Nat) (h : N ≤ 1048576) (w : World) :
    Calls Tryz.prog 161 #[.int .i64 (N : Int)] w fun e w' => e = .returned (.int .u64 (((N + 63) / 64 : Nat) : Int)) ∧ w' = w := by
  have h1 : IntKind.u64.wrap (N : Int) = (N : Int) := by rw [IntKind.wrap_u64]; omega
  have h2 : ((N : Int) + 64 - 1) / 64 = (((N + 63) / 64 : Nat) : Int) := by omega
  go_enter Tryz.func161, Tryz.ntmps161
  go_wp2
  go_ret
  refine ⟨?_, rfl⟩
  rw [← h2]
  rfl
set_option maxHeartbeats 400000 in
theorem countsLeft_any (count : Wd) (w : World) :
    Calls Tryz.prog 162 #[.int .u32 (u count)] w fun e w' => e = .returned (.int .u64 (4294967296 - u count)) ∧ w' = w := by
  have h0 := u_nn count
  have h1 := u_le count
  go_enter Tryz.func162, Tryz.ntmps162
  go_wp2
  go_ret
  exact ⟨rfl, rfl⟩

theorem plain_builtin {F : Fence} {n : Nat} {P : Program} {ops : Array Oper} {rest : List Oper} {o : Oper} {a : Act} {w : World} {Q : Exit → Act → World → Prop} (hgd : o.guard = none) (b : Builtin) (args : Array Operand) (tys : Array TypeId) (ho : o.op = .call { callee := .builtin b, args := args, argTypes := tys }) (v : Value)
    (he : (execOp a.eval o).run P w = .ok (.value v) w) (h : wpListIn F n P ops Q rest (a.put o.dst v) w) : wpListIn F n P ops Q (o :: rest) a w :=
  wpListIn_plain hgd fun _ hK => ⟨(fun f hf => by rw [about_builtin _ _ _ ho] at hf; cases hf), (by rw [Oper.semAt_eq _ _ _ (by simp [ho]), he]; exact hK _ _ h)⟩

/-- What is told of a byte. -/
def encY (x : By) : Array Value := #[.int .u8 (v8 x)]

set_option maxHeartbeats 400000 in
theorem stream_in (n : Nat) (key : List By) (count : Wd) (nonce : List By) (N : Int) (w : World) :
    CallsIn Fence.wide n Tryz.prog 163 #[.agg (bs key), .int .u32 (u count), .agg (bs nonce), .int .i64 N] w fun e w' => e = .returned (.func (.func 187) #[] #[.pointer (some ⟨w.heap.size + 1 + 1 + 1, 0, none⟩), .pointer (some ⟨w.heap.size, 0, none⟩), .pointer (some ⟨w.heap.size + 1, 0, none⟩), .pointer (some ⟨w.heap.size + 1 + 1, 0, none⟩)]) ∧
      w' = (((w.alloc (.cells (bs key) 112)).alloc (.cells #[.int .u32 (u count)] 122)).alloc (.cells (bs nonce) 110)).alloc (.cells #[.int .i64 N] 3) := by
  refine callsIn_of_wp Tryz.func163 rfl trivial ?_ rfl
  simp only [Tryz.ntmps163, List.size_toArray, List.length_cons, List.length_nil, Nat.reduceAdd, Nat.reduceSub, Array.replicate_succ, Array.replicate_zero, List.push_toArray, List.append_toArray, List.nil_append, List.cons_append]
  gi_wp2
  go_ret
  exact ⟨rfl, rfl⟩

theorem KeepP.glob {st : Nat → Prop} {W W' : World} (h : KeepP st W W') (hg : Glob W) (h0 : ¬ st 1) (h1 : ¬ st 2) : Glob W' := by
  have hl := hg.lt
  obtain ⟨⟨t, fr, e1⟩, ⟨t', fr', e2⟩⟩ := hg
  exact ⟨⟨t, fr, (h.block _ hl.1 h0).trans e1⟩, ⟨t', fr', (h.block _ hl.2 h1).trans e2⟩⟩

set_option maxRecDepth 100000 in
set_option maxHeartbeats 1000000 in
theorem stream1_in (n : Nat) (hn1 : 1 ≤ n) (l Bk Bc Bn Bz : Nat) (st : Nat → Prop) (key : List By) (count : Wd) (nonce : List By) (hk : key.length = 32) (hn : nonce.length = 12) (N : Nat) (hN : N ≤ 1048576) (J : List By → World → Prop)
    (W : World) (rk : Row W Bk 112 (bs key)) (rc : Row W Bc 122 #[.int .u32 (u count)]) (rn : Row W Bn 110 (bs nonce)) (rz : Row W Bz 3 #[.int .i64 (N : Int)]) (hg : Glob W)
    (hst : ∀ j, st j → j < W.heap.size) (sk : ¬ st Bk) (sc : ¬ st Bc) (sn : ¬ st Bn) (sz : ¬ st Bz) (s0 : ¬ st 1) (s1 : ¬ st 2)
    (hJ : ∀ s A B, J s A → Below W.heap.size A B → J s B)
    (hY : ∀ pre x W1, pre.length < N → J pre W1 → YieldAt Fence.wide (n - 1) Tryz.prog l (encY x) W1 fun e W' => e = .returned (.bool true) ∧ J (pre ++ [x]) W' ∧ KeepP st W1 W')
    (h0 : J [] W) :
    CallsIn Fence.wide n Tryz.prog 187 #[.func (.yield l) #[] #[], .pointer (some ⟨Bz, 0, none⟩), .pointer (some ⟨Bk, 0, none⟩), .pointer (some ⟨Bc, 0, none⟩), .pointer (some ⟨Bn, 0, none⟩)] W fun e W' => (∃ v, e = .returned v) ∧ J (sbTo key count nonce N) W' := by
  have HK := veil hk
  have HN := veil hn
  have HRK := veil rk
  have HRC := veil rc
  have HRN := veil rn
  have HRZ := veil rz
  have HG := veil hg
  have HST := veil hst
  have HJ := veil hJ
  have HY := veil hY
  have cz : W.cell? ⟨Bz, 0, none⟩ = some (.int .i64 (N : Int)) := rz.cell 0
  clear hk hn rk rc rn rz hg hst hJ hY
  obtain ⟨M, hM⟩ : ∃ M, M = (N + 63) / 64 := ⟨_, rfl⟩
  have hM1 : 64 * M < N + 64 := by omega
  have hM2 : N ≤ 64 * M := by omega
  refine callsIn_of_wp Tryz.func187 rfl trivial ?_ rfl
  simp only [Tryz.ntmps187, List.size_toArray, List.length_cons, List.length_nil, Nat.reduceAdd, Nat.reduceSub, Array.replicate_succ, Array.replicate_zero, List.push_toArray, List.append_toArray, List.nil_append, List.cons_append]
  gi_wp2_with fail
  refine ⟨trivial, (callsIn_wide.2 (blocksOf_any N hN W)).mono ?_⟩
  rintro e1 w1 ⟨rfl, hw⟩
  rw [hw, ← hM]
  clear hw w1 hM cz
  gi_wp2_with fail
  gi_loopw [13] (fun iv wr => ∃ i : Nat, i ≤ M ∧ iv = .int .u64 (i : Int) ∧ J (sbTo key count nonce (min N (64 * i))) wr ∧ KeepP st W wr)
    (fun iv _ => M - (intOf iv).toNat)
  case atStart => exact ⟨0, Nat.zero_le _, rfl, by rw [Nat.mul_zero, Nat.min_zero]; exact h0, KeepP.refl _ _⟩
  case round =>
    clear h0
    obtain ⟨i, hi, rfl, hJi, hkp⟩ := hrel
    have hsz := hkp.size
    by_cases hlt : i < M
    · obtain ⟨m, hm⟩ : ∃ m, m = min (N - 64 * i) 64 := ⟨_, rfl⟩
      have hm64 : m ≤ 64 := by omega
      have hmN : 64 * i + m ≤ N := by omega
      have hm1 : min N (64 * (i + 1)) = 64 * i + m := by omega
      have HM1 := veil hm1
      rw [show min N (64 * i) = 64 * i by omega] at hJi
      have HJi := veil hJi
      have HKP := veil hkp
      have rkw := hkp.row HRK.out sk
      have rcw := hkp.row HRC.out sc
      have rnw := hkp.row HRN.out sn
      have rzw := hkp.row HRZ.out sz
      have hgw := hkp.glob HG.out s0 s1
      have ccw : wr.cell? ⟨Bc, 0, none⟩ = some (.int .u32 (u count)) := rcw.cell 0
      have czw : wr.cell? ⟨Bz, 0, none⟩ = some (.int .i64 (N : Int)) := rzw.cell 0
      have hkz : (bs key).size = 32 := by rw [bs_size, HK.out]
      have hnz : (bs nonce).size = 12 := by rw [bs_size, HN.out]
      have hcv : IntKind.i64.wrap (i : Int) = (i : Int) := by rw [IntKind.wrap_i64]; omega
      have hcw : IntKind.u32.wrap (i : Int) = (i : Int) := by rw [IntKind.wrap_u32']; omega
      have hlf : IntKind.i64.wrap ((N : Int) - (i : Int) * 64) = (N : Int) - (i : Int) * 64 := by rw [IntKind.wrap_i64]; omega
      have hml : IntKind.i64.wrap ((i : Int) * 64) = (i : Int) * 64 := by rw [IntKind.wrap_i64]; omega
      have hct := u_cnt count i (by omega)
      have hHM := veil hm
      clear hm hm1 hJi hkp rcw rzw
      gi_wp2_with (first
        | (with_reducible (show wpListIn _ _ _ _ _ (⟨_, Op.load 112 _, _, _, _, _⟩ :: _) _ _)
           refine load_rowIn rfl 112 _ rfl Bk rfl _ _ rkw 32 5 Tryz.underlying112 (by kernel_rfl) hkz ?_)
        | (with_reducible (show wpListIn _ _ _ _ _ (⟨_, Op.load 110 _, _, _, _, _⟩ :: _) _ _)
           refine load_rowIn rfl 110 _ rfl Bn rfl _ _ rnw 12 5 Tryz.underlying110 (by kernel_rfl) hnz ?_))
      refine ⟨trivial, (callsIn_wide.2 (block_any key (cnt count i) nonce HK.out HN.out wr hgw)).mono ?_⟩
      rintro e3 w3 ⟨rfl, hb3⟩
      have HBL : Hid (∀ k, k < 64 → gb (blockL key (cnt count i) nonce) k = sby key count nonce (64 * i + k)) := show ∀ k, k < 64 → gb (blockL key (cnt count i) nonce) k = sby key count nonce (64 * i + k) from fun k hk => by
        unfold sby
        rw [show (64 * i + k) / 64 = i by omega, show (64 * i + k) % 64 = k by omega]
      have HB64 : Hid ((blockL key (cnt count i) nonce).length = 64) := show _ = _ from blockL_length _ _ _
      generalize blockL key (cnt count i) nonce = B at *
      have hs3 := hb3.size
      have b4 : Below wr.heap.size wr (w3.alloc (.cells (bs B) 216)) := hb3.alloc hs3 _
      have r4 : Row (w3.alloc (.cells (bs B) 216)) w3.heap.size 216 (bs B) := Row.new _ _ _
      have J4 := veil (HJ.out _ _ _ HJi.out (b4.mono hsz))
      have k4 := veil (HKP.out.trans (KeepP.of_below (st := st) b4))
      have hB64 : (bs B).size = 64 := by rw [bs_size, HB64.out]
      have hm0 : (0 : Int) ≤ (m : Int) := by omega
      have hmi : (m : Int) ≤ 64 := by omega
      clear hct hcw hcv hml
      gi_wp2_with (first
        | (with_reducible (show wpListIn _ _ _ _ _ (⟨_, Op.alloc 216, _, _, _, _⟩ :: _) _ _)
           refine alloc_rowIn rfl 216 rfl (bs (List.replicate 64 0)) (by kernel_rfl) ?_)
        | (with_reducible (show wpListIn _ _ _ _ _ (⟨_, Op.store 216 _ _, _, _, _, _⟩ :: _) _ _)
           refine store_newIn (w := w3) (by rfl) 216 _ _ (by rfl) w3.heap.size (bs B) (by rfl) (by rfl) 216 (bs (List.replicate 64 0)) (by rfl) 64 (by kernel_rfl) (by rfl) hB64 (bs_one _) ?_)
        | (with_reducible (show wpListIn _ _ _ _ _ (⟨_, Op.call { callee := .builtin .min, args := _, argTypes := _ }, _, _, _, _⟩ :: _) _ _)
           refine plain_builtin rfl .min _ _ rfl (.int .i64 (m : Int)) ?hmin ?_
           case hmin => (go_simp; have := hHM.out; split <;> omega)))
      gi_loopw [32] (fun kv wv => ∃ k : Nat, k ≤ m ∧ kv = .int .i64 (k : Int) ∧ Row wv w3.heap.size 216 (bs B) ∧ J (sbTo key count nonce (64 * i + k)) wv ∧ KeepP st W wv)
        (fun kv _ => m - (intOf kv).toNat)
      case atStart => exact ⟨0, Nat.zero_le _, rfl, r4, J4.out, k4.out⟩
      case round =>
        clear r4 b4
        obtain ⟨k, hk, rfl, rB, hJk, hkk⟩ := hrel
        by_cases hkm : k < m
        · have cB := rB.cellB (j := k) (by rw [HB64.out]; omega)
          rw [HBL.out k (by omega)] at cB
          obtain ⟨fn, tmps, assign, body, hy, hR⟩ := HY.out (sbTo key count nonce (64 * i + k)) (sby key count nonce (64 * i + k)) wr (by rw [sbTo_length]; omega) hJk
          unfold encY at hy
          rw [← sbTo_succ] at hR
          generalize sby key count nonce (64 * i + k) = x at *
          have hp : (0 : Int) ≤ (k : Int) ∧ (k : Int) < (m : Int) := by omega
          gi_wp2_with fail
          refine hR.mono ?_
          rintro e W5 ⟨rfl, hJ5, hk5⟩
          gi_wp2
          go_roundw
          case rel => exact ⟨k + 1, by omega, by go_num, hk5.row rB (fun e => by have := HST.out _ e; omega), hJ5, hkk.trans hk5⟩
          case measure => simp only [intOf]; omega
        · have hd : decide ((k : Int) < (m : Int)) = false := by simp; omega
          rw [show 64 * i + k = min N (64 * (i + 1)) by rw [HM1.out]; omega] at hJk
          gi_wp2
          go_roundw
          case rel => exact ⟨i + 1, by omega, by go_num, hJk, hkk⟩
          case measure => simp only [intOf]; omega
    · have hd : decide ((i : Int) < (M : Int)) = false := by simp; omega
      rw [show min N (64 * i) = N by omega] at hJi
      gi_wp2
      go_end0
      exact ⟨⟨_, rfl⟩, hJi⟩

theorem stream_tells (n : Nat) (hn1 : 1 ≤ n) (Bk Bc Bn Bz : Nat) (st : Nat → Prop) (key : List By) (count : Wd) (nonce : List By) (hk : key.length = 32) (hn : nonce.length = 12) (N : Nat) (hN : N ≤ 1048576)
    (w : World) (rk : Row w Bk 112 (bs key)) (rc : Row w Bc 122 #[.int .u32 (u count)]) (rn : Row w Bn 110 (bs nonce)) (rz : Row w Bz 3 #[.int .i64 (N : Int)]) (hg : Glob w)
    (hst : ∀ j, st j → j < w.heap.size) (sk : ¬ st Bk) (sc : ¬ st Bc) (sn : ¬ st Bn) (sz : ¬ st Bz) (s0 : ¬ st 1) (s1 : ¬ st 2) :
    TellsQ Fence.wide n Tryz.prog 187 #[.pointer (some ⟨Bz, 0, none⟩), .pointer (some ⟨Bk, 0, none⟩), .pointer (some ⟨Bc, 0, none⟩), .pointer (some ⟨Bn, 0, none⟩)] encY st (sbTo key count nonce N) w := fun l J W hW hJ hY h0 =>
  stream1_in n hn1 l Bk Bc Bn Bz st key count nonce hk hn N hN J W (rk.below hW rk.lt) (rc.below hW rc.lt) (rn.below hW rn.lt) (rz.below hW rz.lt) (hg.below hW (Nat.le_refl _)) (fun j hj => Nat.lt_of_lt_of_le (hst j hj) hW.size) sk sc sn sz s0 s1 hJ (fun pre x W1 h => hY pre x W1 (by rw [sbTo_length]; exact h)) h0
end Go.Proofs.YtcfmpkolcelnlaaGreatDoor
