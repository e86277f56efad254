/-
  What hkdf.parts tells: the parts T1, T2 .., one by one.
-/
import Derived.Test.YtcfmpkolcelnlaaGreatDoorGm4
import Derived.Test.YtcfmpkolcelnlaaGreatDoorGmHkMacW
namespace Go.Proofs.YtcfmpkolcelnlaaGreatDoor
open Go Go.RowKit Go.Shelf
attribute [local go_sem] Oper.semAt_some

/-- What is told of a part. -/
def encP (x : Prt) : Array Value := #[.agg (bs x.1)]

set_option maxHeartbeats 400000 in
theorem hkParts_in (n : Nat) (k : List By) (a : Option Addr) (len cap : Nat) (N : Int) (w : World) :
    CallsIn Fence.wide n Tryz.prog 184 #[.agg (bs k), .slice a len cap, .int .i64 N] w fun e w' => e = .returned (.func (.func 198) #[] #[.pointer (some ⟨w.heap.size + 1 + 1, 0, none⟩), .pointer (some ⟨w.heap.size, 0, none⟩), .pointer (some ⟨w.heap.size + 1, 0, none⟩)]) ∧ w' = ((w.alloc (.cells (bs k) 260)).alloc (.cells #[.slice a len cap] 30)).alloc (.cells #[.int .i64 N] 3) := by
  refine callsIn_of_wp Tryz.func184 rfl trivial ?_ rfl
  simp only [Tryz.ntmps184, List.size_toArray, List.length_cons, List.length_nil, Nat.reduceAdd, Nat.reduceSub, Array.replicate_succ, Array.replicate_zero, List.push_toArray, List.append_toArray, List.nil_append, List.cons_append]
  gi_wp2
  go_ret
  exact ⟨rfl, rfl⟩

theorem part_byte (i : Nat) (h : i < 255) : v8 (BitVec.ofNat 8 (i + 1)) = (i : Int) + 1 := by
  unfold v8
  rw [BitVec.toNat_ofNat]
  omega
theorem joinB_three (a b c : SL) : joinB [a, b, c] = a.b ++ (b.b ++ c.b) := by simp [joinB]

set_option maxRecDepth 100000 in
set_option maxHeartbeats 1000000 in
theorem hkParts1_in (n : Nat) (hn : 1 ≤ n) (l Bk Bi Bn : Nat) (st : Nat → Prop) (k : List By) (hk : k.length = 64) (q : SL) (N : Nat) (hN : N ≤ 8160) (hql : q.len ≤ 1048479) (J : List Prt → World → Prop)
    (W : World) (rk : Row W Bk 260 (bs k)) (ci : W.cell? ⟨Bi, 0, none⟩ = some (.slice q.a q.len q.cap)) (cn : W.cell? ⟨Bn, 0, none⟩ = some (.int .i64 (N : Int))) (hBi : Bi < W.heap.size) (hq : q.Ok W)
    (hst : ∀ j, st j → j < W.heap.size) (sk : ¬ st Bk) (si : ¬ st Bi) (sq : 0 < q.len → ¬ st q.g)
    (hJ : ∀ s A B, J s A → Below W.heap.size A B → J s B)
    (hY : ∀ pre x W1, J pre W1 → YieldAt Fence.wide (n - 1) Tryz.prog l (encP x) W1 fun e W' => e = .returned (.bool true) ∧ J (pre ++ [x]) W' ∧ KeepP st W1 W')
    (h0 : J [] W) :
    CallsIn Fence.wide n Tryz.prog 198 #[.func (.yield l) #[] #[], .pointer (some ⟨Bn, 0, none⟩), .pointer (some ⟨Bk, 0, none⟩), .pointer (some ⟨Bi, 0, none⟩)] W fun e W' => (∃ v, e = .returned v) ∧ J (partTo k q.b (nparts N)) W' := by
  have HK := veil hk
  have HRK := veil rk
  have HQ := veil hq
  have hkb := rk.lt
  have HST := veil hst
  have HSQ := veil sq
  have hqb := hq.hb
  clear hk rk hq hst sq
  have hksz : (bs k).size = 64 := by rw [bs_size, HK.out]
  obtain ⟨M, hM⟩ : ∃ M, M = nparts N := ⟨_, rfl⟩
  have hM2 : ((N : Int) + 32 - 1) / 32 = (M : Int) := by rw [hM]; unfold nparts; omega
  have hM255 : M ≤ 255 := by rw [hM]; unfold nparts; omega
  rw [← hM]
  clear hM
  refine callsIn_of_wp Tryz.func198 rfl trivial ?_ rfl
  simp only [Tryz.ntmps198, List.size_toArray, List.length_cons, List.length_nil, Nat.reduceAdd, Nat.reduceSub, Array.replicate_succ, Array.replicate_zero, List.push_toArray, List.append_toArray, List.nil_append, List.cons_append]
  gi_wp2
  rw [hM2]
  clear hM2
  gi_loopw [5, 12] (fun v iv wr => ∃ (i : Nat) (pb : SL), i ≤ M ∧ iv = .int .i64 i ∧ v = .slice pb.a pb.len pb.cap ∧ pb.Ok wr ∧ pb.b = partL k q.b i ∧ (0 < pb.len → W.heap.size ≤ pb.g) ∧ J (partTo k q.b i) wr ∧ KeepP st W wr)
    (fun _ iv _ => M - (intOf iv).toNat)
  case atStart =>
    exact ⟨0, ⟨none, 0, 0, 0, 0, []⟩, Nat.zero_le _, rfl, rfl, ⟨rfl, Nat.le_refl _, fun _ => ⟨rfl, rfl⟩, fun h => absurd h (Nat.lt_irrefl _), fun h => absurd h (Nat.lt_irrefl _), fun j h => absurd h (Nat.not_lt_zero _)⟩, rfl, fun h => absurd h (Nat.lt_irrefl _), h0, KeepP.refl _ _⟩
  case round =>
    obtain ⟨i, pb, hi, rfl, rfl, hpo, hpb, hpg, hJi, hkp⟩ := hrel
    have hsz := hkp.size
    by_cases hlt : i < M
    · have hi255 : i < 255 := by omega
      have HPB := veil (part_byte i hi255)
      have rkw := hkp.row HRK.out sk
      have ciw : wr.cell? ⟨Bi, 0, none⟩ = some (.slice q.a q.len q.cap) := (World.cell?_of_block (a := ⟨Bi, 0, none⟩) (hkp.block Bi hBi si)).trans ci
      have HQw := veil (HQ.out.same (fun p => hkp.block q.g (HQ.out.lt p) (HSQ.out p)) hsz)
      have HPO := veil hpo
      have HPb := veil hpb
      have HPg := veil hpg
      have HJi := veil hJi
      have HKP := veil hkp
      have hpl : pb.len ≤ 32 := by rw [← hpo.hb, hpb]; exact partL_le _ _ _
      have hcv : IntKind.u8.wrap ((i : Int) + 1) = (i : Int) + 1 := by rw [IntKind.wrap_u8]; omega
      clear hpo hpb hpg hJi hkp
      gi_wp2_with (with_reducible (show wpListIn _ _ _ _ _ (⟨_, Op.load 260 _, _, _, _, _⟩ :: _) _ _)
                   refine load_rowIn rfl 260 _ rfl Bk rfl _ _ rkw 64 5 Tryz.underlying260 (by kernel_rfl) hksz ?_)
      have hbx : (#[Value.int .u8 ((i : Int) + 1)] : Array Value) = bs [BitVec.ofNat 8 (i + 1)] := by
        unfold bs
        rw [List.map_cons, HPB.out]
        rfl
      rw [hbx]
      obtain ⟨W1, hW1⟩ : ∃ W1, W1 = wr.alloc (.cells (bs [BitVec.ofNat 8 (i + 1)]) 5) := ⟨_, rfl⟩
      have rx : Row W1 wr.heap.size 5 (bs [BitVec.ofNat 8 (i + 1)]) := by rw [hW1]; exact Row.new _ _ _
      have bW1 : Below wr.heap.size wr W1 := by rw [hW1]; exact (Below.refl _ wr).alloc (Nat.le_refl _) _
      have hs1 : W1.heap.size = wr.heap.size + 1 := by rw [hW1]; simp
      rw [← hW1]
      clear hW1 hbx
      have bW2 : Below W1.heap.size W1 (W1.alloc (.cells (vls [pb, q, rowN wr.heap.size 1 [BitVec.ofNat 8 (i + 1)]]) 30)) := (Below.refl _ W1).alloc (Nat.le_refl _) _
      have bW12 : Below wr.heap.size wr (W1.alloc (.cells (vls [pb, q, rowN wr.heap.size 1 [BitVec.ofNat 8 (i + 1)]]) 30)) := bW1.trans (bW2.mono (by omega))
      have hjl : (joinB [pb, q, rowN wr.heap.size 1 [BitVec.ofNat 8 (i + 1)]]).length ≤ 1048512 := by
        rw [joinB_three, List.length_append, List.length_append, HPO.out.hb, hqb]
        show pb.len + (q.len + 1) ≤ _
        omega
      refine ⟨trivial, (callsIn_wide.2 (mac_any k HK.out (wr.heap.size + 1) 0 3 3 [pb, q, rowN wr.heap.size 1 [BitVec.ofNat 8 (i + 1)]] (W1.alloc (.cells (vls [pb, q, rowN wr.heap.size 1 [BitVec.ofNat 8 (i + 1)]]) 30)) rfl (by decide) (fun s hs => by
        simp only [List.mem_cons, List.not_mem_nil, or_false] at hs
        rcases hs with rfl | rfl | rfl
        · exact HPO.out.below bW12
        · exact HQw.out.below bW12
        · exact (rowN_ok rx rfl).alloc _) hjl (by simp; omega) (fun j s hs => new_lists W1 _ _ _ hs1.symm j s hs))).mono ?_⟩
      rintro e3 w3 ⟨rfl, hb3⟩
      have hpart : macK k (joinB [pb, q, rowN wr.heap.size 1 [BitVec.ofNat 8 (i + 1)]]) = (hkPartAt k q.b i).1 := by
        rw [joinB_three, HPb.out]
        rfl
      rw [hpart]
      have bw3 : Below wr.heap.size wr w3 := bW12.trans (hb3.mono (by simp; omega))
      have hs3 := bw3.size
      clear hb3 bW12 bW2 bW1 rx hpart hjl hs1
      have b4 : Below wr.heap.size wr (w3.alloc (.cells (bs (hkPartAt k q.b i).1) 112)) := bw3.alloc hs3 _
      have J4 : J (partTo k q.b i) (w3.alloc (.cells (bs (hkPartAt k q.b i).1) 112)) := hJ _ _ _ HJi.out (b4.mono hsz)
      have r4 : Row (w3.alloc (.cells (bs (hkPartAt k q.b i).1) 112)) w3.heap.size 112 (bs (hkPartAt k q.b i).1) := Row.new _ _ _
      obtain ⟨fn, tmps, assign, body, hy, hR⟩ := hY (partTo k q.b i) (hkPartAt k q.b i) _ J4
      unfold encP at hy
      rw [← partTo_succ] at hR
      have hx32 : (bs (hkPartAt k q.b i).1).size = 32 := by rw [bs_size, (hkPartAt k q.b i).2]
      have HP1 : Hid ((hkPartAt k q.b i).1 = partL k q.b (i + 1)) := rfl
      have HP2 := veil (hkPartAt k q.b i).2
      generalize (hkPartAt k q.b i).1 = x at *
      gi_wp2_with (first
        | (with_reducible (show wpListIn _ _ _ _ _ (⟨_, Op.alloc 112, _, _, _, _⟩ :: _) _ _)
           refine alloc_rowIn rfl 112 rfl (bs z32) (by kernel_rfl) ?_)
        | (with_reducible (show wpListIn _ _ _ _ _ (⟨_, Op.store 112 _ _, _, _, _, _⟩ :: _) _ _)
           refine store_newIn (w := w3) (by rfl) 112 _ _ (by rfl) w3.heap.size (bs x) (by rfl) (by rfl) 112 (bs z32) (by rfl) 32 (by kernel_rfl) (by rfl) hx32 (bs_one _) ?_)
        | (with_reducible (show wpListIn _ _ _ _ _ (⟨_, Op.load 112 _, _, _, _, _⟩ :: _) _ _)
           refine load_rowIn rfl 112 _ rfl w3.heap.size rfl _ _ r4 32 5 Tryz.underlying112 (by kernel_rfl) hx32 ?_))
      refine hR.mono ?_
      rintro e W5 ⟨rfl, hJ5, hk5⟩
      have r5 : Row W5 w3.heap.size 112 (bs x) := hk5.row r4 (fun e => by have := HST.out _ e; omega)
      have k4 : KeepP st wr (w3.alloc (.cells (bs x) 112)) := ⟨b4.os, b4.tape, b4.output, b4.size, fun j hj _ => b4.block j hj⟩
      gi_wp2
      go_roundw
      case rel => exact ⟨i + 1, rowN w3.heap.size 32 x, by omega, by go_num, rfl, rowN_ok r5 HP2.out, HP1.out, fun _ => (by show W.heap.size ≤ w3.heap.size; omega), hJ5, (HKP.out.trans k4).trans hk5⟩
      case measure => simp only [intOf]; omega
    · obtain rfl : M = i := by omega
      gi_wp2
      go_end0
      exact ⟨⟨_, rfl⟩, hJi⟩

theorem hkParts_tells (n : Nat) (hn : 1 ≤ n) (Bk Bi Bn : Nat) (st : Nat → Prop) (k : List By) (hk : k.length = 64) (q : SL) (N : Nat) (hN : N ≤ 8160) (hql : q.len ≤ 1048479)
    (w : World) (rk : Row w Bk 260 (bs k)) (ci : w.cell? ⟨Bi, 0, none⟩ = some (.slice q.a q.len q.cap)) (cn : w.cell? ⟨Bn, 0, none⟩ = some (.int .i64 (N : Int))) (hBi : Bi < w.heap.size) (hBn : Bn < w.heap.size) (hq : q.Ok w)
    (hst : ∀ j, st j → j < w.heap.size) (sk : ¬ st Bk) (si : ¬ st Bi) (sq : 0 < q.len → ¬ st q.g) :
    TellsP Fence.wide n Tryz.prog 198 #[.pointer (some ⟨Bn, 0, none⟩), .pointer (some ⟨Bk, 0, none⟩), .pointer (some ⟨Bi, 0, none⟩)] encP st (partTo k q.b (nparts N)) w := fun l J W hW hJ hY h0 =>
  hkParts1_in n hn l Bk Bi Bn st k hk q N hN hql J W (rk.below hW rk.lt) ((hW.cell (p := ⟨Bi, 0, none⟩) hBi).trans ci) ((hW.cell (p := ⟨Bn, 0, none⟩) hBn).trans cn) (Nat.lt_of_lt_of_le hBi hW.size) (hq.below hW) (fun j hj => Nat.lt_of_lt_of_le (hst j hj) hW.size) sk si sq hJ hY h0
end Go.Proofs.YtcfmpkolcelnlaaGreatDoor
