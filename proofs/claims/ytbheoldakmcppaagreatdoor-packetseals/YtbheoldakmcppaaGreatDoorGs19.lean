/-
  Out of HkParts, HkThree, HkExpand.
-/
import Derived.Test.YtbheoldakmcppaaGreatDoorGs4
import Derived.Test.YtbheoldakmcppaaGreatDoorGs18
import Derived.Test.YtbheoldakmcppaaGreatDoorGsHkIn

/-! What hkdf.parts tells: the parts T1, T2 .., one by one. -/
namespace Go.Proofs.YtbheoldakmcppaaGreatDoor
open Go Go.RowKit Go.Shelf
attribute [local go_sem] Oper.semAt_some

/-- What is told of a part. -/
def encP (x : Prt) : Array Value := #[.agg (bs x.1)]

set_option maxHeartbeats 400000 in
theorem hkParts_in (n : Nat) (k : List By) (a : Option Addr) (len cap : Nat) (N : Int) (w : World) :
    CallsIn Fence.wide n Tryz.prog 182 #[.agg (bs k), .slice a len cap, .int .i64 N] w fun e w' => e = .returned (.func (.func 187) #[] #[.pointer (some ⟨w.heap.size + 1 + 1, 0, none⟩), .pointer (some ⟨w.heap.size, 0, none⟩), .pointer (some ⟨w.heap.size + 1, 0, none⟩)]) ∧ w' = ((w.alloc (.cells (bs k) 253)).alloc (.cells #[.slice a len cap] 22)).alloc (.cells #[.int .i64 N] 3) := by
  refine callsIn_of_wp Tryz.func182 rfl trivial ?_ rfl
  simp only [Tryz.ntmps182, List.size_toArray, List.length_cons, List.length_nil, Nat.reduceAdd, Nat.reduceSub, Array.replicate_succ, Array.replicate_zero, List.push_toArray, List.append_toArray, List.nil_append, List.cons_append]
  gi_wp2
  go_ret
  exact ⟨rfl, rfl⟩

theorem part_byte (i : Nat) (h : i < 255) : v8 (BitVec.ofNat 8 (i + 1)) = (i : Int) + 1 := by
  unfold v8
  rw [BitVec.toNat_ofNat]
  omega
theorem joinB_three (a b c : SL) : joinB [a, b, c] = a.b ++ (b.b ++ c.b) := by simp [joinB]

set_option maxRecDepth 100000 in
set_option maxHeartbeats 1000000 in
theorem hkParts1_in (n : Nat) (hn : 1 ≤ n) (l Bk Bi Bn : Nat) (st : Nat → Prop) (k : List By) (hk : k.length = 64) (q : SL) (N : Nat) (hN : N ≤ 8160) (hql : q.len ≤ 1048479) (J : List Prt → World → Prop)
    (W : World) (rk : Row W Bk 253 (bs k)) (ci : W.cell? ⟨Bi, 0, none⟩ = some (.slice q.a q.len q.cap)) (cn : W.cell? ⟨Bn, 0, none⟩ = some (.int .i64 (N : Int))) (hBi : Bi < W.heap.size) (hq : q.Ok W)
    (hst : ∀ j, st j → j < W.heap.size) (sk : ¬ st Bk) (si : ¬ st Bi) (sq : 0 < q.len → ¬ st q.g)
    (hJ : ∀ s A B, J s A → Below W.heap.size A B → J s B)
    (hY : ∀ pre x W1, J pre W1 → YieldAt Fence.wide (n - 1) Tryz.prog l (encP x) W1 fun e W' => e = .returned (.bool true) ∧ J (pre ++ [x]) W' ∧ KeepP st W1 W')
    (h0 : J [] W) :
    CallsIn Fence.wide n Tryz.prog 187 #[.func (.yield l) #[] #[], .pointer (some ⟨Bn, 0, none⟩), .pointer (some ⟨Bk, 0, none⟩), .pointer (some ⟨Bi, 0, none⟩)] W fun e W' => (∃ v, e = .returned v) ∧ J (partTo k q.b (nparts N)) W' := by
  have HK := veil hk
  have HRK := veil rk
  have HQ := veil hq
  have hkb := rk.lt
  have HST := veil hst
  have HSQ := veil sq
  have hqb := hq.hb
  clear hk rk hq hst sq
  have hksz : (bs k).size = 64 := by rw [bs_size, HK.out]
  obtain ⟨M, hM⟩ : ∃ M, M = nparts N := ⟨_, rfl⟩
  have hM2 : ((N : Int) + 32 - 1) / 32 = (M : Int) := by rw [hM]; unfold nparts; omega
  have hM255 : M ≤ 255 := by rw [hM]; unfold nparts; omega
  rw [← hM]
  clear hM
  refine callsIn_of_wp Tryz.func187 rfl trivial ?_ rfl
  simp only [Tryz.ntmps187, List.size_toArray, List.length_cons, List.length_nil, Nat.reduceAdd, Nat.reduceSub, Array.replicate_succ, Array.replicate_zero, List.push_toArray, List.append_toArray, List.nil_append, List.cons_append]
  gi_wp2
  rw [hM2]
  clear hM2
  gi_loopw [5, 12] (fun v iv wr => ∃ (i : Nat) (pb : SL), i ≤ M ∧ iv = .int .i64 i ∧ v = .slice pb.a pb.len pb.cap ∧ pb.Ok wr ∧ pb.b = partL k q.b i ∧ (0 < pb.len → W.heap.size ≤ pb.g) ∧ J (partTo k q.b i) wr ∧ KeepP st W wr)
    (fun _ iv _ => M - (intOf iv).toNat)
  case atStart =>
    exact ⟨0, ⟨none, 0, 0, 0, 0, []⟩, Nat.zero_le _, rfl, rfl, ⟨rfl, Nat.le_refl _, fun _ => ⟨rfl, rfl⟩, fun h => absurd h (Nat.lt_irrefl _), fun h => absurd h (Nat.lt_irrefl _), fun j h => absurd h (Nat.not_lt_zero _)⟩, rfl, fun h => absurd h (Nat.lt_irrefl _), h0, KeepP.refl _ _⟩
  case round =>
    obtain ⟨i, pb, hi, rfl, rfl, hpo, hpb, hpg, hJi, hkp⟩ := hrel
    have hsz := hkp.size
    by_cases hlt : i < M
    · have hi255 : i < 255 := by omega
      have HPB := veil (part_byte i hi255)
      have rkw := hkp.row HRK.out sk
      have ciw : wr.cell? ⟨Bi, 0, none⟩ = some (.slice q.a q.len q.cap) := (World.cell?_of_block (a := ⟨Bi, 0, none⟩) (hkp.block Bi hBi si)).trans ci
      have HQw := veil (HQ.out.same (fun p => hkp.block q.g (HQ.out.lt p) (HSQ.out p)) hsz)
      have HPO := veil hpo
      have HPb := veil hpb
      have HPg := veil hpg
      have HJi := veil hJi
      have HKP := veil hkp
      have hpl : pb.len ≤ 32 := by rw [← hpo.hb, hpb]; exact partL_le _ _ _
      have hcv : IntKind.u8.wrap ((i : Int) + 1) = (i : Int) + 1 := by rw [IntKind.wrap_u8]; omega
      clear hpo hpb hpg hJi hkp
      gi_wp2_with (with_reducible (show wpListIn _ _ _ _ _ (⟨_, Op.load 253 _, _, _, _, _⟩ :: _) _ _)
                   refine load_rowIn rfl 253 _ rfl Bk rfl _ _ rkw 64 5 Tryz.underlying253 (by kernel_rfl) hksz ?_)
      have hbx : (#[Value.int .u8 ((i : Int) + 1)] : Array Value) = bs [BitVec.ofNat 8 (i + 1)] := by
        unfold bs
        rw [List.map_cons, HPB.out]
        rfl
      rw [hbx]
      obtain ⟨W1, hW1⟩ : ∃ W1, W1 = wr.alloc (.cells (bs [BitVec.ofNat 8 (i + 1)]) 5) := ⟨_, rfl⟩
      have rx : Row W1 wr.heap.size 5 (bs [BitVec.ofNat 8 (i + 1)]) := by rw [hW1]; exact Row.new _ _ _
      have bW1 : Below wr.heap.size wr W1 := by rw [hW1]; exact (Below.refl _ wr).alloc (Nat.le_refl _) _
      have hs1 : W1.heap.size = wr.heap.size + 1 := by rw [hW1]; simp
      rw [← hW1]
      clear hW1 hbx
      have bW2 : Below W1.heap.size W1 (W1.alloc (.cells (vls [pb, q, rowN wr.heap.size 1 [BitVec.ofNat 8 (i + 1)]]) 22)) := (Below.refl _ W1).alloc (Nat.le_refl _) _
      have bW12 : Below wr.heap.size wr (W1.alloc (.cells (vls [pb, q, rowN wr.heap.size 1 [BitVec.ofNat 8 (i + 1)]]) 22)) := bW1.trans (bW2.mono (by omega))
      have hjl : (joinB [pb, q, rowN wr.heap.size 1 [BitVec.ofNat 8 (i + 1)]]).length ≤ 1048512 := by
        rw [joinB_three, List.length_append, List.length_append, HPO.out.hb, hqb]
        show pb.len + (q.len + 1) ≤ _
        omega
      refine ⟨trivial, (callsIn_wide.2 (mac_any k HK.out (wr.heap.size + 1) 0 3 3 [pb, q, rowN wr.heap.size 1 [BitVec.ofNat 8 (i + 1)]] (W1.alloc (.cells (vls [pb, q, rowN wr.heap.size 1 [BitVec.ofNat 8 (i + 1)]]) 22)) rfl (by decide) (fun s hs => by
        simp only [List.mem_cons, List.not_mem_nil, or_false] at hs
        rcases hs with rfl | rfl | rfl
        · exact HPO.out.below bW12
        · exact HQw.out.below bW12
        · exact (rowN_ok rx rfl).alloc _) hjl (by simp; omega) (fun j s hs => new_lists W1 _ _ _ hs1.symm j s hs))).mono ?_⟩
      rintro e3 w3 ⟨rfl, hb3⟩
      have hpart : macK k (joinB [pb, q, rowN wr.heap.size 1 [BitVec.ofNat 8 (i + 1)]]) = (hkPartAt k q.b i).1 := by
        rw [joinB_three, HPb.out]
        rfl
      rw [hpart]
      have bw3 : Below wr.heap.size wr w3 := bW12.trans (hb3.mono (by simp; omega))
      have hs3 := bw3.size
      clear hb3 bW12 bW2 bW1 rx hpart hjl hs1
      have b4 : Below wr.heap.size wr (w3.alloc (.cells (bs (hkPartAt k q.b i).1) 78)) := bw3.alloc hs3 _
      have J4 : J (partTo k q.b i) (w3.alloc (.cells (bs (hkPartAt k q.b i).1) 78)) := hJ _ _ _ HJi.out (b4.mono hsz)
      have r4 : Row (w3.alloc (.cells (bs (hkPartAt k q.b i).1) 78)) w3.heap.size 78 (bs (hkPartAt k q.b i).1) := Row.new _ _ _
      obtain ⟨fn, tmps, assign, body, hy, hR⟩ := hY (partTo k q.b i) (hkPartAt k q.b i) _ J4
      unfold encP at hy
      rw [← partTo_succ] at hR
      have hx32 : (bs (hkPartAt k q.b i).1).size = 32 := by rw [bs_size, (hkPartAt k q.b i).2]
      have HP1 : Hid ((hkPartAt k q.b i).1 = partL k q.b (i + 1)) := rfl
      have HP2 := veil (hkPartAt k q.b i).2
      generalize (hkPartAt k q.b i).1 = x at *
      gi_wp2_with (first
        | (with_reducible (show wpListIn _ _ _ _ _ (⟨_, Op.alloc 78, _, _, _, _⟩ :: _) _ _)
           refine alloc_rowIn rfl 78 rfl (bs z32) (by kernel_rfl) ?_)
        | (with_reducible (show wpListIn _ _ _ _ _ (⟨_, Op.store 78 _ _, _, _, _, _⟩ :: _) _ _)
           refine store_newIn (w := w3) (by rfl) 78 _ _ (by rfl) w3.heap.size (bs x) (by rfl) (by rfl) 78 (bs z32) (by rfl) 32 (by kernel_rfl) (by rfl) hx32 (bs_one _) ?_)
        | (with_reducible (show wpListIn _ _ _ _ _ (⟨_, Op.load 78 _, _, _, _, _⟩ :: _) _ _)
           refine load_rowIn rfl 78 _ rfl w3.heap.size rfl _ _ r4 32 5 Tryz.underlying78 (by kernel_rfl) hx32 ?_))
      refine hR.mono ?_
      rintro e W5 ⟨rfl, hJ5, hk5⟩
      have r5 : Row W5 w3.heap.size 78 (bs x) := hk5.row r4 (fun e => by have := HST.out _ e; omega)
      have k4 : KeepP st wr (w3.alloc (.cells (bs x) 78)) := ⟨b4.os, b4.tape, b4.output, b4.size, fun j hj _ => b4.block j hj⟩
      gi_wp2
      go_roundw
      case rel => exact ⟨i + 1, rowN w3.heap.size 32 x, by omega, by go_num, rfl, rowN_ok r5 HP2.out, HP1.out, fun _ => (by show W.heap.size ≤ w3.heap.size; omega), hJ5, (HKP.out.trans k4).trans hk5⟩
      case measure => simp only [intOf]; omega
    · obtain rfl : M = i := by omega
      gi_wp2
      go_end0
      exact ⟨⟨_, rfl⟩, hJi⟩

theorem hkParts_tells (n : Nat) (hn : 1 ≤ n) (Bk Bi Bn : Nat) (st : Nat → Prop) (k : List By) (hk : k.length = 64) (q : SL) (N : Nat) (hN : N ≤ 8160) (hql : q.len ≤ 1048479)
    (w : World) (rk : Row w Bk 253 (bs k)) (ci : w.cell? ⟨Bi, 0, none⟩ = some (.slice q.a q.len q.cap)) (cn : w.cell? ⟨Bn, 0, none⟩ = some (.int .i64 (N : Int))) (hBi : Bi < w.heap.size) (hBn : Bn < w.heap.size) (hq : q.Ok w)
    (hst : ∀ j, st j → j < w.heap.size) (sk : ¬ st Bk) (si : ¬ st Bi) (sq : 0 < q.len → ¬ st q.g) :
    TellsP Fence.wide n Tryz.prog 187 #[.pointer (some ⟨Bn, 0, none⟩), .pointer (some ⟨Bk, 0, none⟩), .pointer (some ⟨Bi, 0, none⟩)] encP st (partTo k q.b (nparts N)) w := fun l J W hW hJ hY h0 =>
  hkParts1_in n hn l Bk Bi Bn st k hk q N hN hql J W (rk.below hW rk.lt) ((hW.cell (p := ⟨Bi, 0, none⟩) hBi).trans ci) ((hW.cell (p := ⟨Bn, 0, none⟩) hBn).trans cn) (Nat.lt_of_lt_of_le hBi hW.size) (hq.below hW) (fun j hj => Nat.lt_of_lt_of_le (hst j hj) hW.size) sk si sq hJ hY h0
end Go.Proofs.YtbheoldakmcppaaGreatDoor

/-! A region that draws its order and holds a call, an append to what it answered, a call of that, one behind the other, and makes a row of its own, whenever. -/
namespace Go.Proofs.YtbheoldakmcppaaGreatDoor
open Go Go.RowKit

section
variable {P : Program} {a : Act} {w : World}
end
end Go.Proofs.YtbheoldakmcppaaGreatDoor

/-! What hkdf.Expand answers. -/
namespace Go.Proofs.YtbheoldakmcppaaGreatDoor
open Go Go.RowKit Go.Shelf
attribute [local go_sem] Oper.semAt_some


theorem told_any (N : Int) (w : World) :
    Calls Tryz.prog 164 #[.int .i64 N] w fun e w' => e = .returned (.bool (decide (0 ≤ N ∧ N ≤ 8160))) ∧ w' = w := by
  go_enter Tryz.func164, Tryz.ntmps164
  by_cases h1 : 0 ≤ N
  · by_cases h2 : N ≤ 8160
    · go_wp2_with fail
      go_ret
      exact ⟨by rw [decide_eq_true (by omega)]; rfl, rfl⟩
    · go_wp2_with fail
      go_ret
      exact ⟨by rw [decide_eq_false (by omega)]; rfl, rfl⟩
  · go_wp2_with fail
    go_ret
    exact ⟨by rw [decide_eq_false (by omega)]; rfl, rfl⟩

set_option maxRecDepth 100000 in
set_option maxHeartbeats 1000000 in
theorem expand_ok (k q : SL) (N : Nat) (w : World) (hk : k.Ok w) (hq : q.Ok w) (hN : N ≤ 8160) (hkl : k.len ≤ 1048576) (hql : q.len ≤ 1048479) :
    Calls Tryz.prog 165 #[.slice k.a k.len k.cap, .slice q.a q.len q.cap, .int .i64 (N : Int)] w fun e w' => ∃ g, e = .returned (.tuple #[.slice (some ⟨g, 0, none⟩) N N, .int .i64 0]) ∧ w'.ownsRow w.heap.size 5 1 (.slice (some ⟨g, 0, none⟩) N N) N (vb (expandL (keyL k.b) q.b N)) ∧ Below w.heap.size w w' := by
  obtain ⟨i0, hi, hz0, hz1, hz2⟩ := info_parts (P := Tryz.prog) (e := 5) (z := .int .u8 0) (size := 1) (bytes := 1) (by kernel_rfl)
  have HK := veil hk
  have HQ := veil hq
  clear hk hq
  have hN2 : (0 : Int) ≤ (N : Int) ∧ (N : Int) ≤ 8160 := by omega
  have hk1 : decide ((1048576 : Int) < (k.len : Int)) = false := by rw [decide_eq_false_iff_not]; omega
  have hq1 : decide ((1048479 : Int) < (q.len : Int)) = false := by rw [decide_eq_false_iff_not]; omega
  refine (callsIn_wide (n := 4)).1 ?_
  refine callsIn_of_wp_marks Tryz.func165 rfl trivial ?_ rfl
  simp only [Tryz.ntmps165, List.size_toArray, List.length_cons, List.length_nil, Nat.reduceAdd, Nat.reduceSub, Array.replicate_succ, Array.replicate_zero, List.push_toArray, List.append_toArray, List.nil_append, List.cons_append]
  gi_wp2_with fail
  refine ⟨trivial, (callsIn_wide.2 (told_any N _)).mono ?_⟩
  rintro e1 w1 ⟨rfl, hw⟩
  rw [hw, decide_eq_true hN2]
  clear hw w1
  have b0 : Below w.heap.size w (w.alloc (.cells #[.int .i64 (N : Int)] 3)) := (Below.refl _ w).alloc (Nat.le_refl _) _
  have r0 : Row (w.alloc (.cells #[.int .i64 (N : Int)] 3)) w.heap.size 3 #[.int .i64 (N : Int)] := Row.new _ _ _
  have cN : (w.alloc (.cells #[.int .i64 (N : Int)] 3)).cell? ⟨w.heap.size, 0, none⟩ = some (.int .i64 (N : Int)) := r0.cell 0
  have hsz0 : (w.alloc (.cells #[.int .i64 (N : Int)] 3)).heap.size = w.heap.size + 1 := by simp
  generalize w.alloc (.cells #[.int .i64 (N : Int)] 3) = W0 at *
  gi_wp2_with (gi_at_make; refine wpListIn_make_own _ rfl _ _ 22 rfl (w.heap.size + 1) 5 i0 (.int .u8 0) 1 Tryz.underlying22 hi hz0 hz1 .i64 .i64 (N : Int) N rfl rfl rfl (by rw [hz2]; omega) (by unfold maxLen; omega) (by omega) ?_; intro w1 hown1 hgrow1)
  have hW0sz : w.heap.size + 1 ≤ w1.heap.size := by have := hgrow1.size; omega
  have hb1 : Below w.heap.size w w1 := b0.grown hgrow1 (by omega) (fun j e => by cases e)
  have r01 : Row w1 w.heap.size 3 #[.int .i64 (N : Int)] := (hgrow1.block w.heap.size (by omega) (fun e => by cases e)).trans r0
  rw [hsz0] at hown1
  have hgt1 : w.heap.size + 1 < w1.heap.size := (hown1.lt (w.heap.size + 1) rfl).2
  have bel2 : Below w.heap.size w (w1.alloc (.cells #[.slice (some ⟨w.heap.size + 1, 0, none⟩) 0 N] 22)) := hb1.alloc hb1.size _
  have r02 := r01.alloc (.cells #[.slice (some ⟨w.heap.size + 1, 0, none⟩) 0 N] 22)
  have rT2 : Row (w1.alloc (.cells #[.slice (some ⟨w.heap.size + 1, 0, none⟩) 0 N] 22)) w1.heap.size 22 #[.slice (some ⟨w.heap.size + 1, 0, none⟩) 0 N] := Row.new _ _ _
  have own2 := hown1.alloc (.cells #[.slice (some ⟨w.heap.size + 1, 0, none⟩) 0 N] 22)
  have hsz2 : (w1.alloc (.cells #[.slice (some ⟨w.heap.size + 1, 0, none⟩) 0 N] 22)).heap.size = w1.heap.size + 1 := by simp
  generalize w1.alloc (.cells #[.slice (some ⟨w.heap.size + 1, 0, none⟩) 0 N] 22) = W2 at *
  clear hown1 hgrow1 r01 hb1 b0 r0 cN hsz0
  refine wpIn_mono (Q := fun e a' W => e = .normal ∧ ∃ A, W2.heap.size ≤ A ∧ a' = ({ tmps := #[.slice k.a k.len k.cap, .slice q.a q.len q.cap, .int .i64 (N : Int), undef, undef, .pointer (some ⟨w.heap.size, 0, none⟩), .slice none 0 0, .int .i64 0, .pointer (some ⟨w1.heap.size, 0, none⟩), undef, .int .i64 (N : Int), .bool true, .bool false, .slice k.a k.len k.cap, .int .i64 (k.len : Int), .bool false, .bool false, .slice q.a q.len q.cap, .int .i64 (q.len : Int), .bool false, .bool false, .int .i64 (N : Int), .slice (some ⟨w.heap.size + 1, 0, none⟩) 0 N, .slice k.a k.len k.cap, .agg (bs (keyL k.b)), .slice q.a q.len q.cap, .int .i64 (N : Int), (.func (.func 187) #[] #[.pointer (some ⟨A + 1 + 1, 0, none⟩), .pointer (some ⟨A, 0, none⟩), .pointer (some ⟨A + 1, 0, none⟩)]), undef, undef, undef, undef, undef, undef, undef, undef, undef, undef], defers := [] } : Act) ∧
      Row W A 253 (bs (keyL k.b)) ∧ W.cell? ⟨A + 1, 0, none⟩ = some (.slice q.a q.len q.cap) ∧ W.cell? ⟨A + 1 + 1, 0, none⟩ = some (.int .i64 (N : Int)) ∧ A + 2 < W.heap.size ∧ Below W2.heap.size W2 W) ?_ ?_
  · refine wpIn_region_any (by kernel_rfl) ?_
    have c2 : ∀ W, Below W2.heap.size W2 W → W.cell? ⟨w.heap.size, 0, none⟩ = some (.int .i64 (N : Int)) := fun W hb => (r02.below hb r02.lt).cell 0
    refine wpAnyIn_take (v := .slice k.a k.len k.cap) rfl (i := 0) rfl (by kernel_rfl) (by kernel_rfl) (by kernel_rfl) (fun _ _ _ h => nomatch h.1) ⟨.inl ⟨rfl, fun W => by go_simp⟩, fun W => rfl⟩ ?_
    refine wpAnyIn_take (v := .slice q.a q.len q.cap) rfl (i := 2) rfl (by kernel_rfl) (by kernel_rfl) (by kernel_rfl) (fun _ _ _ h => nomatch h.1) ⟨.inl ⟨rfl, fun W => by go_simp⟩, fun W => rfl⟩ ?_
    have hbd : Below W2.heap.size W2 { W2 with drawn := W2.drawn + 1 } := (Below.refl _ W2).drew
    generalize ({ W2 with drawn := W2.drawn + 1 } : World) = Wd at *
    refine I_all (rs := [1, 3]) (by kernel_rfl) (by simp) (fun j hj => ?_)
    rcases (by simpa using hj : j = 1 ∨ j = 3) with rfl | rfl
    · refine OI_call rfl rfl (by intro c h; cases h) 183 #[.slice k.a k.len k.cap] (fun _ _ => trivial) (by go_simp) (by decide) ?_
      refine (callsIn_wide.2 (key_any k Wd ((HK.out.below bel2).below hbd) hkl)).mono ?_
      rintro e3 W3 ⟨rfl, hb⟩
      have hb3 := hbd.trans (hb.mono hbd.size)
      have hc3 := c2 W3 hb3
      refine ⟨_, rfl, ?_⟩
      refine I_one 3 (by kernel_rfl) (OI_value rfl rfl rfl (by intro c h; cases h) (.int .i64 (N : Int)) W3 (by go_simp) ?_)
      refine I_one 4 (by kernel_rfl) (OI_call rfl rfl (by intro c h; cases h) 182 #[.agg (bs (keyL k.b)), .slice q.a q.len q.cap, .int .i64 (N : Int)] (fun _ _ => trivial) (by go_simp) (by decide) ?_)
      refine (hkParts_in 3 (keyL k.b) q.a q.len q.cap (N : Int) W3).mono ?_
      rintro e4 W4 ⟨rfl, hw4⟩
      refine ⟨_, rfl, I_done (by kernel_rfl) ⟨rfl, W3.heap.size, hb3.size, rfl, ?_⟩ _⟩
      rw [hw4]
      refine ⟨((Row.new _ _ _).alloc _).alloc _, ?_, ?_, by simp, ((hb3.alloc hb3.size _).alloc (by have := hb3.size; simp; omega) _).alloc (by have := hb3.size; simp; omega) _⟩
      · exact (((Row.new1 W3 _ 22 #[.slice q.a q.len q.cap]).alloc _).cell 0)
      · exact ((Row.new2 W3 _ _ 3 #[.int .i64 (N : Int)]).cell 0)
    · have hcd := c2 Wd hbd
      refine OI_value rfl rfl rfl (by intro c h; cases h) (.int .i64 (N : Int)) Wd (by go_simp) ?_
      refine I_one 1 (by kernel_rfl) (OI_call rfl rfl (by intro c h; cases h) 183 #[.slice k.a k.len k.cap] (fun _ _ => trivial) (by go_simp) (by decide) ?_)
      refine (callsIn_wide.2 (key_any k Wd ((HK.out.below bel2).below hbd) hkl)).mono ?_
      rintro e3 W3 ⟨rfl, hb⟩
      have hb3 := hbd.trans (hb.mono hbd.size)
      refine ⟨_, rfl, ?_⟩
      refine I_one 4 (by kernel_rfl) (OI_call rfl rfl (by intro c h; cases h) 182 #[.agg (bs (keyL k.b)), .slice q.a q.len q.cap, .int .i64 (N : Int)] (fun _ _ => trivial) (by go_simp) (by decide) ?_)
      refine (hkParts_in 3 (keyL k.b) q.a q.len q.cap (N : Int) W3).mono ?_
      rintro e4 W4 ⟨rfl, hw4⟩
      refine ⟨_, rfl, I_done (by kernel_rfl) ⟨rfl, W3.heap.size, hb3.size, rfl, ?_⟩ _⟩
      rw [hw4]
      refine ⟨((Row.new _ _ _).alloc _).alloc _, ?_, ?_, by simp, ((hb3.alloc hb3.size _).alloc (by have := hb3.size; simp; omega) _).alloc (by have := hb3.size; simp; omega) _⟩
      · exact (((Row.new1 W3 _ 22 #[.slice q.a q.len q.cap]).alloc _).cell 0)
      · exact ((Row.new2 W3 _ _ 3 #[.int .i64 (N : Int)]).cell 0)
  · rintro e a' W ⟨rfl, A, hA, rfl, rA, cI, cN, hA2, hbW⟩
    have hbelW := bel2.trans (hbW.mono bel2.size)
    have r0W := r02.below hbW r02.lt
    have rTW := rT2.below hbW rT2.lt
    have ownW : W.ownsRow (w.heap.size + 1) 5 1 (.slice (some ⟨w.heap.size + 1, 0, none⟩) 0 N) 0 [] := own2.kept (row := none) ⟨hbW.os, hbW.tape, hbW.output, hbW.size, fun j hj _ => hbW.block j hj⟩ (Classical.em _)
    have hqW := HQ.out.below hbelW
    have hsW := hbW.size
    clear bel2 r02 rT2 own2
    dsimp only
    gi_wp2_with fail
    have hIBelow : ∀ (s : List Prt) (C D : World), (Row C w1.heap.size 22 #[.slice (some ⟨w.heap.size + 1, 0, none⟩) (toldL N s).length N] ∧ OwnB C (w.heap.size + 1) (w.heap.size + 1) (toldL N s).length N (toldL N s) ∧ Row C w.heap.size 3 #[.int .i64 (N : Int)] ∧ Below w.heap.size w C) → Below W.heap.size C D → (Row D w1.heap.size 22 #[.slice (some ⟨w.heap.size + 1, 0, none⟩) (toldL N s).length N] ∧ OwnB D (w.heap.size + 1) (w.heap.size + 1) (toldL N s).length N (toldL N s) ∧ Row D w.heap.size 3 #[.int .i64 (N : Int)] ∧ Below w.heap.size w D) :=
      fun s C D h hb => ⟨h.1.below hb (by omega), h.2.1.same (hb.block _ (by omega)), h.2.2.1.below hb (by omega), h.2.2.2.trans (hb.mono (by omega))⟩
    have hqg : 0 < q.len → q.g < w.heap.size := HQ.out.lt
    refine rangeFunc_tellsP (F := Fence.wide) (n := 4) rfl (by decide) (gf := 187) (lb := #[.pointer (some ⟨A + 1 + 1, 0, none⟩), .pointer (some ⟨A, 0, none⟩), .pointer (some ⟨A + 1, 0, none⟩)]) rfl trivial (enters_of Tryz.func187 (by kernel_rfl) rfl) (encs := encP) (fun _ => rfl) (fun j => j = w1.heap.size ∨ j = w.heap.size + 1) (fun j hj => by omega) (partTo (keyL k.b) q.b (nparts N))
      (hkParts_tells (4 - 1) (by decide) A (A + 1) (A + 1 + 1) (fun j => j = w1.heap.size ∨ j = w.heap.size + 1) (keyL k.b) (keyL_length _) q N hN hql W rA cI cN (by omega) (by omega) hqW (fun j hj => by omega) (by omega) (by omega) (fun p => by have := hqg p; omega))
      (fun pre W => Row W w1.heap.size 22 #[.slice (some ⟨w.heap.size + 1, 0, none⟩) (toldL N pre).length N] ∧ OwnB W (w.heap.size + 1) (w.heap.size + 1) (toldL N pre).length N (toldL N pre) ∧ Row W w.heap.size 3 #[.int .i64 (N : Int)] ∧ Below w.heap.size w W)
      hIBelow (by rw [show toldL N [] = [] by simp [toldL, joined]]; exact ⟨rTW, ⟨rfl, ownW⟩, r0W, hbelW⟩)
      (fun x bk => { tmps := #[.slice k.a k.len k.cap, .slice q.a q.len q.cap, .int .i64 (N : Int), undef, undef, .pointer (some ⟨w.heap.size, 0, none⟩), .slice none 0 0, .int .i64 0, .pointer (some ⟨w1.heap.size, 0, none⟩), .pointer (some ⟨bk, 0, none⟩), .int .i64 (N : Int), .bool true, .bool false, .slice k.a k.len k.cap, .int .i64 (k.len : Int), .bool false, .bool false, .slice q.a q.len q.cap, .int .i64 (q.len : Int), .bool false, .bool false, .int .i64 (N : Int), .slice (some ⟨w.heap.size + 1, 0, none⟩) 0 N, .slice k.a k.len k.cap, .agg (bs (keyL k.b)), .slice q.a q.len q.cap, .int .i64 (N : Int), .func (.func 187) #[] #[.pointer (some ⟨A + 1 + 1, 0, none⟩), .pointer (some ⟨A, 0, none⟩), .pointer (some ⟨A + 1, 0, none⟩)], .agg (bs x.1), undef, undef, undef, undef, undef, undef, undef, undef, undef], defers := [] })
      (fun x bk W => Row W bk 78 (bs x.1)) (fun x bk W W' h e => e.trans h) ?assign ?body ?done
    case assign =>
      intro l x V K hK
      unfold encP
      have hx32 : (bs x.1).size = 32 := by rw [bs_size, x.2]
      go_simp
      gi_wp2_with (first
        | (with_reducible (show wpListIn _ _ _ _ _ (⟨_, Op.alloc 78, _, _, _, _⟩ :: _) _ _)
           refine alloc_rowIn rfl 78 rfl (bs z32) (by kernel_rfl) ?_)
        | (with_reducible (show wpListIn _ _ _ _ _ (⟨_, Op.store 78 _ _, _, _, _, _⟩ :: _) _ _)
           refine store_newIn (w := V) (by rfl) 78 _ _ (by rfl) V.heap.size (bs x.1) (by rfl) (by rfl) 78 (bs z32) (by rfl) 32 (by kernel_rfl) (by rfl) hx32 (bs_one _) ?_))
      exact hK _ ((Below.refl _ V).alloc (Nat.le_refl _) _) (by simp) (Row.new _ _ _)
    case body =>
      rintro l pre x bk V ⟨hT, hO, hNn, hbel⟩ hx hbk hlt
      have HSN := veil (toldL_snoc N pre x)
      have hLN : (toldL N pre).length ≤ N := by rw [toldL_length]; omega
      have HXL := veil x.2
      have HXT : Hid (((x.1).take (min 32 (N - (toldL N pre).length))).length = min 32 (N - (toldL N pre).length)) := show _ = _ by rw [List.length_take, x.2]; omega
      have hLs : (toldL N (pre ++ [x])).length = (toldL N pre).length + min 32 (N - (toldL N pre).length) := by rw [HSN.out, List.length_append, HXT.out]
      have HLS := veil hLs
      obtain ⟨L, hL⟩ : ∃ L, L = (toldL N pre).length := ⟨_, rfl⟩
      obtain ⟨m, hm⟩ : ∃ m, m = min 32 (N - L) := ⟨_, rfl⟩
      rw [← hL] at hT hO hLN HXT HLS HSN
      rw [← hm] at HXT HLS HSN
      have hm32 : m ≤ 32 := by omega
      have hmN : L + m ≤ N := by omega
      have HM := veil hm
      have hm0 : (0 : Int) ≤ (m : Int) := by omega
      have hmi : (m : Int) ≤ 32 := by omega
      clear hL hLs hm
      gi_wp2_with fail
      refine wpIn_region_any (by kernel_rfl) ?_
      have hTd : Row { V with drawn := V.drawn + 1 } w1.heap.size 22 #[.slice (some ⟨w.heap.size + 1, 0, none⟩) L N] := hT
      have hNd : Row { V with drawn := V.drawn + 1 } w.heap.size 3 #[.int .i64 (N : Int)] := hNn
      have hOd : OwnB { V with drawn := V.drawn + 1 } (w.heap.size + 1) (w.heap.size + 1) L N (toldL N pre) := hO.same rfl
      have hxd : Row { V with drawn := V.drawn + 1 } bk 78 (bs x.1) := hx
      have hKd : KeepP (fun j => j = w1.heap.size ∨ j = w.heap.size + 1) V { V with drawn := V.drawn + 1 } := ⟨rfl, rfl, rfl, Nat.le_refl _, fun _ _ _ => rfl⟩
      have hbd : Below w.heap.size w { V with drawn := V.drawn + 1 } := hbel.drew
      clear hT hNn hO hx hbel
      generalize ({ V with drawn := V.drawn + 1 } : World) = Vd at *
      have cT := hTd.cell 0
      have cN2 := hNd.cell 0
      have fT := hTd.frozen 0
      have cT' : Vd.cell? ⟨w1.heap.size, 0, none⟩ = some (.slice (some ⟨w.heap.size + 1, 0, none⟩) L N) := cT
      have cN' : Vd.cell? ⟨w.heap.size, 0, none⟩ = some (.int .i64 (N : Int)) := cN2
      clear cT cN2
      refine quiet_told (W := Vd) (fun x29 x30 x31 x32 x33 x34 x35 => { tmps := #[.slice k.a k.len k.cap, .slice q.a q.len q.cap, .int .i64 (N : Int), undef, undef, .pointer (some ⟨w.heap.size, 0, none⟩), .slice none 0 0, .int .i64 0, .pointer (some ⟨w1.heap.size, 0, none⟩), .pointer (some ⟨bk, 0, none⟩), .int .i64 (N : Int), .bool true, .bool false, .slice k.a k.len k.cap, .int .i64 (k.len : Int), .bool false, .bool false, .slice q.a q.len q.cap, .int .i64 (q.len : Int), .bool false, .bool false, .int .i64 (N : Int), .slice (some ⟨w.heap.size + 1, 0, none⟩) 0 N, .slice k.a k.len k.cap, .agg (bs (keyL k.b)), .slice q.a q.len q.cap, .int .i64 (N : Int), .func (.func 187) #[] #[.pointer (some ⟨A + 1 + 1, 0, none⟩), .pointer (some ⟨A, 0, none⟩), .pointer (some ⟨A + 1, 0, none⟩)], .agg (bs x.1), x29, x30, x31, x32, x33, x34, x35, undef, undef], defers := [] })
        (fun c0 c1 c2 c3 c4 c5 c6 => #[c0, c1, c2, c3, c4, c5, c6, false, false]) (.slice (some ⟨w.heap.size + 1, 0, none⟩) L N) (.int .i64 (N : Int)) (.slice (some ⟨w.heap.size + 1, 0, none⟩) L N) (.int .i64 (L : Int)) (.int .i64 ((N : Int) - (L : Int))) (.int .i64 (m : Int)) (.slice (some ⟨bk, 0, none⟩) m 32)
        (fun _ _ _ _ _ _ => rfl) (fun _ _ _ _ _ _ => rfl) (fun _ _ _ _ _ _ => rfl) (fun _ _ _ _ _ _ => rfl) (fun _ _ _ _ _ _ => rfl) (fun _ _ _ _ _ _ => rfl) (fun _ _ _ _ _ _ => rfl) ?s0 ?s1 ?s2 ?s3 ?s4 ?s5 ?s6 (by kernel_rfl) (by kernel_rfl) (by kernel_rfl) (by kernel_rfl) (by kernel_rfl) (by kernel_rfl) (by kernel_rfl) (by kernel_rfl) (by kernel_rfl) (by kernel_rfl) (by kernel_rfl) (by kernel_rfl) (by kernel_rfl) (by kernel_rfl) (by kernel_rfl) (by kernel_rfl) (by kernel_rfl) 2 ?fin
      case s0 =>
        intros
        exact OI_value rfl rfl rfl (by intro c h; cases h) (.slice (some ⟨w.heap.size + 1, 0, none⟩) L N) Vd (by go_simp) (by assumption)
      case s1 =>
        intros
        exact OI_value rfl rfl rfl (by intro c h; cases h) (.int .i64 (N : Int)) Vd (by go_simp) (by assumption)
      case s2 =>
        intros
        exact OI_value rfl rfl rfl (by intro c h; cases h) (.slice (some ⟨w.heap.size + 1, 0, none⟩) L N) Vd (by go_simp) (by assumption)
      case s3 =>
        intros
        exact OI_value rfl rfl (about_builtin _ _ _ rfl) (by intro c h; cases h) (.int .i64 (L : Int)) Vd (by go_simp) (by assumption)
      case s4 =>
        intros
        exact OI_value rfl rfl rfl (by intro c h; cases h) (.int .i64 ((N : Int) - (L : Int))) Vd (by go_simp; rw [IntKind.wrap_i64]; omega) (by assumption)
      case s5 =>
        intros
        exact OI_value rfl rfl (about_builtin _ _ _ rfl) (by intro c h; cases h) (.int .i64 (m : Int)) Vd (by go_simp; have := HM.out; split <;> omega) (by assumption)
      case s6 =>
        intros
        exact OI_value rfl rfl rfl (by intro c h; cases h) (.slice (some ⟨bk, 0, none⟩) m 32) Vd (by go_simp) (by assumption)
      case fin =>
        have hnews : ∀ j u, (vb (x.1.take m))[j]? = some u → Vd.cell? ((⟨bk, 0, none⟩ : Addr).add j) = some u := fun j u hu => by
          obtain ⟨h1, rfl⟩ := vb_get' _ j u hu
          rw [HXT.out] at h1
          rw [add_off, hxd.cellB (j := j) (by rw [HXL.out]; omega)]
          unfold gb
          rw [List.getElem?_take_of_lt h1]
        obtain ⟨V2, hr2, own3, hg2⟩ := run_append_fits (P := Tryz.prog) Vd (w.heap.size + 1) 22 22 5 i0 1 Tryz.underlying22 hi hz1 (w.heap.size + 1) L N (vb (toldL N pre)) hOd.row ⟨bk, 0, none⟩ m 32 (vb (x.1.take m)) (by rw [vb_length, HXT.out, Nat.mul_one]) hnews (vb_one _) hmN
        have hT2 : Row V2 w1.heap.size 22 #[.slice (some ⟨w.heap.size + 1, 0, none⟩) L N] := (hg2.block _ hTd.lt (fun e => by injection e with e; omega)).trans hTd
        have hN2' : Row V2 w.heap.size 3 #[.int .i64 (N : Int)] := (hg2.block _ hNd.lt (fun e => by injection e with e; omega)).trans hNd
        have cT2 : V2.cell? ⟨w1.heap.size, 0, none⟩ = some (.slice (some ⟨w.heap.size + 1, 0, none⟩) L N) := hT2.cell 0
        have fT2 := hT2.frozen 0
        have hb2 : Below w.heap.size w V2 := hbd.grown hg2 hbd.size (fun j e => by injection e with e; omega)
        refine I_one 7 (by kernel_rfl) (OI_value rfl rfl (about_builtin _ _ _ rfl) (by intro c h; cases h) (.slice (some ⟨w.heap.size + 1, 0, none⟩) (L + m) N) V2 (exec_append _ _ _ _ rfl _ _ rfl rfl _ V2 hr2) ?_)
        refine I_one 8 (by kernel_rfl) (OI_skip rfl rfl rfl (by intro c h; cases h) (V2.setCell ⟨w1.heap.size, 0, none⟩ (.slice (some ⟨w.heap.size + 1, 0, none⟩) (L + m) N)) (by go_simp) ?_)
        refine I_done (by kernel_rfl) ?_ _
        have hO2 : OwnB V2 (w.heap.size + 1) (w.heap.size + 1) (L + m) N (toldL N pre ++ x.1.take m) := ⟨by rw [List.length_append, hOd.len, HXT.out], by rw [vb_append]; exact own3⟩
        refine ⟨rfl, (hKd.trans (KeepP.grown (.inr rfl) hg2)).trans (KeepP.setCell (.inl rfl) V2 0 _), ?_⟩
        rw [HLS.out, HSN.out]
        exact ⟨hT2.set 0 _, hO2.other (by omega) _ _, hN2'.other (by show w.heap.size ≠ w1.heap.size; omega) _, hb2.setCell (p := ⟨w1.heap.size, 0, none⟩) (by show w.heap.size ≤ w1.heap.size; omega) _⟩
    case done =>
      rintro D V hD ⟨hT, hO, hNn, hbel⟩ hDd
      have hex : toldL N (partTo (keyL k.b) q.b (nparts N)) = expandL (keyL k.b) q.b N := rfl
      rw [hex] at hT hO
      have hel := expandL_length (keyL k.b) q.b N
      rw [hel] at hT hO
      have cT : V.cell? ⟨w1.heap.size, 0, none⟩ = some (.slice (some ⟨w.heap.size + 1, 0, none⟩) N N) := hT.cell 0
      have hO' := veil hO
      clear hO hT hNn
      have hlt4 : D < V.heap.size := (Array.getElem?_eq_some_iff.1 hDd).1
      have kp : Below D V (V.putObj D (.deferred none)) := below_putObj _ (Nat.le_refl _) (by omega)
      gi_wp2_with fail
      refine ⟨by simp, .inl ⟨_, _, rfl, run_takeDeferred hDd, ?_⟩⟩
      exact ⟨_, results_tmp2 rfl _ _ _, w.heap.size + 1, rfl, own_low ((hO'.out.same (kp.block _ (by omega))).row) (by omega), hbel.trans (kp.mono (by omega))⟩
end Go.Proofs.YtbheoldakmcppaaGreatDoor
