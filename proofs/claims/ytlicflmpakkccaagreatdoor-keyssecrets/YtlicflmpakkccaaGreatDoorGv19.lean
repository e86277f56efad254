/-
  Out of HkParts, HkIn.
-/
import Derived.Test.YtlicflmpakkccaaGreatDoorGv17
import Derived.Test.YtlicflmpakkccaaGreatDoorGvHkMacW
import Derived.OrdersIn

/-! What hkdf.parts tells: the parts T1, T2 .., one by one. -/
namespace Go.Proofs.YtlicflmpakkccaaGreatDoor
open Go Go.RowKit Go.Shelf
attribute [local go_sem] Oper.semAt_some

/-- What is told of a part. -/
def encP (x : Prt) : Array Value := #[.agg (bs x.1)]

set_option maxHeartbeats 400000 in
theorem parts_in (n : Nat) (k : List By) (a : Option Addr) (len cap : Nat) (N : Int) (w : World) :
    CallsIn Fence.wide n Tryz.prog 131 #[.agg (bs k), .slice a len cap, .int .i64 N] w fun e w' => e = .returned (.func (.func 144) #[] #[.pointer (some ⟨w.heap.size + 1 + 1, 0, none⟩), .pointer (some ⟨w.heap.size, 0, none⟩), .pointer (some ⟨w.heap.size + 1, 0, none⟩)]) ∧ w' = ((w.alloc (.cells (bs k) 189)).alloc (.cells #[.slice a len cap] 22)).alloc (.cells #[.int .i64 N] 3) := by
  refine callsIn_of_wp Tryz.func131 rfl trivial ?_ rfl
  simp only [Tryz.ntmps131, List.size_toArray, List.length_cons, List.length_nil, Nat.reduceAdd, Nat.reduceSub, Array.replicate_succ, Array.replicate_zero, List.push_toArray, List.append_toArray, List.nil_append, List.cons_append]
  gi_wp2
  go_ret
  exact ⟨rfl, rfl⟩

theorem part_byte (i : Nat) (h : i < 255) : v8 (BitVec.ofNat 8 (i + 1)) = (i : Int) + 1 := by
  unfold v8
  rw [BitVec.toNat_ofNat]
  omega
theorem joinB_three (a b c : SL) : joinB [a, b, c] = a.b ++ (b.b ++ c.b) := by simp [joinB]

set_option maxRecDepth 100000 in
set_option maxHeartbeats 1000000 in
theorem parts1_in (n : Nat) (hn : 1 ≤ n) (l Bk Bi Bn : Nat) (st : Nat → Prop) (k : List By) (hk : k.length = 64) (q : SL) (N : Nat) (hN : N ≤ 8160) (hql : q.len ≤ 1048479) (J : List Prt → World → Prop)
    (W : World) (rk : Row W Bk 189 (bs k)) (ci : W.cell? ⟨Bi, 0, none⟩ = some (.slice q.a q.len q.cap)) (cn : W.cell? ⟨Bn, 0, none⟩ = some (.int .i64 (N : Int))) (hBi : Bi < W.heap.size) (hq : q.Ok W)
    (hst : ∀ j, st j → j < W.heap.size) (sk : ¬ st Bk) (si : ¬ st Bi) (sq : 0 < q.len → ¬ st q.g)
    (hJ : ∀ s A B, J s A → Below W.heap.size A B → J s B)
    (hY : ∀ pre x W1, J pre W1 → YieldAt Fence.wide (n - 1) Tryz.prog l (encP x) W1 fun e W' => e = .returned (.bool true) ∧ J (pre ++ [x]) W' ∧ KeepP st W1 W')
    (h0 : J [] W) :
    CallsIn Fence.wide n Tryz.prog 144 #[.func (.yield l) #[] #[], .pointer (some ⟨Bn, 0, none⟩), .pointer (some ⟨Bk, 0, none⟩), .pointer (some ⟨Bi, 0, none⟩)] W fun e W' => (∃ v, e = .returned v) ∧ J (partTo k q.b (nparts N)) W' := by
  have HK := veil hk
  have HRK := veil rk
  have HQ := veil hq
  have hkb := rk.lt
  have HST := veil hst
  have HSQ := veil sq
  have hqb := hq.hb
  clear hk rk hq hst sq
  have hksz : (bs k).size = 64 := by rw [bs_size, HK.out]
  obtain ⟨M, hM⟩ : ∃ M, M = nparts N := ⟨_, rfl⟩
  have hM2 : ((N : Int) + 32 - 1) / 32 = (M : Int) := by rw [hM]; unfold nparts; omega
  have hM255 : M ≤ 255 := by rw [hM]; unfold nparts; omega
  rw [← hM]
  clear hM
  refine callsIn_of_wp Tryz.func144 rfl trivial ?_ rfl
  simp only [Tryz.ntmps144, List.size_toArray, List.length_cons, List.length_nil, Nat.reduceAdd, Nat.reduceSub, Array.replicate_succ, Array.replicate_zero, List.push_toArray, List.append_toArray, List.nil_append, List.cons_append]
  gi_wp2
  rw [hM2]
  clear hM2
  gi_loopw [5, 12] (fun v iv wr => ∃ (i : Nat) (pb : SL), i ≤ M ∧ iv = .int .i64 i ∧ v = .slice pb.a pb.len pb.cap ∧ pb.Ok wr ∧ pb.b = partL k q.b i ∧ (0 < pb.len → W.heap.size ≤ pb.g) ∧ J (partTo k q.b i) wr ∧ KeepP st W wr)
    (fun _ iv _ => M - (intOf iv).toNat)
  case atStart =>
    exact ⟨0, ⟨none, 0, 0, 0, 0, []⟩, Nat.zero_le _, rfl, rfl, ⟨rfl, Nat.le_refl _, fun _ => ⟨rfl, rfl⟩, fun h => absurd h (Nat.lt_irrefl _), fun h => absurd h (Nat.lt_irrefl _), fun j h => absurd h (Nat.not_lt_zero _)⟩, rfl, fun h => absurd h (Nat.lt_irrefl _), h0, KeepP.refl _ _⟩
  case round =>
    obtain ⟨i, pb, hi, rfl, rfl, hpo, hpb, hpg, hJi, hkp⟩ := hrel
    have hsz := hkp.size
    by_cases hlt : i < M
    · have hi255 : i < 255 := by omega
      have HPB := veil (part_byte i hi255)
      have rkw := hkp.row HRK.out sk
      have ciw : wr.cell? ⟨Bi, 0, none⟩ = some (.slice q.a q.len q.cap) := (World.cell?_of_block (a := ⟨Bi, 0, none⟩) (hkp.block Bi hBi si)).trans ci
      have HQw := veil (HQ.out.same (fun p => hkp.block q.g (HQ.out.lt p) (HSQ.out p)) hsz)
      have HPO := veil hpo
      have HPb := veil hpb
      have HPg := veil hpg
      have HJi := veil hJi
      have HKP := veil hkp
      have hpl : pb.len ≤ 32 := by rw [← hpo.hb, hpb]; exact partL_le _ _ _
      have hcv : IntKind.u8.wrap ((i : Int) + 1) = (i : Int) + 1 := by rw [IntKind.wrap_u8]; omega
      clear hpo hpb hpg hJi hkp
      gi_wp2_with (with_reducible (show wpListIn _ _ _ _ _ (⟨_, Op.load 189 _, _, _, _, _⟩ :: _) _ _)
                   refine load_rowIn rfl 189 _ rfl Bk rfl _ _ rkw 64 5 Tryz.underlying189 (by kernel_rfl) hksz ?_)
      have hbx : (#[Value.int .u8 ((i : Int) + 1)] : Array Value) = bs [BitVec.ofNat 8 (i + 1)] := by
        unfold bs
        rw [List.map_cons, HPB.out]
        rfl
      rw [hbx]
      obtain ⟨W1, hW1⟩ : ∃ W1, W1 = wr.alloc (.cells (bs [BitVec.ofNat 8 (i + 1)]) 5) := ⟨_, rfl⟩
      have rx : Row W1 wr.heap.size 5 (bs [BitVec.ofNat 8 (i + 1)]) := by rw [hW1]; exact Row.new _ _ _
      have bW1 : Below wr.heap.size wr W1 := by rw [hW1]; exact (Below.refl _ wr).alloc (Nat.le_refl _) _
      have hs1 : W1.heap.size = wr.heap.size + 1 := by rw [hW1]; simp
      rw [← hW1]
      clear hW1 hbx
      have bW2 : Below W1.heap.size W1 (W1.alloc (.cells (vls [pb, q, rowN wr.heap.size 1 [BitVec.ofNat 8 (i + 1)]]) 22)) := (Below.refl _ W1).alloc (Nat.le_refl _) _
      have bW12 : Below wr.heap.size wr (W1.alloc (.cells (vls [pb, q, rowN wr.heap.size 1 [BitVec.ofNat 8 (i + 1)]]) 22)) := bW1.trans (bW2.mono (by omega))
      have hjl : (joinB [pb, q, rowN wr.heap.size 1 [BitVec.ofNat 8 (i + 1)]]).length ≤ 1048512 := by
        rw [joinB_three, List.length_append, List.length_append, HPO.out.hb, hqb]
        show pb.len + (q.len + 1) ≤ _
        omega
      refine ⟨trivial, (callsIn_wide.2 (mac_any k HK.out (wr.heap.size + 1) 0 3 3 [pb, q, rowN wr.heap.size 1 [BitVec.ofNat 8 (i + 1)]] (W1.alloc (.cells (vls [pb, q, rowN wr.heap.size 1 [BitVec.ofNat 8 (i + 1)]]) 22)) rfl (by decide) (fun s hs => by
        simp only [List.mem_cons, List.not_mem_nil, or_false] at hs
        rcases hs with rfl | rfl | rfl
        · exact HPO.out.below bW12
        · exact HQw.out.below bW12
        · exact (rowN_ok rx rfl).alloc _) hjl (by simp; omega) (fun j s hs => new_lists W1 _ _ _ hs1.symm j s hs))).mono ?_⟩
      rintro e3 w3 ⟨rfl, hb3⟩
      have hpart : macK k (joinB [pb, q, rowN wr.heap.size 1 [BitVec.ofNat 8 (i + 1)]]) = (partAt k q.b i).1 := by
        rw [joinB_three, HPb.out]
        rfl
      rw [hpart]
      have bw3 : Below wr.heap.size wr w3 := bW12.trans (hb3.mono (by simp; omega))
      have hs3 := bw3.size
      clear hb3 bW12 bW2 bW1 rx hpart hjl hs1
      have b4 : Below wr.heap.size wr (w3.alloc (.cells (bs (partAt k q.b i).1) 60)) := bw3.alloc hs3 _
      have J4 : J (partTo k q.b i) (w3.alloc (.cells (bs (partAt k q.b i).1) 60)) := hJ _ _ _ HJi.out (b4.mono hsz)
      have r4 : Row (w3.alloc (.cells (bs (partAt k q.b i).1) 60)) w3.heap.size 60 (bs (partAt k q.b i).1) := Row.new _ _ _
      obtain ⟨fn, tmps, assign, body, hy, hR⟩ := hY (partTo k q.b i) (partAt k q.b i) _ J4
      unfold encP at hy
      rw [← partTo_succ] at hR
      have hx32 : (bs (partAt k q.b i).1).size = 32 := by rw [bs_size, (partAt k q.b i).2]
      have HP1 : Hid ((partAt k q.b i).1 = partL k q.b (i + 1)) := rfl
      have HP2 := veil (partAt k q.b i).2
      generalize (partAt k q.b i).1 = x at *
      gi_wp2_with (first
        | (with_reducible (show wpListIn _ _ _ _ _ (⟨_, Op.alloc 60, _, _, _, _⟩ :: _) _ _)
           refine alloc_rowIn rfl 60 rfl (bs z32) (by kernel_rfl) ?_)
        | (with_reducible (show wpListIn _ _ _ _ _ (⟨_, Op.store 60 _ _, _, _, _, _⟩ :: _) _ _)
           refine store_newIn (w := w3) (by rfl) 60 _ _ (by rfl) w3.heap.size (bs x) (by rfl) (by rfl) 60 (bs z32) (by rfl) 32 (by kernel_rfl) (by rfl) hx32 (bs_one _) ?_)
        | (with_reducible (show wpListIn _ _ _ _ _ (⟨_, Op.load 60 _, _, _, _, _⟩ :: _) _ _)
           refine load_rowIn rfl 60 _ rfl w3.heap.size rfl _ _ r4 32 5 Tryz.underlying60 (by kernel_rfl) hx32 ?_))
      refine hR.mono ?_
      rintro e W5 ⟨rfl, hJ5, hk5⟩
      have r5 : Row W5 w3.heap.size 60 (bs x) := hk5.row r4 (fun e => by have := HST.out _ e; omega)
      have k4 : KeepP st wr (w3.alloc (.cells (bs x) 60)) := ⟨b4.os, b4.tape, b4.output, b4.size, fun j hj _ => b4.block j hj⟩
      gi_wp2
      go_roundw
      case rel => exact ⟨i + 1, rowN w3.heap.size 32 x, by omega, by go_num, rfl, rowN_ok r5 HP2.out, HP1.out, fun _ => (by show W.heap.size ≤ w3.heap.size; omega), hJ5, (HKP.out.trans k4).trans hk5⟩
      case measure => simp only [intOf]; omega
    · obtain rfl : M = i := by omega
      gi_wp2
      go_end0
      exact ⟨⟨_, rfl⟩, hJi⟩

theorem parts_tells (n : Nat) (hn : 1 ≤ n) (Bk Bi Bn : Nat) (st : Nat → Prop) (k : List By) (hk : k.length = 64) (q : SL) (N : Nat) (hN : N ≤ 8160) (hql : q.len ≤ 1048479)
    (w : World) (rk : Row w Bk 189 (bs k)) (ci : w.cell? ⟨Bi, 0, none⟩ = some (.slice q.a q.len q.cap)) (cn : w.cell? ⟨Bn, 0, none⟩ = some (.int .i64 (N : Int))) (hBi : Bi < w.heap.size) (hBn : Bn < w.heap.size) (hq : q.Ok w)
    (hst : ∀ j, st j → j < w.heap.size) (sk : ¬ st Bk) (si : ¬ st Bi) (sq : 0 < q.len → ¬ st q.g) :
    TellsP Fence.wide n Tryz.prog 144 #[.pointer (some ⟨Bn, 0, none⟩), .pointer (some ⟨Bk, 0, none⟩), .pointer (some ⟨Bi, 0, none⟩)] encP st (partTo k q.b (nparts N)) w := fun l J W hW hJ hY h0 =>
  parts1_in n hn l Bk Bi Bn st k hk q N hN hql J W (rk.below hW rk.lt) ((hW.cell (p := ⟨Bi, 0, none⟩) hBi).trans ci) ((hW.cell (p := ⟨Bn, 0, none⟩) hBn).trans cn) (Nat.lt_of_lt_of_le hBi hW.size) (hq.below hW) (fun j hj => Nat.lt_of_lt_of_le (hst j hj) hW.size) sk si sq hJ hY h0
end Go.Proofs.YtlicflmpakkccaaGreatDoor

/-! A region inside a fence that draws its order: operations that come up alone, and many that only read. Written by mkquiet.py. -/
namespace Go.Proofs.YtlicflmpakkccaaGreatDoor
open Go Go.RowKit

section
variable {F : Fence} {n : Nat} {P : Program} {ops : Array Oper} {Q : Exit → Act → World → Prop} {md : Region.Mode} {fuel : Nat} {listed : Array Bool} {a : Act} {w : World}
theorem I_all {rs : List Nat} (hr : Region.ready md ops listed = rs) (hne : rs ≠ [])
    (h : ∀ i ∈ rs, wpOpIn F n P ops Q i (wpAnyIn F n P md ops Q fuel (listed.setIfInBounds i true)) a w) : wpAnyIn F n P md ops Q (fuel + 1) listed a w :=
  ⟨fun h0 => absurd (hr ▸ h0) hne, hr ▸ h⟩
theorem I_one (i : Nat) (hr : Region.ready md ops listed = [i]) (h : wpOpIn F n P ops Q i (wpAnyIn F n P md ops Q fuel (listed.setIfInBounds i true)) a w) : wpAnyIn F n P md ops Q (fuel + 1) listed a w :=
  I_all hr (by simp) (fun j hj => by obtain rfl : j = i := by simpa using hj
                                     exact h)
theorem I_done (hr : Region.ready md ops listed = []) (h : Q .normal a w) : ∀ fuel, wpAnyIn F n P md ops Q fuel listed a w
  | 0 => ⟨hr, h⟩
  | _ + 1 => ⟨fun _ => h, by rw [hr]; simp⟩
theorem about_builtin {o : Oper} (b : Builtin) (args : Array Operand) (tys : Array TypeId) (ho : o.op = .call { callee := .builtin b, args := args, argTypes := tys }) : o.about P w a.eval = none := by
  unfold Oper.about
  simp only [ho, resolve, Sem.run_pure]
  rfl
theorem OI_value {o : Oper} {i : Nat} {K : Act → World → Prop} (hi : ops[i]? = some o) (hw : Region.wanted o (yielded ops a.tmps) = true) (hab : o.about P w a.eval = none) (hd : ∀ c, o.op ≠ .defer c) (v : Value) (w' : World)
    (he : (execOp a.eval o).run P w = .ok (.value v) w') (h : K (a.put o.dst v) w') : wpOpIn F n P ops Q i K a w := by
  unfold wpOpIn
  simp only [hi, hw, if_true]
  unfold Oper.wpIn
  refine ⟨fun f hf => (by rw [hab] at hf; cases hf), ?_⟩
  rw [Oper.semAt_eq _ _ _ hd, he]
  exact h
theorem OI_skip {o : Oper} {i : Nat} {K : Act → World → Prop} (hi : ops[i]? = some o) (hw : Region.wanted o (yielded ops a.tmps) = true) (hab : o.about P w a.eval = none) (hd : ∀ c, o.op ≠ .defer c) (w' : World)
    (he : (execOp a.eval o).run P w = .ok .skip w') (h : K (a.put o.dst undef) w') : wpOpIn F n P ops Q i K a w := by
  unfold wpOpIn
  simp only [hi, hw, if_true]
  unfold Oper.wpIn
  refine ⟨fun f hf => (by rw [hab] at hf; cases hf), ?_⟩
  rw [Oper.semAt_eq _ _ _ hd, he]
  exact h
theorem OI_call {o : Oper} {i : Nat} {K : Act → World → Prop} (hi : ops[i]? = some o) (hw : Region.wanted o (yielded ops a.tmps) = true) (hd : ∀ c, o.op ≠ .defer c) (f : Nat) (args : Array Value) (hab : ∀ g, o.about P w a.eval = some g → F.fn g)
    (he : (execOp a.eval o).run P w = .ok (.enter f args) w) (hn : 1 ≤ n) (hc : CallsIn F (n - 1) P f args w fun e w' => ∃ v, e = .returned v ∧ K (a.put o.dst v) w') : wpOpIn F n P ops Q i K a w := by
  unfold wpOpIn
  simp only [hi, hw, if_true]
  unfold Oper.wpIn
  refine ⟨hab, ?_⟩
  rw [Oper.semAt_eq _ _ _ hd, he]
  exact ⟨fun _ => hn, hc.mono (by rintro e w' ⟨v, rfl, h⟩; exact h)⟩
end

set_option maxHeartbeats 1000000 in
theorem quiet_told {F : Fence} {n : Nat} {P : Program} {ops : Array Oper} {Q : Exit → Act → World → Prop} {W : World} (tm : Value → Value → Value → Value → Value → Value → Value → Act) (l : Bool → Bool → Bool → Bool → Bool → Bool → Bool → Array Bool) (x0 x1 x2 x3 x4 x5 x6 : Value)
    (l0 : ∀ c1 c2 c3 c4 c5 c6, (l false c1 c2 c3 c4 c5 c6).setIfInBounds 0 true = l true c1 c2 c3 c4 c5 c6)
    (l1 : ∀ c0 c2 c3 c4 c5 c6, (l c0 false c2 c3 c4 c5 c6).setIfInBounds 1 true = l c0 true c2 c3 c4 c5 c6)
    (l2 : ∀ c0 c1 c3 c4 c5 c6, (l c0 c1 false c3 c4 c5 c6).setIfInBounds 2 true = l c0 c1 true c3 c4 c5 c6)
    (l3 : ∀ c0 c1 c2 c4 c5 c6, (l c0 c1 c2 false c4 c5 c6).setIfInBounds 3 true = l c0 c1 c2 true c4 c5 c6)
    (l4 : ∀ c0 c1 c2 c3 c5 c6, (l c0 c1 c2 c3 false c5 c6).setIfInBounds 4 true = l c0 c1 c2 c3 true c5 c6)
    (l5 : ∀ c0 c1 c2 c3 c4 c6, (l c0 c1 c2 c3 c4 false c6).setIfInBounds 5 true = l c0 c1 c2 c3 c4 true c6)
    (l6 : ∀ c0 c1 c2 c3 c4 c5, (l c0 c1 c2 c3 c4 c5 false).setIfInBounds 6 true = l c0 c1 c2 c3 c4 c5 true)
    (s0 : ∀ y1 y2 y3 y4 y5 y6 (K : Act → World → Prop), K (tm x0 y1 y2 y3 y4 y5 y6) W → wpOpIn F n P ops Q 0 K (tm undef y1 y2 y3 y4 y5 y6) W)
    (s1 : ∀ y0 y2 y3 y4 y5 y6 (K : Act → World → Prop), K (tm y0 x1 y2 y3 y4 y5 y6) W → wpOpIn F n P ops Q 1 K (tm y0 undef y2 y3 y4 y5 y6) W)
    (s2 : ∀ y0 y1 y3 y4 y5 y6 (K : Act → World → Prop), K (tm y0 y1 x2 y3 y4 y5 y6) W → wpOpIn F n P ops Q 2 K (tm y0 y1 undef y3 y4 y5 y6) W)
    (s3 : ∀ y0 y1 y4 y5 y6 (K : Act → World → Prop), K (tm y0 y1 x2 x3 y4 y5 y6) W → wpOpIn F n P ops Q 3 K (tm y0 y1 x2 undef y4 y5 y6) W)
    (s4 : ∀ y0 y2 y5 y6 (K : Act → World → Prop), K (tm y0 x1 y2 x3 x4 y5 y6) W → wpOpIn F n P ops Q 4 K (tm y0 x1 y2 x3 undef y5 y6) W)
    (s5 : ∀ y0 y1 y2 y3 y6 (K : Act → World → Prop), K (tm y0 y1 y2 y3 x4 x5 y6) W → wpOpIn F n P ops Q 5 K (tm y0 y1 y2 y3 x4 undef y6) W)
    (s6 : ∀ y0 y1 y2 y3 y4 (K : Act → World → Prop), K (tm y0 y1 y2 y3 y4 x5 x6) W → wpOpIn F n P ops Q 6 K (tm y0 y1 y2 y3 y4 x5 undef) W)
    (r0111111 : Region.ready .any ops (l false true true true true true true) = [0])
    (r1111110 : Region.ready .any ops (l true true true true true true false) = [6])
    (r0111110 : Region.ready .any ops (l false true true true true true false) = [0, 6])
    (r1111100 : Region.ready .any ops (l true true true true true false false) = [5])
    (r0111100 : Region.ready .any ops (l false true true true true false false) = [0, 5])
    (r1111000 : Region.ready .any ops (l true true true true false false false) = [4])
    (r0111000 : Region.ready .any ops (l false true true true false false false) = [0, 4])
    (r1011000 : Region.ready .any ops (l true false true true false false false) = [1])
    (r1110000 : Region.ready .any ops (l true true true false false false false) = [3])
    (r0011000 : Region.ready .any ops (l false false true true false false false) = [0, 1])
    (r0110000 : Region.ready .any ops (l false true true false false false false) = [0, 3])
    (r1010000 : Region.ready .any ops (l true false true false false false false) = [1, 3])
    (r1100000 : Region.ready .any ops (l true true false false false false false) = [2])
    (r0010000 : Region.ready .any ops (l false false true false false false false) = [0, 1, 3])
    (r0100000 : Region.ready .any ops (l false true false false false false false) = [0, 2])
    (r1000000 : Region.ready .any ops (l true false false false false false false) = [1, 2])
    (r0000000 : Region.ready .any ops (l false false false false false false false) = [0, 1, 2])
    (f : Nat) (hend : wpAnyIn F n P .any ops Q f (l true true true true true true true) (tm x0 x1 x2 x3 x4 x5 x6) W) : wpAnyIn F n P .any ops Q (f + 7) (l false false false false false false false) (tm undef undef undef undef undef undef undef) W := by
  have q1111111 := hend
  have q0111111 : wpAnyIn F n P .any ops Q (f + 1) (l false true true true true true true) (tm undef x1 x2 x3 x4 x5 x6) W := by
    refine I_all r0111111 (by simp) (fun j hj => ?_)
    obtain rfl : j = 0 := by simpa using hj
    refine s0 _ _ _ _ _ _ _ ?_
    rw [l0]
    exact q1111111
  have q1111110 : wpAnyIn F n P .any ops Q (f + 1) (l true true true true true true false) (tm x0 x1 x2 x3 x4 x5 undef) W := by
    refine I_all r1111110 (by simp) (fun j hj => ?_)
    obtain rfl : j = 6 := by simpa using hj
    refine s6 _ _ _ _ _ _ ?_
    rw [l6]
    exact q1111111
  have q0111110 : wpAnyIn F n P .any ops Q (f + 2) (l false true true true true true false) (tm undef x1 x2 x3 x4 x5 undef) W := by
    refine I_all r0111110 (by simp) (fun j hj => ?_)
    rcases (by simpa using hj : j = 0 ∨ j = 6) with rfl | rfl
    · refine s0 _ _ _ _ _ _ _ ?_
      rw [l0]
      exact q1111110
    · refine s6 _ _ _ _ _ _ ?_
      rw [l6]
      exact q0111111
  have q1111100 : wpAnyIn F n P .any ops Q (f + 2) (l true true true true true false false) (tm x0 x1 x2 x3 x4 undef undef) W := by
    refine I_all r1111100 (by simp) (fun j hj => ?_)
    obtain rfl : j = 5 := by simpa using hj
    refine s5 _ _ _ _ _ _ ?_
    rw [l5]
    exact q1111110
  have q0111100 : wpAnyIn F n P .any ops Q (f + 3) (l false true true true true false false) (tm undef x1 x2 x3 x4 undef undef) W := by
    refine I_all r0111100 (by simp) (fun j hj => ?_)
    rcases (by simpa using hj : j = 0 ∨ j = 5) with rfl | rfl
    · refine s0 _ _ _ _ _ _ _ ?_
      rw [l0]
      exact q1111100
    · refine s5 _ _ _ _ _ _ ?_
      rw [l5]
      exact q0111110
  have q1111000 : wpAnyIn F n P .any ops Q (f + 3) (l true true true true false false false) (tm x0 x1 x2 x3 undef undef undef) W := by
    refine I_all r1111000 (by simp) (fun j hj => ?_)
    obtain rfl : j = 4 := by simpa using hj
    refine s4 _ _ _ _ _ ?_
    rw [l4]
    exact q1111100
  have q0111000 : wpAnyIn F n P .any ops Q (f + 4) (l false true true true false false false) (tm undef x1 x2 x3 undef undef undef) W := by
    refine I_all r0111000 (by simp) (fun j hj => ?_)
    rcases (by simpa using hj : j = 0 ∨ j = 4) with rfl | rfl
    · refine s0 _ _ _ _ _ _ _ ?_
      rw [l0]
      exact q1111000
    · refine s4 _ _ _ _ _ ?_
      rw [l4]
      exact q0111100
  have q1011000 : wpAnyIn F n P .any ops Q (f + 4) (l true false true true false false false) (tm x0 undef x2 x3 undef undef undef) W := by
    refine I_all r1011000 (by simp) (fun j hj => ?_)
    obtain rfl : j = 1 := by simpa using hj
    refine s1 _ _ _ _ _ _ _ ?_
    rw [l1]
    exact q1111000
  have q1110000 : wpAnyIn F n P .any ops Q (f + 4) (l true true true false false false false) (tm x0 x1 x2 undef undef undef undef) W := by
    refine I_all r1110000 (by simp) (fun j hj => ?_)
    obtain rfl : j = 3 := by simpa using hj
    refine s3 _ _ _ _ _ _ ?_
    rw [l3]
    exact q1111000
  have q0011000 : wpAnyIn F n P .any ops Q (f + 5) (l false false true true false false false) (tm undef undef x2 x3 undef undef undef) W := by
    refine I_all r0011000 (by simp) (fun j hj => ?_)
    rcases (by simpa using hj : j = 0 ∨ j = 1) with rfl | rfl
    · refine s0 _ _ _ _ _ _ _ ?_
      rw [l0]
      exact q1011000
    · refine s1 _ _ _ _ _ _ _ ?_
      rw [l1]
      exact q0111000
  have q0110000 : wpAnyIn F n P .any ops Q (f + 5) (l false true true false false false false) (tm undef x1 x2 undef undef undef undef) W := by
    refine I_all r0110000 (by simp) (fun j hj => ?_)
    rcases (by simpa using hj : j = 0 ∨ j = 3) with rfl | rfl
    · refine s0 _ _ _ _ _ _ _ ?_
      rw [l0]
      exact q1110000
    · refine s3 _ _ _ _ _ _ ?_
      rw [l3]
      exact q0111000
  have q1010000 : wpAnyIn F n P .any ops Q (f + 5) (l true false true false false false false) (tm x0 undef x2 undef undef undef undef) W := by
    refine I_all r1010000 (by simp) (fun j hj => ?_)
    rcases (by simpa using hj : j = 1 ∨ j = 3) with rfl | rfl
    · refine s1 _ _ _ _ _ _ _ ?_
      rw [l1]
      exact q1110000
    · refine s3 _ _ _ _ _ _ ?_
      rw [l3]
      exact q1011000
  have q1100000 : wpAnyIn F n P .any ops Q (f + 5) (l true true false false false false false) (tm x0 x1 undef undef undef undef undef) W := by
    refine I_all r1100000 (by simp) (fun j hj => ?_)
    obtain rfl : j = 2 := by simpa using hj
    refine s2 _ _ _ _ _ _ _ ?_
    rw [l2]
    exact q1110000
  have q0010000 : wpAnyIn F n P .any ops Q (f + 6) (l false false true false false false false) (tm undef undef x2 undef undef undef undef) W := by
    refine I_all r0010000 (by simp) (fun j hj => ?_)
    rcases (by simpa using hj : j = 0 ∨ j = 1 ∨ j = 3) with rfl | rfl | rfl
    · refine s0 _ _ _ _ _ _ _ ?_
      rw [l0]
      exact q1010000
    · refine s1 _ _ _ _ _ _ _ ?_
      rw [l1]
      exact q0110000
    · refine s3 _ _ _ _ _ _ ?_
      rw [l3]
      exact q0011000
  have q0100000 : wpAnyIn F n P .any ops Q (f + 6) (l false true false false false false false) (tm undef x1 undef undef undef undef undef) W := by
    refine I_all r0100000 (by simp) (fun j hj => ?_)
    rcases (by simpa using hj : j = 0 ∨ j = 2) with rfl | rfl
    · refine s0 _ _ _ _ _ _ _ ?_
      rw [l0]
      exact q1100000
    · refine s2 _ _ _ _ _ _ _ ?_
      rw [l2]
      exact q0110000
  have q1000000 : wpAnyIn F n P .any ops Q (f + 6) (l true false false false false false false) (tm x0 undef undef undef undef undef undef) W := by
    refine I_all r1000000 (by simp) (fun j hj => ?_)
    rcases (by simpa using hj : j = 1 ∨ j = 2) with rfl | rfl
    · refine s1 _ _ _ _ _ _ _ ?_
      rw [l1]
      exact q1100000
    · refine s2 _ _ _ _ _ _ _ ?_
      rw [l2]
      exact q1010000
  have q0000000 : wpAnyIn F n P .any ops Q (f + 7) (l false false false false false false false) (tm undef undef undef undef undef undef undef) W := by
    refine I_all r0000000 (by simp) (fun j hj => ?_)
    rcases (by simpa using hj : j = 0 ∨ j = 1 ∨ j = 2) with rfl | rfl | rfl
    · refine s0 _ _ _ _ _ _ _ ?_
      rw [l0]
      exact q1000000
    · refine s1 _ _ _ _ _ _ _ ?_
      rw [l1]
      exact q0100000
    · refine s2 _ _ _ _ _ _ _ ?_
      rw [l2]
      exact q0010000
  exact q0000000
end Go.Proofs.YtlicflmpakkccaaGreatDoor
