/-
  Out of AeRefP, ChaLawB, ChaRefXor.
-/
import Derived.Test.YtbheoldakmcppaaGreatDoorGs10
import Derived.Test.YtbheoldakmcppaaGreatDoorGs3
import Derived.Test.YtbheoldakmcppaaGreatDoorGs7
import Derived.Test.YtbheoldakmcppaaGreatDoorGs32
import Derived.Test.YtbheoldakmcppaaGreatDoorGs27

/-! What the document's key32, nonce12, filled and eight answer. -/
namespace Go.Proofs.YtbheoldakmcppaaGreatDoor
open Go Go.RowKit

set_option maxRecDepth 20000 in
set_option maxHeartbeats 1000000 in
theorem refkey32_any (b : SL) (w : World) (hb : b.Ok w) (h : b.len = 32) :
    Calls Tryz.prog 80 #[.slice b.a b.len b.cap] w fun e w' => e = .returned (.agg (bs b.b)) ∧ Below w.heap.size w w' := by
  obtain ⟨ba, bl, bc, bg, bo, bb⟩ := b
  simp only at h
  subst h
  have HB := veil hb
  clear hb
  have hbl : bb.length = 32 := HB.out.hb
  have HBL := veil hbl
  have he : ba = some ⟨bg, bo, none⟩ := HB.out.at_ (show 0 < 32 by omega)
  subst he
  have hlt : bg < w.heap.size := HB.out.lt (show 0 < 32 by omega)
  clear hbl
  have r0 : Row ((w.alloc (.cells (bs z32b) 78)).alloc (.cells (bs z32b) 78)) w.heap.size 78 (bs z32b) := (Row.new _ _ _).alloc _
  have r1 : Row ((w.alloc (.cells (bs z32b) 78)).alloc (.cells (bs z32b) 78)) (w.heap.size + 1) 78 (bs z32b) := Row.new1 _ _ _ _
  have b0 : Below w.heap.size w ((w.alloc (.cells (bs z32b) 78)).alloc (.cells (bs z32b) 78)) := ((Below.refl _ w).alloc (Nat.le_refl _) _).alloc (by simp) _
  have hz : (bs z32b).size = 32 := by rw [bs_size]; rfl
  go_enter Tryz.func80, Tryz.ntmps80
  go_wp2_with (with_reducible (show wpList _ _ _ (⟨_, Op.alloc 78, _, _, _, _⟩ :: _) _ _)
               refine alloc_row rfl 78 rfl (bs z32b) (by kernel_rfl) ?_)
  go_loopw [4] (fun iv wr => ∃ (k : Nat) (zs : List By), k ≤ 32 ∧ iv = .int .i64 k ∧ Hid (zs.length = 32) ∧ Hid (∀ j, j < k → gb zs j = gb bb j) ∧ Row wr w.heap.size 78 (bs z32b) ∧ Row wr (w.heap.size + 1) 78 (bs zs) ∧ Below w.heap.size w wr)
    (fun iv _ => 32 - (intOf iv).toNat)
  case atStart =>
    exact ⟨0, z32b, by omega, rfl, (show z32b.length = 32 from rfl), (fun j hj => by omega), r0, r1, b0⟩
  case round =>
    clear r0 r1 b0
    obtain ⟨k, zs, hk, rfl, HL, HD, r0, r1, hbel⟩ := hrel
    by_cases h16 : k < 32
    · have hdk : decide ((k : Int) < 32) = true := by simp; omega
      have cx : wr.cell? ⟨bg, bo + k, none⟩ = some (.int .u8 (v8 (gb bb k))) := (hbel.cell (p := ⟨bg, bo + k, none⟩) hlt).trans (HB.out.cell k h16)
      have cz := r1.cellB (j := k) (by rw [HL.out]; exact h16)
      have fx := r1.frozen k
      generalize hX : gb bb k = X at *
      have HX := veil hX
      clear hX
      go_wp2_with fail
      go_roundw
      case rel =>
        have q1 := r1.set k (.int .u8 (v8 X))
        rw [bs_set] at q1
        refine ⟨k + 1, _, by omega, by go_num, ?_, ?_, r0.other (by show w.heap.size ≠ w.heap.size + 1; omega) _, q1, hbel.setCell (p := ⟨w.heap.size + 1, k, none⟩) (by show w.heap.size ≤ w.heap.size + 1; omega) _⟩
        · show List.length _ = 32
          rw [List.length_set]; exact HL.out
        · intro j hj
          rw [gb_set _ (by rw [HL.out]; exact h16)]
          split
          · rename_i h; subst h; exact HX.out.symm
          · exact HD.out j (by omega)
      case measure => simp [intOf]; omega
    · have hdk : decide ((k : Int) < 32) = false := by simp; omega
      rw [show k = 32 by omega] at HD
      have e : zs = bb := gb_ext (by rw [HL.out, HBL.out]) (fun p hp => HD.out p (by rw [HL.out] at hp; exact hp))
      subst e
      have hsz : (bs zs).size = 32 := by rw [bs_size, HL.out]
      go_wp2_with (first
        | (with_reducible (show wpList _ _ _ (⟨_, Op.load 78 _, _, _, _, _⟩ :: _) _ _)
           refine load_row rfl 78 _ rfl (w.heap.size + 1) rfl _ _ r1 32 5 Tryz.underlying78 (by kernel_rfl) hsz ?_)
        | (with_reducible (show wpList _ _ _ (⟨_, Op.store 78 _ _, _, _, _, _⟩ :: _) _ _)
           refine store_row rfl 78 _ _ rfl w.heap.size (bs zs) rfl rfl _ _ r0 32 (by kernel_rfl) hz hsz (bs_one _) ?_))
      refine bodyPost_ret (result_row rfl _ _ w.heap.size _ _ (r0.put _) 32 5 rfl Tryz.underlying78 (by kernel_rfl) hsz) rfl ⟨rfl, bSetRow hbel (Nat.le_refl _) _⟩

set_option maxRecDepth 20000 in
set_option maxHeartbeats 1000000 in
theorem refnonce12_any (b : SL) (w : World) (hb : b.Ok w) (h : b.len = 12) :
    Calls Tryz.prog 81 #[.slice b.a b.len b.cap] w fun e w' => e = .returned (.agg (bs b.b)) ∧ Below w.heap.size w w' := by
  obtain ⟨ba, bl, bc, bg, bo, bb⟩ := b
  simp only at h
  subst h
  have HB := veil hb
  clear hb
  have hbl : bb.length = 12 := HB.out.hb
  have HBL := veil hbl
  have he : ba = some ⟨bg, bo, none⟩ := HB.out.at_ (show 0 < 12 by omega)
  subst he
  have hlt : bg < w.heap.size := HB.out.lt (show 0 < 12 by omega)
  clear hbl
  have r0 : Row ((w.alloc (.cells (bs z12) 76)).alloc (.cells (bs z12) 76)) w.heap.size 76 (bs z12) := (Row.new _ _ _).alloc _
  have r1 : Row ((w.alloc (.cells (bs z12) 76)).alloc (.cells (bs z12) 76)) (w.heap.size + 1) 76 (bs z12) := Row.new1 _ _ _ _
  have b0 : Below w.heap.size w ((w.alloc (.cells (bs z12) 76)).alloc (.cells (bs z12) 76)) := ((Below.refl _ w).alloc (Nat.le_refl _) _).alloc (by simp) _
  have hz : (bs z12).size = 12 := by rw [bs_size]; rfl
  go_enter Tryz.func81, Tryz.ntmps81
  go_wp2_with (with_reducible (show wpList _ _ _ (⟨_, Op.alloc 76, _, _, _, _⟩ :: _) _ _)
               refine alloc_row rfl 76 rfl (bs z12) (by kernel_rfl) ?_)
  go_loopw [4] (fun iv wr => ∃ (k : Nat) (zs : List By), k ≤ 12 ∧ iv = .int .i64 k ∧ Hid (zs.length = 12) ∧ Hid (∀ j, j < k → gb zs j = gb bb j) ∧ Row wr w.heap.size 76 (bs z12) ∧ Row wr (w.heap.size + 1) 76 (bs zs) ∧ Below w.heap.size w wr)
    (fun iv _ => 12 - (intOf iv).toNat)
  case atStart =>
    exact ⟨0, z12, by omega, rfl, (show z12.length = 12 from rfl), (fun j hj => by omega), r0, r1, b0⟩
  case round =>
    clear r0 r1 b0
    obtain ⟨k, zs, hk, rfl, HL, HD, r0, r1, hbel⟩ := hrel
    by_cases h16 : k < 12
    · have hdk : decide ((k : Int) < 12) = true := by simp; omega
      have cx : wr.cell? ⟨bg, bo + k, none⟩ = some (.int .u8 (v8 (gb bb k))) := (hbel.cell (p := ⟨bg, bo + k, none⟩) hlt).trans (HB.out.cell k h16)
      have cz := r1.cellB (j := k) (by rw [HL.out]; exact h16)
      have fx := r1.frozen k
      generalize hX : gb bb k = X at *
      have HX := veil hX
      clear hX
      go_wp2_with fail
      go_roundw
      case rel =>
        have q1 := r1.set k (.int .u8 (v8 X))
        rw [bs_set] at q1
        refine ⟨k + 1, _, by omega, by go_num, ?_, ?_, r0.other (by show w.heap.size ≠ w.heap.size + 1; omega) _, q1, hbel.setCell (p := ⟨w.heap.size + 1, k, none⟩) (by show w.heap.size ≤ w.heap.size + 1; omega) _⟩
        · show List.length _ = 12
          rw [List.length_set]; exact HL.out
        · intro j hj
          rw [gb_set _ (by rw [HL.out]; exact h16)]
          split
          · rename_i h; subst h; exact HX.out.symm
          · exact HD.out j (by omega)
      case measure => simp [intOf]; omega
    · have hdk : decide ((k : Int) < 12) = false := by simp; omega
      rw [show k = 12 by omega] at HD
      have e : zs = bb := gb_ext (by rw [HL.out, HBL.out]) (fun p hp => HD.out p (by rw [HL.out] at hp; exact hp))
      subst e
      have hsz : (bs zs).size = 12 := by rw [bs_size, HL.out]
      go_wp2_with (first
        | (with_reducible (show wpList _ _ _ (⟨_, Op.load 76 _, _, _, _, _⟩ :: _) _ _)
           refine load_row rfl 76 _ rfl (w.heap.size + 1) rfl _ _ r1 12 5 Tryz.underlying76 (by kernel_rfl) hsz ?_)
        | (with_reducible (show wpList _ _ _ (⟨_, Op.store 76 _ _, _, _, _, _⟩ :: _) _ _)
           refine store_row rfl 76 _ _ rfl w.heap.size (bs zs) rfl rfl _ _ r0 12 (by kernel_rfl) hz hsz (bs_one _) ?_))
      refine bodyPost_ret (result_row rfl _ _ w.heap.size _ _ (r0.put _) 12 5 rfl Tryz.underlying76 (by kernel_rfl) hsz) rfl ⟨rfl, bSetRow hbel (Nat.le_refl _) _⟩

theorem fill_cond (n m : Nat) (h : m ≤ pad16 n) : ((n + m) % 16 ≠ 0) ↔ m < pad16 n := by
  have h1 := pad16_lt n
  have h2 := pad16_sum n
  unfold pad16 at *
  omega
def _root_.Go.Value.sliceLenR : Value → Nat
  | .slice _ n _ => n
  | _ => 0

set_option maxRecDepth 20000 in
set_option maxHeartbeats 1000000 in
theorem refFilled_any (base : Nat) (a : Option Addr) (n c : Nat) (xs : List By) (w : World) (hbase : base ≤ w.heap.size) (hn : n ≤ 4000000) (hown : w.ownsRow base 5 1 (.slice a n c) n (vb xs)) :
    Calls Tryz.prog 125 #[.slice a n c] w fun e w' => ∃ a' c', e = .returned (.slice a' (n + pad16 n) c') ∧ w'.ownsRow base 5 1 (.slice a' (n + pad16 n) c') (n + pad16 n) (vb (fillL xs)) ∧ Below base w w' := by
  obtain ⟨i0, hi, hz0, hz1, hz2⟩ := info_parts (P := Tryz.prog) (e := 5) (z := .int .u8 0) (size := 1) (bytes := 1) (by kernel_rfl)
  have hxl : xs.length = n := by have := hown.1; rw [vb_length] at this; omega
  have HOW := veil hown
  have HNB := veil hn
  clear hown hn
  go_enter Tryz.func125, Tryz.ntmps125
  go_wp2_with fail
  go_loopw [0] (fun lv wr => ∃ (m N : Nat) (a : Option Addr) (c : Nat), m ≤ pad16 n ∧ lv = .slice a N c ∧ Hid (N = n + m) ∧ wr.ownsRow base 5 1 (.slice a N c) N (vb (xs ++ List.replicate m 0)) ∧ Below base w wr)
    (fun lv _ => n + 16 - lv.sliceLenR)
  case atStart => exact ⟨0, n, a, c, Nat.zero_le _, rfl, rfl, by rw [List.replicate_zero, List.append_nil]; exact HOW.out, (Below.refl _ w).mono hbase⟩
  case round =>
    clear HOW
    obtain ⟨m, N, a9, c9, hm, rfl, HNN, hown, hbel⟩ := hrel
    have hpad := pad16_lt n
    have HOWN := veil hown
    have HB9 := veil hbel
    have hsz := Nat.le_trans hbase hbel.size
    clear hown hbel
    by_cases hlt : m < pad16 n
    · have hne : ((N : Int) % 16 != 0) = true := by
        have := (fill_cond n m hm).2 hlt
        rw [HNN.out]
        simp only [bne_iff_ne, ne_eq]
        omega
      go_wp2_with (with_reducible (show wpList _ _ _ (⟨some 9, Op.call _, _, _, _, _⟩ :: _) _ _)
                   refine append_sl rfl _ _ 22 rfl base i0 Tryz.underlying22 hi hz0 hz1 hz2 _ N _ rfl (HOWN.out.alloc _) (rowN wr.heap.size 1 [0]) (rowN_ok (Row.new wr 5 (bs [0])) rfl) rfl (by have := HNB.out; have := HNN.out; show N + 1 ≤ 8388608; omega) (by simp; omega) ?_
                   intro v10 w10 hown10 hgrow10)
      obtain ⟨a10, c10, rfl⟩ := own_shape hown10
      have HB10 := veil ((HB9.out.alloc hsz (.cells (bs [0]) 5)).grown hgrow10 (by simp; omega) (fun k e => (HOWN.out.lt k e).1))
      have HO10 := veil hown10
      clear hown10 hgrow10
      go_wp2_with fail
      go_roundw
      case rel =>
        refine ⟨m + 1, N + 1, a10, c10, by omega, rfl, (show N + 1 = n + (m + 1) by have := HNN.out; omega), ?_, HB10.out⟩
        rw [List.replicate_succ', ← List.append_assoc]
        exact HO10.out
      case measure => show n + 16 - (N + 1) < n + 16 - N; have := HNN.out; omega
    · have hm' : m = pad16 n := by omega
      have hne : ((N : Int) % 16 != 0) = false := by
        have : (n + m) % 16 = 0 := Classical.byContradiction fun h => hlt ((fill_cond n m hm).1 h)
        rw [HNN.out]
        simp only [bne_eq_false_iff_eq]
        omega
      go_wp2_with fail
      go_ret
      have eN : N = n + pad16 n := by have := HNN.out; omega
      subst eN
      refine ⟨_, _, rfl, ?_, HB9.out⟩
      have := HOWN.out
      rw [hm'] at this
      unfold fillL
      rw [hxl]
      exact this

set_option maxRecDepth 20000 in
set_option maxHeartbeats 1000000 in
theorem refEight_any (base : Nat) (a : Option Addr) (n c x : Nat) (xs : List By) (w : World) (hbase : base ≤ w.heap.size) (hn : n ≤ 4000000) (hx : x ≤ 4000000) (hown : w.ownsRow base 5 1 (.slice a n c) n (vb xs)) :
    Calls Tryz.prog 126 #[.slice a n c, .int .i64 (x : Int)] w fun e w' => ∃ a' c', e = .returned (.slice a' (n + 8) c') ∧ w'.ownsRow base 5 1 (.slice a' (n + 8) c') (n + 8) (vb (xs ++ eightL x)) ∧ Below base w w' := by
  obtain ⟨i0, hi, hz0, hz1, hz2⟩ := info_parts (P := Tryz.prog) (e := 5) (z := .int .u8 0) (size := 1) (bytes := 1) (by kernel_rfl)
  have HOW := veil hown
  have HNB := veil hn
  have HXB := veil hx
  clear hown hn hx
  go_enter Tryz.func126, Tryz.ntmps126
  go_wp2_with fail
  go_loopw [0, 5] (fun lv iv wr => ∃ (i N : Nat) (a : Option Addr) (c : Nat), i ≤ 8 ∧ iv = .int .i64 i ∧ lv = .slice a N c ∧ Hid (N = n + i) ∧ wr.ownsRow base 5 1 (.slice a N c) N (vb (xs ++ eightTo x i)) ∧ Below base w wr)
    (fun _ iv _ => 8 - (intOf iv).toNat)
  case atStart => exact ⟨0, n, a, c, Nat.zero_le _, rfl, rfl, rfl, by rw [eightTo_zero, List.append_nil]; exact HOW.out, (Below.refl _ w).mono hbase⟩
  case round =>
    clear HOW
    obtain ⟨i, N, a9, c9, hi8, rfl, rfl, HNN, hown, hbel⟩ := hrel
    have HOWN := veil hown
    have HB9 := veil hbel
    have hsz := Nat.le_trans hbase hbel.size
    clear hown hbel
    by_cases hlt : i < 8
    · have hdk : decide ((i : Int) < 8) = true := by simp; omega
      have hs1 := shr8a (x : Int) i hlt
      have HV := veil (byte_shr x i)
      have hw1 : IntKind.u64.wrap (x : Int) = (x : Int) := by rw [IntKind.wrap_u64]; have := HXB.out; omega
      go_wp2_with (with_reducible (show wpList _ _ _ (⟨some 18, Op.call _, _, _, _, _⟩ :: _) _ _)
                   rw [HV.out]
                   refine append_sl rfl _ _ 22 rfl base i0 Tryz.underlying22 hi hz0 hz1 hz2 _ N _ rfl (HOWN.out.alloc _) (rowN wr.heap.size 1 [byteAt x i]) (rowN_ok (Row.new _ _ _) rfl) rfl (by have := HNB.out; have := HNN.out; show N + 1 ≤ 8388608; omega) (by simp; omega) ?_
                   intro v10 w10 hown10 hgrow10)
      obtain ⟨a10, c10, rfl⟩ := own_shape hown10
      have HB10 := veil ((HB9.out.alloc hsz (.cells #[.int .u8 (v8 (byteAt x i))] 5)).grown hgrow10 (by simp; omega) (fun k e => (HOWN.out.lt k e).1))
      have HO10 := veil hown10
      clear hown10 hgrow10
      go_wp2_with fail
      go_roundw
      case rel =>
        refine ⟨i + 1, N + 1, a10, c10, by omega, by go_num, rfl, (show N + 1 = n + (i + 1) by have := HNN.out; omega), ?_, HB10.out⟩
        rw [eightTo_succ, ← List.append_assoc]
        exact HO10.out
      case measure => simp [intOf]; omega
    · have hdk : decide ((i : Int) < 8) = false := by simp; omega
      obtain rfl : i = 8 := by omega
      go_wp2_with fail
      go_ret
      have eN : N = n + 8 := HNN.out
      subst eN
      exact ⟨_, _, rfl, HOWN.out, HB9.out⟩
end Go.Proofs.YtbheoldakmcppaaGreatDoor

/-! Single operations, once more, for walks by hand. -/
namespace Go.Proofs.YtbheoldakmcppaaGreatDoor
open Go Go.RowKit

section
variable {P : Program} {a : Act} {o : Oper}
theorem run_at (t e : TypeId) (x ix : Operand) (g off len cap j : Nat) (ho : o.op = .indexAddr t x ix) (hx : a.eval x = .slice (some ⟨g, off, none⟩) len cap) (hix : a.eval ix = .int .i64 (j : Int))
    (hu : P.underlying t = some (.slice e)) (hi : (P.info? e).map (·.size) = some 1) (hj : j < len) (W : World) : (execOp a.eval o).run P W = .ok (.value (.pointer (some ⟨g, off + j, none⟩))) W := by
  have hsz : (sizeOf e).run P W = .ok 1 W := by
    cases hq : P.info? e with
    | none => simp [hq] at hi
    | some i =>
      have : i.size = 1 := by simpa [hq] using hi
      simp [sizeOf, typeInfo, hq, this]
  unfold execOp
  simp [ho, hx, hix, Instr.indexAt, asIntOf, run_underlying hu, hj, hsz, Addr.add]
end
section
variable {P : Program} {ops : Array Oper} {Q : Exit → Act → World → Prop} {md : Region.Mode} {S : World → Prop} {fuel : Nat} {listed : Array Bool} {a : Act} {w : World}
/-- What comes up alone, reckons, and makes memory. -/
theorem H_valueW {o : Oper} (i : Nat) (v : Value) (w' : World) (hi : ops[i]? = some o) (hr : Region.ready md ops listed = [i]) (hw : Region.wanted o (yielded ops a.tmps) = true)
    (he : (execOp a.eval o).run P w = .ok (.value v) w') (h : S w' ∧ wpAnyH P md ops Q S fuel (listed.setIfInBounds i true) (a.put o.dst v) w') : wpAnyH P md ops Q S (fuel + 1) listed a w := by
  refine wpAnyH_all hr (by simp) (fun j hj => ?_)
  obtain rfl : j = i := by simpa using hj
  unfold wpOp
  simp only [hi, hw, if_true]
  refine .inl ?_
  unfold Oper.wp
  rw [he]
  exact h
end
end Go.Proofs.YtbheoldakmcppaaGreatDoor

/-! What the document's Xor answers. -/
namespace Go.Proofs.YtbheoldakmcppaaGreatDoor
open Go Go.RowKit

theorem take_snoc (l : List By) (n : Nat) (h : n < l.length) : l.take (n + 1) = l.take n ++ [gb l n] := by
  rw [List.take_succ_eq_append_getElem h]
  unfold gb
  rw [List.getElem?_eq_getElem h]
  rfl

set_option maxRecDepth 20000 in
set_option maxHeartbeats 2000000 in
theorem refXor_ok (key : List By) (count : Wd) (nonce : List By) (hk : key.length = 32) (hn : nonce.length = 12) (b : SL) (w : World) (hb : b.Ok w) (hG : ¬ Great count b.len) :
    Calls Tryz.prog 82 #[.agg (bs key), .int .u32 (u count), .agg (bs nonce), .slice b.a b.len b.cap] w fun e w' => ∃ v, e = .returned (.tuple #[v, .int .i64 0]) ∧ w'.ownsRow w.heap.size 5 1 v b.len (vb (xorL key count nonce b.b)) ∧ Below w.heap.size w w' := by
  obtain ⟨i0, hi, hz0, hz1, hz2⟩ := info_parts (P := Tryz.prog) (e := 5) (z := .int .u8 0) (size := 1) (bytes := 1) (by kernel_rfl)
  have HK := veil hk
  have HN := veil hn
  have HB := veil hb
  have hbl := hb.hb
  have hgb : 0 < b.len → b.g < w.heap.size := hb.lt
  have hkz : (bs key).size = 32 := by rw [bs_size, hk]
  have hnz : (bs nonce).size = 12 := by rw [bs_size, hn]
  unfold Great at hG
  have u0 := u_nn count
  have u1 := u_le count
  have hl : b.len ≤ 1048576 := by omega
  clear hk hn hb
  have hw1 : IntKind.u64.wrap ((b.len : Int) + 63) = (b.len : Int) + 63 := by rw [IntKind.wrap_u64]; omega
  have hl1 : decide ((1048576 : Int) < (b.len : Int)) = false := by rw [decide_eq_false_iff_not]; omega
  have hc1 : decide ((4294967296 : Int) < u count + ((b.len : Int) + 63) / 64) = false := by rw [decide_eq_false_iff_not]; omega
  have HX := veil (xorL_length key count nonce b.b)
  have HXG : Hid (∀ i j, 64 * i + j < b.len → j < 64 → gb (xorL key count nonce b.b) (64 * i + j) = xb (gb b.b (64 * i + j)) (gb (blockL key (cnt count i) nonce) j)) := show ∀ i j, 64 * i + j < b.len → j < 64 → gb (xorL key count nonce b.b) (64 * i + j) = xb (gb b.b (64 * i + j)) (gb (blockL key (cnt count i) nonce) j) from fun i j h1 h2 => by
    rw [xorL_gb _ _ _ _ _ (by rw [hbl]; exact h1)]
    unfold sby
    rw [show (64 * i + j) / 64 = i by omega, show (64 * i + j) % 64 = j by omega]
  rw [hbl] at HX
  generalize xorL key count nonce b.b = X at *
  go_enter Tryz.func82, Tryz.ntmps82
  go_wp2_with fail
  go_loopw [11, 12] (fun v iv wr => ∃ i : Nat, 64 * i < b.len + 64 ∧ iv = .int .i64 (64 * (i : Int)) ∧ wr.ownsRow (w.heap.size + 2) 5 1 v (min b.len (64 * i)) (vb (X.take (64 * i))) ∧ Row wr w.heap.size 78 (bs key) ∧ Row wr (w.heap.size + 1) 76 (bs nonce) ∧ Below w.heap.size w wr)
    (fun _ iv _ => b.len + 64 - (intOf iv).toNat)
  case atStart =>
    exact ⟨0, by omega, by simp, by simp only [Nat.mul_zero, Nat.min_zero, List.take_zero]; exact World.ownsRow_nil _ _ _ _, (Row.new _ _ _).alloc _, Row.new1 _ _ _ _, ((Below.refl _ w).alloc (Nat.le_refl _) _).alloc (by simp) _⟩
  case round =>
    obtain ⟨i, hi64, rfl, hown, rK, rN, hbel⟩ := hrel
    by_cases hlt : 64 * i < b.len
    · have hp : (64 * (i : Int)) < (b.len : Int) := by omega
      have hq : (64 * (i : Int)) / 64 = (i : Int) := by omega
      have hcw : IntKind.u32.wrap (i : Int) = (i : Int) := by rw [IntKind.wrap_u32']; omega
      have hct := u_cnt count i (by omega)
      have hcn : u count + (i : Int) = u (cnt count i) := by rw [← hct]; omega
      have HOW := veil hown
      clear hown
      go_wp2_with (first
        | (with_reducible (show wpList _ _ _ (⟨_, Op.load 78 _, _, _, _, _⟩ :: _) _ _)
           refine load_row rfl 78 _ rfl w.heap.size rfl _ _ rK 32 5 Tryz.underlying78 (by kernel_rfl) hkz ?_)
        | (with_reducible (show wpList _ _ _ (⟨_, Op.load 76 _, _, _, _, _⟩ :: _) _ _)
           refine load_row rfl 76 _ rfl (w.heap.size + 1) rfl _ _ rN 12 5 Tryz.underlying76 (by kernel_rfl) hnz ?_))
      refine (chaRefBlock_any key (cnt count i) nonce HK.out HN.out wr).mono ?_
      rintro e3 w3 ⟨rfl, hb3⟩
      have HXI : Hid (∀ j, 64 * i + j < b.len → j < 64 → gb X (64 * i + j) = xb (gb b.b (64 * i + j)) (gb (blockL key (cnt count i) nonce) j)) := HXG.out i
      have HD64 := veil (blockL_length key (cnt count i) nonce)
      generalize blockL key (cnt count i) nonce = D at *
--{
      have hs3 := hb3.size
      have own4 := own_below (own_below HOW.out hb3) ((Below.refl _ w3).alloc (Nat.le_refl _) (.cells (bs D) 187))
      have rK4 := (rK.below hb3 rK.lt).alloc (.cells (bs D) 187)
      have rN4 := (rN.below hb3 rN.lt).alloc (.cells (bs D) 187)
      have rD4 : Row (w3.alloc (.cells (bs D) 187)) w3.heap.size 187 (bs D) := Row.new _ _ _
      have b4 := (hbel.trans (hb3.mono hbel.size)).alloc (by have := hbel.size; omega) (.cells (bs D) 187)
      have hD : (bs D).size = 64 := by rw [bs_size, HD64.out]
      have hsw := hbel.size
      rw [show min b.len (64 * i) = 64 * i by omega] at own4
      clear hb3 HOW rK rN hbel hct hcw hq hcn
      go_wp2_with (first
        | (with_reducible (show wpList _ _ _ (⟨_, Op.alloc 187, _, _, _, _⟩ :: _) _ _)
           refine alloc_row rfl 187 rfl (bs (List.replicate 64 0)) (by kernel_rfl) ?_)
        | (with_reducible (show wpList _ _ _ (⟨_, Op.store 187 _ _, _, _, _, _⟩ :: _) _ _)
           refine store_new (w := w3) (by rfl) 187 _ _ (by rfl) w3.heap.size (bs D) (by rfl) (by rfl) 187 _ (by rfl) 64 (by kernel_rfl) (by rfl) hD (bs_one _) ?_))
      go_loopw [11, 14] (fun v jv wr => ∃ j : Nat, j ≤ 64 ∧ 64 * i + j ≤ b.len ∧ jv = .int .i64 (j : Int) ∧ wr.ownsRow (w.heap.size + 2) 5 1 v (64 * i + j) (vb (X.take (64 * i + j))) ∧ Row wr w3.heap.size 187 (bs D) ∧ Row wr w.heap.size 78 (bs key) ∧ Row wr (w.heap.size + 1) 76 (bs nonce) ∧ Below w.heap.size w wr)
        (fun _ jv _ => 64 - (intOf jv).toNat)
      case atStart => exact ⟨0, by omega, by omega, rfl, own4, rD4, rK4, rN4, b4⟩
      case round =>
        clear own4 rD4 rK4 rN4 b4
        obtain ⟨j, hj, hjn, rfl, hown, rD, rK, rN, hbel⟩ := hrel
        by_cases hgo : j < 64 ∧ 64 * i + j < b.len
        · obtain ⟨hj64, hjl⟩ := hgo
          have hba : b.a = some ⟨b.g, b.off, none⟩ := HB.out.at_ (by omega)
          have hd1 : decide ((j : Int) < 64) = true := by rw [decide_eq_true_iff]; omega
          have hd2 : decide (64 * (i : Int) + (j : Int) < (b.len : Int)) = true := by rw [decide_eq_true_iff]; omega
          have hwa : IntKind.i64.wrap (64 * (i : Int) + (j : Int)) = 64 * (i : Int) + (j : Int) := by rw [IntKind.wrap_i64]; omega
          have HOW := veil hown
          have HXV : Hid (X.take (64 * i + j + 1) = X.take (64 * i + j) ++ [xb (gb b.b (64 * i + j)) (gb D j)]) := show _ = _ by rw [take_snoc X _ (by rw [HX.out]; exact hjl), HXI.out j hjl hj64]
          have hbg := hgb (by omega)
          clear hown
          rw [hba]
          go_wp2_with fail
          refine wp_region_held (S := fun W => Row W w3.heap.size 187 (bs D) ∧ b.Ok W) (by kernel_rfl) ?_
          have hS0 : Row wr.drew w3.heap.size 187 (bs D) ∧ b.Ok wr.drew := ⟨rD.drew, (HB.out.below hbel).same (fun _ => rfl) (Nat.le_refl _)⟩
          have own0 : wr.drew.ownsRow (w.heap.size + 2) 5 1 u11 (64 * i + j) (vb (X.take (64 * i + j))) := HOW.out
          have rK0 := rK.drew
          have rN0 := rN.drew
          have b0 := hbel.drew
          show wpAnyH _ _ _ _ _ _ _ _ wr.drew
          generalize wr.drew = V0 at *
          refine wpAnyH_take (i := 0) (v := u11) rfl (by kernel_rfl) (by kernel_rfl) (by kernel_rfl) (fun _ _ _ h => h) (.inl ⟨by kernel_rfl, fun W h => by kernel_rfl⟩) hS0 ?_
          refine wpAnyH_take (i := 1) (v := .slice (some ⟨b.g, b.off, none⟩) b.len b.cap) rfl (by kernel_rfl) (by kernel_rfl) (by kernel_rfl) (fun _ _ _ h => h) (.inl ⟨by kernel_rfl, fun W h => by kernel_rfl⟩) hS0 ?_
          refine wpAnyH_take (i := 2) (v := .int .i64 (64 * (i : Int))) rfl (by kernel_rfl) (by kernel_rfl) (by kernel_rfl) (fun _ _ _ h => h) (.inl ⟨by kernel_rfl, fun W h => by kernel_rfl⟩) hS0 ?_
          refine wpAnyH_take (i := 3) (v := .int .i64 (j : Int)) rfl (by kernel_rfl) (by kernel_rfl) (by kernel_rfl) (fun _ _ _ h => h) (.inl ⟨by kernel_rfl, fun W h => by kernel_rfl⟩) hS0 ?_
          refine wpAnyH_take (i := 4) (v := .int .i64 (64 * (i : Int) + (j : Int))) rfl (by kernel_rfl) (by kernel_rfl) (by kernel_rfl) (fun _ _ _ h => h) (.inl ⟨by kernel_rfl, fun W h => by go_simp⟩) hS0 ?_
          refine wpAnyH_take (i := 5) (v := .pointer (some ⟨b.g, b.off + (64 * i + j), none⟩)) rfl (by kernel_rfl) (by kernel_rfl) (by kernel_rfl) (fun _ _ _ h => h) (.inl ⟨by kernel_rfl, fun W h => run_at 22 5 _ _ b.g b.off b.len b.cap (64 * i + j) rfl (by kernel_rfl) (by kernel_rfl) Tryz.underlying22 (by kernel_rfl) hjl W⟩) hS0 ?_
          refine wpAnyH_take (i := 6) (v := .int .u8 (v8 (gb b.b (64 * i + j)))) rfl (by kernel_rfl) (by kernel_rfl) (by kernel_rfl) (fun _ _ _ h => h) (.inl ⟨by kernel_rfl, fun W h => run_cell 5 _ ⟨b.g, b.off + (64 * i + j), none⟩ _ _ rfl (by kernel_rfl) Tryz.underlying5 rfl W (h.2.cell (64 * i + j) hjl)⟩) hS0 ?_
          refine wpAnyH_take (i := 7) (v := .int .i64 (j : Int)) rfl (by kernel_rfl) (by kernel_rfl) (by kernel_rfl) (fun _ _ _ h => h) (.inl ⟨by kernel_rfl, fun W h => by kernel_rfl⟩) hS0 ?_
          refine wpAnyH_take (i := 8) (v := .pointer (some ⟨w3.heap.size, j, none⟩)) rfl (by kernel_rfl) (by kernel_rfl) (by kernel_rfl) (fun _ _ _ h => h) (.inl ⟨by kernel_rfl, fun W h => run_addr 187 5 64 _ _ w3.heap.size j rfl (by kernel_rfl) (by kernel_rfl) Tryz.underlying187 (by kernel_rfl) hj64 W⟩) hS0 ?_
          refine wpAnyH_take (i := 9) (v := .int .u8 (v8 (gb D j))) rfl (by kernel_rfl) (by kernel_rfl) (by kernel_rfl) (fun _ _ _ h => h) (.inl ⟨by kernel_rfl, fun W h => run_cell 5 _ ⟨w3.heap.size, j, none⟩ _ _ rfl (by kernel_rfl) Tryz.underlying5 rfl W (h.1.cellB (j := j) (by rw [HD64.out]; exact hj64))⟩) hS0 ?_
          refine wpAnyH_take (i := 10) (v := .int .u8 (v8 (xb (gb b.b (64 * i + j)) (gb D j)))) rfl (by kernel_rfl) (by kernel_rfl) (by kernel_rfl) (fun _ _ _ h => h) (.inl ⟨by kernel_rfl, fun W h => by go_simp; exact bxb _ _⟩) hS0 ?_
          obtain ⟨V1, hV1⟩ : ∃ V1, V1 = V0.alloc (.cells #[.int .u8 (v8 (xb (gb b.b (64 * i + j)) (gb D j)))] 5) := ⟨_, rfl⟩
          have hbV1 : Below V0.heap.size V0 V1 := by rw [hV1]; exact (Below.refl _ V0).alloc (Nat.le_refl _) _
          have rV1 : Row V1 V0.heap.size 5 (bs [xb (gb b.b (64 * i + j)) (gb D j)]) := by rw [hV1]; exact Row.new _ _ _
          have hS1 : Row V1 w3.heap.size 187 (bs D) ∧ b.Ok V1 := ⟨hS0.1.below hbV1 hS0.1.lt, hS0.2.below hbV1⟩
          refine H_valueW 11 (.slice (some ⟨V0.heap.size, 0, none⟩) 1 1) V1 rfl (by kernel_rfl) (by kernel_rfl) (by rw [hV1]; go_simp) ⟨hS1, ?_⟩
          have own1 := own_below own0 hbV1
          obtain ⟨v9, V2, hr3, own9, hg9, _⟩ := run_append_own (P := Tryz.prog) V1 (w.heap.size + 2) 22 22 5 i0 (.int .u8 0) 1 1 Tryz.underlying22 hi hz0 hz1 hz2 rfl (by decide) u11 (64 * i + j) _ own1 ⟨V0.heap.size, 0, none⟩ 1 1 (vb [xb (gb b.b (64 * i + j)) (gb D j)]) (by rw [vb_length]; rfl)
            (fun q x hq => by obtain ⟨h1, rfl⟩ := vb_get' _ q x hq; rw [add_off]; exact rV1.cellB h1) (vb_one _) (by unfold maxLen; omega) (by omega) (by have := hbV1.size; have := b0.size; have := rN0.lt; omega)
          rw [← vb_append, ← HXV.out] at own9
          have hob : ∀ y, u11.ownBlock = some y → w.heap.size + 2 ≤ y ∧ y ≠ w3.heap.size := fun y hy => by
            rcases own1.2 with ⟨rfl, _⟩ | ⟨g, cap, cur, rfl, hg, hh, _⟩
            · cases hy
            · obtain rfl : g = y := by simpa [Value.ownBlock] using hy
              refine ⟨hg, fun e => ?_⟩
              have := hS1.1
              unfold Row at this
              rw [e, this] at hh
              injection hh with hh
              injection hh with _ ht _
              exact absurd ht (by decide)
          have hS2 : Row V2 w3.heap.size 187 (bs D) ∧ b.Ok V2 := ⟨(hg9.block _ hS1.1.lt (fun e => (hob _ e.symm).2 rfl)).trans hS1.1, hS1.2.same (fun _ => hg9.block _ (by have := hbV1.size; have := b0.size; omega) (fun e => by have := (hob _ e.symm).1; omega)) hg9.size⟩
          have rK1 := rK0.below hbV1 rK0.lt
          have rN1 := rN0.below hbV1 rN0.lt
          have rK2 : Row V2 w.heap.size 78 (bs key) := (hg9.block _ rK1.lt (fun e => by have := (hob _ e.symm).1; omega)).trans rK1
          have rN2 : Row V2 (w.heap.size + 1) 76 (bs nonce) := (hg9.block _ rN1.lt (fun e => by have := (hob _ e.symm).1; omega)).trans rN1
          have b1 := b0.trans (hbV1.mono b0.size)
          have b2 : Below w.heap.size w V2 := b1.grown hg9 b1.size (fun y e => by have := (hob _ e).1; omega)
          refine H_valueW 12 v9 V2 rfl (by kernel_rfl) (by kernel_rfl) (exec_append _ _ _ _ rfl _ _ (by kernel_rfl) (by kernel_rfl) _ V2 hr3) ⟨hS2, ?_⟩
          refine wpAnyH_take (i := 13) (v := v9) rfl (by kernel_rfl) (by kernel_rfl) (by kernel_rfl) (fun _ _ _ h => h) (.inl ⟨by kernel_rfl, fun W h => by kernel_rfl⟩) hS2 ?_
          go_simp
          refine wpAnyH_done (by kernel_rfl) ?_ _
          go_wp2_with fail
          go_roundw
          case rel => exact ⟨j + 1, by omega, by omega, by go_num, own9, hS2.1, rK2, rN2, b2⟩
          case measure => simp only [intOf]; omega
        · have hend : 64 * i + j = min b.len (64 * (i + 1)) := by omega
          have hown2 : wr.ownsRow (w.heap.size + 2) 5 1 u11 (min b.len (64 * (i + 1))) (vb (X.take (64 * (i + 1)))) := by
            have e : X.take (64 * (i + 1)) = X.take (64 * i + j) := by
              by_cases h64 : j = 64
              · rw [h64]; rfl
              · rw [List.take_of_length_le (by rw [HX.out]; omega), List.take_of_length_le (by rw [HX.out]; omega)]
            rw [e, ← hend]
            exact hown
          have HOW := veil hown2
          clear hown hown2
          by_cases hj64 : j < 64
          · have hd1 : decide ((j : Int) < 64) = true := by rw [decide_eq_true_iff]; omega
            have hd2 : decide (64 * (i : Int) + (j : Int) < (b.len : Int)) = false := by rw [decide_eq_false_iff_not]; omega
            have hwa : IntKind.i64.wrap (64 * (i : Int) + (j : Int)) = 64 * (i : Int) + (j : Int) := by rw [IntKind.wrap_i64]; omega
            go_wp2_with fail
            go_roundw
            case rel => exact ⟨i + 1, by omega, by go_num, HOW.out, rK, rN, hbel⟩
            case measure => simp only [intOf]; omega
          · have hd1 : decide ((j : Int) < 64) = false := by rw [decide_eq_false_iff_not]; omega
            go_wp2_with fail
            go_roundw
            case rel => exact ⟨i + 1, by omega, by go_num, HOW.out, rK, rN, hbel⟩
            case measure => simp only [intOf]; omega
    · have hd1 : decide (64 * (i : Int) < (b.len : Int)) = false := by rw [decide_eq_false_iff_not]; omega
      rw [show min b.len (64 * i) = b.len by omega, List.take_of_length_le (by rw [HX.out]; omega)] at hown
      have HOW := veil hown
      clear hown
      go_wp2_with fail
      go_ret2
      exact ⟨_, rfl, own_low HOW.out (by omega), hbel⟩
end Go.Proofs.YtbheoldakmcppaaGreatDoor
