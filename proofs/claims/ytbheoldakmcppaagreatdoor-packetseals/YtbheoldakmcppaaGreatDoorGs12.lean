/-
  Out of KyStep, KyHex.
-/
import Derived.Test.YtbheoldakmcppaaGreatDoorRows
import Derived.Test.YtbheoldakmcppaaGreatDoorGs15
import Derived.Laws.AppendOwnNone
import Derived.Deep.RegionLaw
import Derived.Test.YtbheoldakmcppaaGreatDoorGs29
import Derived.Test.YtbheoldakmcppaaGreatDoorGs18
import Derived.Deep.RegionHeld3
import Derived.Deep.AppendLies
import Derived.BigRegion

/-! 'append(b, more...)' onto a row of the call's own, in a region that draws its order. -/
namespace Go.Proofs.YtbheoldakmcppaaGreatDoor
open Go Go.RowKit

set_option maxRecDepth 20000
theorem Tryz.infoByteS : (Tryz.prog.info? 5).map (fun i => (i.zero, i.size, i.bytes)) = some (some (.int .u8 0), 1, 1) := by kernel_rfl
theorem wp_append_sl {o : Oper} {a : Act} {w : World} {K : Act → World → Prop} {Q : Exit → Act → World → Prop} (s x : Operand)
    (ho : o.op = .call { callee := .builtin .append, args := #[s, x], argTypes := #[22, 22] }) (base : Nat) (v : Value) (n : Nat) (xs : List By) (hs : a.eval s = v) (hown : w.ownsRow base 5 1 v n (vb xs))
    (q : SL) (hx : a.eval x = .slice q.a q.len q.cap) (hq : q.Ok w) (hl : n + q.len ≤ 8388608) (hbase : base ≤ w.heap.size)
    (h : ∀ v' w', w'.ownsRow base 5 1 v' (n + q.len) (vb (xs ++ q.b)) → w.grownBy w' v.ownBlock → K (a.put o.dst v') w') : o.wp Tryz.prog a w K Q := by
  obtain ⟨i0, hi, hz0, hz1, hz2⟩ := info_parts Tryz.infoByteS
  obtain ⟨ad, len, cap, g, off, b⟩ := q
  cases ad with
  | none =>
    obtain ⟨h1, h2⟩ := hq.nil rfl
    simp only at h1 h2
    subst h1 h2
    have hb0 : b = [] := List.eq_nil_of_length_eq_zero hq.hb
    subst hb0
    have hrun := run_append_owned_none (P := Tryz.prog) (w := w) base 22 o.type 5 i0 1 Tryz.underlying22 hi _ n _ hown
    unfold Oper.wp
    simp [execOp, ho, resolve, invoke, builtin, hs, hx, hrun, Result.andThen]
    exact h v w (by simpa using hown) (World.grownBy.refl _ _)
  | some ad =>
    have hb : b.length = len := hq.hb
    refine wp_append_own w s x 22 ho base 5 i0 (.int .u8 0) 1 1 Tryz.underlying22 hi hz0 hz1 hz2 rfl (by decide) v n (vb xs) hs hown ad len cap (vb b) hx (by rw [vb_length, hb, Nat.mul_one]) ?_ (vb_one b) (by unfold maxLen; simp only at hl; omega) (by simp only at hl; omega) hbase ?_
    · intro j u hj
      obtain ⟨h1, rfl⟩ := vb_get' b j u hj
      have e := hq.at_ (show 0 < len by omega)
      simp only at e
      injection e with e
      subst e
      rw [add_at]
      exact hq.cell j (show j < len by omega)
    · intro v' w' h1 h2 _
      rw [← vb_append] at h1
      exact h v' w' h1 h2
theorem step_append_sl {ops : Array Oper} {o : Oper} {a : Act} {w : World} {K : Act → World → Prop} {Q : Exit → Act → World → Prop} {E : Prop} (hgd : o.guard = none) (s x : Operand)
    (ho : o.op = .call { callee := .builtin .append, args := #[s, x], argTypes := #[22, 22] }) (base : Nat) (v : Value) (n : Nat) (xs : List By) (hs : a.eval s = v) (hown : w.ownsRow base 5 1 v n (vb xs))
    (q : SL) (hx : a.eval x = .slice q.a q.len q.cap) (hq : q.Ok w) (hl : n + q.len ≤ 8388608) (hbase : base ≤ w.heap.size)
    (h : ∀ v' w', w'.ownsRow base 5 1 v' (n + q.len) (vb (xs ++ q.b)) → w.grownBy w' v.ownBlock → K (a.put o.dst v') w') :
    if Region.wanted o (yielded ops a.tmps) = true then Oper.wp Tryz.prog o a w K Q else E := by
  have hw : Region.wanted o (yielded ops a.tmps) = true := by simp [Region.wanted, hgd]
  rw [if_pos hw]
  exact wp_append_sl s x ho base v n xs hs hown q hx hq hl hbase h
/-- What an append leaves, as a slice. -/
theorem sl_of_own {w : World} {base : Nat} {v : Value} {n : Nat} {xs : List By} (h : w.ownsRow base 5 1 v n (vb xs)) : ∃ p : SL, v = .slice p.a p.len p.cap ∧ p.len = n ∧ p.b = xs ∧ p.Ok w := by
  obtain ⟨p, h1, h2, h3, h4, _⟩ := SL.of_own h
  exact ⟨p, h1.symm, h2, h3, h4⟩
end Go.Proofs.YtbheoldakmcppaaGreatDoor

/-! What unhex answers of a text. -/
namespace Go.Proofs.YtbheoldakmcppaaGreatDoor
open Go Go.RowKit

set_option maxHeartbeats 1000000 in
theorem digit_any (c : By) (w : World) : Calls Tryz.prog 130 #[.int .u8 (v8 c)] w fun e w' => e = .returned (.int .u8 (v8 (digB c))) ∧ w' = w := by
  have hc : 0 ≤ v8 c ∧ v8 c < 256 := by unfold v8; have := c.isLt; omega
  by_cases h : (97 : Int) ≤ v8 c
  · have hd : v8 (digB c) = IntKind.u8.wrap (IntKind.u8.wrap (v8 c - 97) + 10) := by
      rw [IntKind.wrap_u8, IntKind.wrap_u8]
      unfold digB
      rw [if_pos h]
      unfold v8 at *
      rw [BitVec.toNat_add, BitVec.toNat_sub]
      simp
      omega
    rw [hd]
    clear hd
    generalize v8 c = z at *
    go_enter Tryz.func130, Tryz.ntmps130
    go_wp2
    go_ret
    exact ⟨by simp; rw [IntKind.wrap_u8, IntKind.wrap_u8]; omega, rfl⟩
  · have hd : v8 (digB c) = IntKind.u8.wrap (v8 c - 48) := by
      rw [IntKind.wrap_u8]
      unfold digB
      rw [if_neg h]
      unfold v8 at *
      rw [BitVec.toNat_sub]
      simp
      omega
    rw [hd]
    clear hd
    generalize v8 c = z at *
    go_enter Tryz.func130, Tryz.ntmps130
    go_wp2
    go_ret
    exact ⟨by simp; rw [IntKind.wrap_u8], rfl⟩

theorem index_str (s : ByteArray) (m : Nat) (h : m < s.size) (W : World) : (Instr.index 9 (.string s) (.int .i64 (m : Int))).run Tryz.prog W = .ok (.int .u8 (v8 (gb (bOf s) m))) W := by
  rw [run_index_string _ _ _ _ _ Tryz.underlying9, dif_pos ⟨by omega, by omega⟩]
  have e : ((s[((m : Int)).toNat]'(by simpa using h)).toNat : Int) = v8 (gb (bOf s) m) := by
    rw [← bOf_get s m h]
    congr 1
    simp [List.getD, h, ByteArray.getElem_eq_getElem_data]
  rw [e]

set_option maxRecDepth 20000 in
set_option maxHeartbeats 2000000 in
theorem unhex_any (s : ByteArray) (hs : s.size ≤ 1000) (w : World) :
    Calls Tryz.prog 110 #[.string s] w fun e w' => ∃ p : SL, e = .returned (.slice p.a p.len p.cap) ∧ p.Ok w' ∧ p.b = unhexL (bOf s) ∧ Below w.heap.size w w' := by
  go_enter Tryz.func110, Tryz.ntmps110
  go_wp2
  go_loopw [3, 4] (fun out i wr => ∃ k m : Nat, Hid (m = 2 * k) ∧ m ≤ s.size ∧ i = .int .i64 (m : Int) ∧ wr.ownsRow w.heap.size 5 1 out k (vb (unhexTo (bOf s) k)) ∧ Below w.heap.size w wr)
    (fun _ i _ => s.size - (intOf i).toNat)
  case atStart => exact ⟨0, 0, rfl, Nat.zero_le _, rfl, World.ownsRow_nil _ _ _ _, Below.refl _ _⟩
  case round =>
    obtain ⟨k, m, hm, hle, rfl, hown, hbel⟩ := hrel
    have HO := veil hown
    have HB := veil hbel
    clear hown hbel
    by_cases hlt : m + 1 < s.size
    · have hx0 := index_str s m (by omega)
      obtain ⟨M1, hM1⟩ : ∃ M1, m + 1 = M1 := ⟨_, rfl⟩
      have hx1 := index_str s M1 (by omega)
      have hpl : (m : Int) + 1 = (M1 : Int) := by omega
      have hwr : IntKind.i64.wrap (M1 : Int) = (M1 : Int) := by rw [IntKind.wrap_i64]; omega
      have hmul : IntKind.u8.wrap (v8 (digB (gb (bOf s) m)) * 16) = v8 (digB (gb (bOf s) m) * 16#8) := by
        rw [IntKind.wrap_u8]
        unfold v8
        rw [BitVec.toNat_mul]
        simp
      have hadd : IntKind.u8.wrap (v8 (digB (gb (bOf s) m) * 16#8) + v8 (digB (gb (bOf s) M1))) = v8 (pairB (bOf s) k) := by
        rw [IntKind.wrap_u8]
        unfold v8 pairB
        rw [← hm.out, hM1, BitVec.toNat_add]
        simp
      have hd : decide ((M1 : Int) < (s.size : Int)) = true := decide_eq_true (by omega)
      have HM1 := veil hM1
      clear hM1
      obtain ⟨y, hy⟩ : ∃ y, pairB (bOf s) k = y := ⟨_, rfl⟩
      rw [hy] at hadd
      have HY := veil hy
      clear hy
      have hok : (rowN wr.heap.size 1 [y]).Ok (wr.alloc (.cells #[.int .u8 (v8 y)] 5)).drew := (rowN_ok (t := 5) (Row.new wr 5 (bs [y])) rfl).below ((Below.refl _ _).drew)
      have HOK := veil hok
      clear hok
      go_wp2_with fail
      go_region_held3 (fun _ => True) (trivial) (first
        | (go_at_call 130; refine (digit_any _ _).mono ?_; rintro e9 w9 ⟨rfl, rfl⟩)
        | (refine step_append_sl rfl _ _ rfl w.heap.size _ k (unhexTo (bOf s) k) rfl (HO.out.alloc _).drew (rowN wr.heap.size 1 [y]) rfl HOK.out (by show k + 1 ≤ 8388608; have := hm.out; omega) (by have := HB.out.size; simp; omega) ?_; intro v' w' hown2 hgrow))
      all_goals
        have hs := HB.out.size
        have b2 : Below w.heap.size w w' := ((HB.out.alloc hs _).drew).grown hgrow (by simp; omega) (fun j e => (HO.out.lt j e).1)
        have hown3 : w'.ownsRow w.heap.size 5 1 v' (k + 1) (vb (unhexTo (bOf s) (k + 1))) := by
          rw [unhexTo_succ, HY.out]
          exact hown2
        have HO3 := veil hown3
        have HB3 := veil b2
        clear hown2 hgrow hown3 b2 hx0 hx1 hmul hadd
        go_wp2_with fail
        exact ⟨⟨k + 1, m + 2, show _ = _ by have := hm.out; omega, by have := HM1.out; omega, by go_num, HO3.out, HB3.out⟩, by have := HM1.out; simp [intOf]; omega⟩
    · have hd : decide ((m : Int) + 1 < (s.size : Int)) = false := decide_eq_false (by omega)
      have hfin : unhexTo (bOf s) k = unhexL (bOf s) := by
        unfold unhexL
        rw [bOf_length]
        have := hm.out
        rw [show s.size / 2 = k by omega]
      obtain ⟨p, hp1, hp2, hp3, hp4⟩ := sl_of_own HO.out
      rw [hfin] at hp3
      have HP4 := veil hp4
      have HP3 := veil hp3
      clear hp3 hp4 hp2 hfin hm
      subst hp1
      go_wp2_with fail
      go_ret
      exact ⟨p, rfl, HP4.out, HP3.out, HB.out⟩
end Go.Proofs.YtbheoldakmcppaaGreatDoor
