/-
  What the document's Take answers.
-/
import Derived.Test.YtekgdljbninjiaaDoorGpPcRef
import Derived.Test.YtekgdljbninjiaaDoorGpPcTake
import Derived.Lib.AppendZeros
import Derived.Test.YtekgdljbninjiaaDoorGp3
namespace Go.Proofs.YtekgdljbninjiaaDoor
open Go Go.RowKit Go.Maps Go.Shelf

theorem Mid.zero {w : World} {a : Option Addr} {len g off : Nat} {xs : List Value} (h : Mid w a len 0 g off xs) (g' : Nat) : Mid w a len 0 g' off xs :=
  ⟨h.le, h.max, fun p => absurd p (Nat.lt_irrefl _), fun p => absurd p (Nat.lt_irrefl _), h.xl, fun j u hu => by
    have := (List.getElem?_eq_some_iff.1 hu).1
    have := h.xl
    have := h.le
    omega, fun j hj => absurd hj (Nat.not_lt_zero _)⟩
/-- The bytes of a slice that begins with these. -/
theorem Mid.head {w : World} {a : Option Addr} {len cap g off : Nat} {xs : List Value} (h : Mid w a len cap g off xs) {k : Nat} (hk : k ≤ len) (ts : List By) (hl : ts.length = k) (hx : ∀ j, j < k → xs[j]? = some (.int .u8 (v8 (gb ts j)))) :
    (∀ W, (Instr.sliceAt 49 (.slice a len cap) .none (some (.int .i64 (k : Int))) .none).run Tryd.prog W = .ok (.slice a k cap) W) ∧ (SL.mk a k cap g off ts).Ok w := by
  have hle := h.le
  refine ⟨fun W => ?_, hl, by show k ≤ cap; omega, fun e => ?_, fun p => h.addr (by have : 0 < k := p; omega), fun p => h.lt (by have : 0 < k := p; omega), fun j hj => h.cell j _ (hx j hj)⟩
  · cases a with
    | none =>
      obtain rfl : cap = 0 := by
        rcases Nat.eq_zero_or_pos cap with e0 | e0
        · exact e0
        · have := h.addr e0; cases this
      obtain rfl : k = 0 := by omega
      simp [Instr.sliceAt, Instr.slice, Instr.sliceBounds, Instr.sliceBound, asIntOf, run_underlying Tryd.underlying49]
    | some b =>
      have hb0 : b.add 0 = b := by cases b; simp [Addr.add]
      simp [Instr.sliceAt, Instr.slice, Instr.sliceBounds, Instr.sliceBound, asIntOf, run_underlying Tryd.underlying49, show k ≤ cap by omega, hb0]
  · have ea : a = .none := e
    rcases Nat.eq_zero_or_pos cap with e0 | e0
    · exact ⟨by show k = 0; omega, e0⟩
    · have := h.addr e0; rw [ea] at this; cases this
theorem tlR_drop (S : PS) (k n : Nat) : (tlR S.f S.read n).drop k = tlR (Pc.mid S k).f (S.read + k) (n - k) := by
  refine List.ext_getElem? fun j => ?_
  rw [List.getElem?_drop]
  by_cases h : k + j < n
  · rw [tlR_at _ _ h, tlR_at _ _ (by omega)]
    show _ = some (Value.bool (Option.isSome (if _ then _ else _)))
    rw [if_neg (by omega), Nat.add_assoc]
  · rw [List.getElem?_eq_none (by unfold tlR; simp; omega), List.getElem?_eq_none (by unfold tlR; simp; omega)]
theorem blR_drop (S : PS) (k n : Nat) : (blR S.f S.read n).drop k = blR (Pc.mid S k).f (S.read + k) (n - k) := by
  refine List.ext_getElem? fun j => ?_
  rw [List.getElem?_drop]
  by_cases h : k + j < n
  · rw [blR_at _ _ h, blR_at _ _ (by omega)]
    show _ = some (Value.int .u8 (ob (if _ then _ else _)))
    rw [if_neg (by omega), Nat.add_assoc]
  · rw [List.getElem?_eq_none (by unfold blR; simp; omega), List.getElem?_eq_none (by unfold blR; simp; omega)]
theorem take_sum {f : Nat → Option By} {r N k : Nat} (hk : k ≤ N) (hall : ∀ j, j < k → (f (r + j)).isSome = true) (hend : k = N ∨ f (r + k) = none) : (Pc.takeL f r N).length = k ∧ Pc.takeL f r k = Pc.takeL f r N := by
  have h1 : (Pc.takeL f r k).length = k := by
    rcases Pc.take_full (f := f) (n := k) (r := r) with h | h
    · exact h
    · have h2 := Pc.take_le f k r
      rcases Nat.lt_or_ge (Pc.takeL f r k).length k with e | e
      · have := hall _ e; rw [h] at this; cases this
      · omega
  have h3 : Pc.takeL f r N = Pc.takeL f r k := Pc.take_of (Pc.lie_take f k r) (by omega) (by rw [h1]; exact hend)
  exact ⟨by rw [h3]; exact h1, h3.symm⟩
/-- So many were taken. -/
theorem rtake_done {w W : World} {r gt gb : Nat} {S : PS} {n : Nat} {a : Option Addr} {c o : Nat} {a' : Option Addr} {c' o' : Nat} (h : RfAt w r gt gb S n a c o a' c' o') (hf : S.Fine) {k : Nat} (hk : k ≤ n) {ts : List By} (hl : Pc.Lie S.f S.read ts) (ht : ts.length = k) {a2 a3 : Option Addr}
    (m1 : Mid w a2 (n - k) (c - k) gt (o + k) ((tlR S.f S.read n).drop k)) (m2 : Mid w a3 (n - k) (c' - k) gb (o' + k) ((blR S.f S.read n).drop k)) (hR : Row W r 66 (rfC (Pc.mid S k) (n - k) a2 (c - k) a3 (c' - k))) (hK : KeepP (fun i => i = r) w W) :
    ∃ gt' gb', RfOk W r gt' gb' (Pc.mid S k) ∧ (gt' = gt ∨ gt' = r) ∧ (gb' = gb ∨ gb' = r) := by
  have p1 : Mid W a2 (n - k) (c - k) gt (o + k) ((tlR S.f S.read n).drop k) := m1.same (fun p => hK.block gt (m1.lt p) (h.t1 (by omega))) hK.size
  have p2 : Mid W a3 (n - k) (c' - k) gb (o' + k) ((blR S.f S.read n).drop k) := m2.same (fun p => hK.block gb (m2.lt p) (h.b1 (by omega))) hK.size
  rw [tlR_drop] at p1
  rw [blR_drop] at p2
  refine ⟨if c - k = 0 then r else gt, if c' - k = 0 then r else gb, ⟨Pc.mid_fine hf hl ht, n - k, a2, c - k, o + k, a3, c' - k, o' + k, hR, ?_, ?_, fun e => if_pos e, fun e => ?_, fun e => if_pos e, fun e => ?_, fun e e' => ?_, by have := h.room; show n - k ≤ S.room; omega, fun x hx => ?_⟩, ?_, ?_⟩
  · by_cases e : c - k = 0
    · rw [if_pos e]; rw [e] at p1 ⊢; exact p1.zero r
    · rw [if_neg e]; exact p1
  · by_cases e : c' - k = 0
    · rw [if_pos e]; rw [e] at p2 ⊢; exact p2.zero r
    · rw [if_neg e]; exact p2
  · rw [if_neg (by omega)]; exact h.t1 (by omega)
  · rw [if_neg (by omega)]; exact h.b1 (by omega)
  · rw [if_neg (by omega), if_neg (by omega)]; exact h.tb (by omega) (by omega)
  · show (if _ then _ else _) = _
    have hx' : S.read + k + (n - k) ≤ x := hx
    rw [if_neg (by omega)]
    exact h.none x (by omega)
  · by_cases e : c - k = 0
    · rw [if_pos e]; exact .inr rfl
    · rw [if_neg e]; exact .inl rfl
  · by_cases e : c' - k = 0
    · rw [if_pos e]; exact .inr rfl
    · rw [if_neg e]; exact .inl rfl

set_option maxRecDepth 20000 in
set_option maxHeartbeats 2000000 in
theorem rtake_yes (S : PS) (r gt gb N : Nat) (w : World) (h : RfOk w r gt gb S) (hN : N ≤ 9223372036854775807) :
    Calls Tryd.prog 12 #[.pointer (some ⟨r, 0, .none⟩), .int .i64 (N : Int)] w fun e w' => ∃ v, e = .returned (.tuple #[v, .bool (Pc.ended (Pc.takeS S N)), .int .i64 0]) ∧ w'.ownsRow w.heap.size 5 1 v (Pc.takeL S.f S.read N).length (vb (Pc.takeL S.f S.read N)) ∧
      (∃ gt' gb', RfOk w' r gt' gb' (Pc.takeS S N) ∧ (gt' = gt ∨ gt' = r) ∧ (gb' = gb ∨ gb' = r)) ∧ KeepP (fun i => i = r) w w' := by
  obtain ⟨hf, n, a, c, o, a', c', o', h⟩ := h
  obtain ⟨c0, c1, c2, c3, c4, c5, c6⟩ := h.cells
  obtain ⟨i0, hi, hz0, hz1, hz2⟩ := info_parts (P := Tryd.prog) (e := 5) (z := .int .u8 0) (size := 1) (bytes := 1) (by kernel_rfl)
  have hn : n ≤ 1048576 := Nat.le_trans h.room hf.room
  have hn0 : decide ((N : Int) < 0) = false := by simp
  have HF := veil hf
  have HA := veil h
  clear h hf c0 c1 c2 c3 c4
  go_enter Tryd.func12, Tryd.ntmps12
  go_wp2_with fail
  go_loopw [7] (fun iv wr => ∃ k : Nat, k ≤ n ∧ k ≤ N ∧ iv = .int .i64 (k : Int) ∧ (∀ j, j < k → (S.f (S.read + j)).isSome = true) ∧ wr = w)
    (fun iv _ => n - (intOf iv).toNat)
  case atStart => exact ⟨0, Nat.zero_le _, Nat.zero_le _, rfl, (fun j hj => absurd hj (Nat.not_lt_zero _)), rfl⟩
  case round =>
    obtain ⟨k, hk, hkN, rfl, hall, rfl⟩ := hrel
    have HALL := veil hall
    clear hall
    by_cases hgo : (k < N ∧ k < n) ∧ (S.f (S.read + k)).isSome = true
    · obtain ⟨⟨h1, h2⟩, h3⟩ := hgo
      have d1 : decide ((k : Int) < (N : Int)) = true := by simp; omega
      have d1n : decide (k < N) = true := by simp; omega
      have d2 : decide ((k : Int) < (n : Int)) = true := by simp; omega
      have d2n : decide (k < n) = true := by simp; omega
      have hcap : 0 < c := by have := HA.out.there.le; omega
      have ea : a = some ⟨gt, o, .none⟩ := HA.out.there.addr hcap
      subst ea
      have cl := HA.out.there.cell k _ (tlR_at S.f S.read h2)
      rw [h3] at cl
      have hwi : IntKind.i64.wrap ((k : Int) + 1) = ((k + 1 : Nat) : Int) := by rw [IntKind.wrap_i64]; omega
      have HS := veil (show ∀ j, j < k + 1 → (S.f (S.read + j)).isSome = true from fun j hj => by
        rcases Nat.lt_or_ge j k with e | e
        · exact HALL.out j e
        · obtain rfl : j = k := by omega
          exact h3)
      clear h3
      go_wp2_with fail
      go_roundw
      case rel => exact ⟨k + 1, h2, h1, by go_num, HS.out, trivial⟩
      case measure => simp [intOf]; omega
    · have hend : k = N ∨ S.f (S.read + k) = none := by
        rcases Nat.lt_or_ge k N with h1 | h1
        · rcases Nat.lt_or_ge k n with h2 | h2
          · right
            cases hx : S.f (S.read + k) with
            | none => rfl
            | some y => exact absurd ⟨⟨h1, h2⟩, by rw [hx]; rfl⟩ hgo
          · exact .inr (HA.out.none _ (by omega))
        · exact .inl (by omega)
      obtain ⟨hlen, hts⟩ := take_sum hkN HALL.out hend
      obtain ⟨ts, hts0⟩ : ∃ ts, ts = Pc.takeL S.f S.read N := ⟨_, rfl⟩
      have hlie : Pc.Lie S.f S.read ts := by rw [hts0]; exact Pc.lie_take _ _ _
      rw [← hts0] at hlen
      obtain ⟨a2, hc1, m1⟩ := mid_cut (P := Tryd.prog) HA.out.there hk 64 4 Tryd.underlying64 (fun W => by kernel_rfl)
      obtain ⟨a3, hc2, m2⟩ := mid_cut (P := Tryd.prog) HA.out.bytes hk 49 5 Tryd.underlying49 (fun W => by kernel_rfl)
      obtain ⟨hc3, ho3⟩ := HA.out.bytes.head hk ts hlen (fun j hj => by rw [blR_at _ _ (by omega), hlie j (by omega)]; rfl)
      have hrd : S.read + k ≤ 4611686018427387903 + 1048576 := by have := HF.out.rc; have := HF.out.come; omega
      obtain ⟨rk, hrk⟩ : ∃ rk, rk = S.read + k := ⟨_, rfl⟩
      have hw1 : IntKind.u64.wrap (k : Int) = (k : Int) := by rw [IntKind.wrap_u64]; omega
      have hw2 : IntKind.u64.wrap ((S.read : Int) + (k : Int)) = (rk : Int) := by rw [IntKind.wrap_u64]; omega
      have HR0 := veil HA.out.row
      have HTS : Hid (Pc.takeS S N = Pc.mid S k) := by show Pc.takeS S N = Pc.mid S k; unfold Pc.takeS; rw [← hts0, hlen]
      have HDONE := veil (fun W => rtake_done (W := W) HA.out HF.out hk hlie hlen m1 m2)
      have hstop : (decide ((k : Int) < (N : Int)) = false ∧ decide (k < N) = false) ∨ ((decide ((k : Int) < (N : Int)) = true ∧ decide (k < N) = true) ∧ (decide ((k : Int) < (n : Int)) = false ∧ decide (k < n) = false)) ∨ ((decide ((k : Int) < (N : Int)) = true ∧ decide (k < N) = true) ∧ decide ((k : Int) < (n : Int)) = true ∧ decide (k < n) = true ∧ k < n ∧ a = some ⟨gt, o, .none⟩ ∧ wr.cell? ⟨gt, o + k, .none⟩ = some (.bool false)) := by
        rcases Nat.lt_or_ge k N with h1 | h1
        · rcases Nat.lt_or_ge k n with h2 | h2
          · refine .inr (.inr ⟨⟨by simp; omega, by simp; omega⟩, by simp; omega, by simp; omega, h2, HA.out.there.addr (by have := HA.out.there.le; omega), ?_⟩)
            have cl := HA.out.there.cell k _ (tlR_at S.f S.read h2)
            rw [cl]
            cases hx : S.f (S.read + k) with
            | none => rfl
            | some y => exact absurd ⟨⟨h1, h2⟩, by rw [hx]; rfl⟩ hgo
          · exact .inr (.inl ⟨⟨by simp; omega, by simp; omega⟩, by simp; omega, by simp; omega⟩)
        · exact .inl ⟨by simp; omega, by simp; omega⟩
      have HLEN := veil (show ts.length = k ∧ ts = Pc.takeL S.f S.read N from ⟨hlen, hts0⟩)
      have HO3 := veil ho3
      have HRK := veil hrk
      have hk8 : 0 + k ≤ 8388608 := by omega
      clear hlie hend hts m1 m2 HALL hgo hts0 hlen ho3 hrd hrk hkN
      rcases hstop with ⟨d1, d1n⟩ | ⟨⟨d1, d1n⟩, d2, d2n⟩ | ⟨⟨d1, d1n⟩, d2, d2n, hlt, rfl, cl⟩
      all_goals
        have HEN := veil (show Pc.ended (Pc.mid S k) = (S.known && ((lastN S : Int) == (rk : Int))) by
          unfold Pc.ended lastN
          show (S.known && (S.read + k == S.come)) = _
          rw [HRK.out]
          cases S.known
          · rfl
          · rw [if_pos rfl, Bool.true_and, Bool.true_and]
            by_cases c : S.read + k = S.come
            · rw [c]; simp
            · rw [beq_false_of_ne c, beq_false_of_ne (fun e => c (by omega))])
        cases hkn : S.known
        all_goals
          go_wp2_with (with_reducible (show wpList _ _ _ (⟨_, Op.call { callee := .builtin .append, args := _, argTypes := _ }, _, _, _, _⟩ :: _) _ _)
                       refine append_sl rfl _ _ 49 rfl wr.heap.size i0 Tryd.underlying49 hi hz0 hz1 hz2 _ 0 [] rfl (World.ownsRow_nil _ _ _ _) (SL.mk a' k c' gb o' ts) HO3.out rfl hk8 (Nat.le_refl _) ?_
                       intro v4 W4 hown4 hgrow4
                       obtain ⟨a4, cap4, rfl, _⟩ := own_slice8 hown4
                       have K4 : Hid (KeepP (fun i => i = r) wr W4) := ⟨hgrow4.os, hgrow4.tape, hgrow4.output, hgrow4.size, fun i hi' _ => hgrow4.block i hi' (fun e => by cases e)⟩
                       have HOWN := veil hown4
                       have R4 : Row W4 r 66 (rfC S n _ c a' c') := (hgrow4.block r HR0.out.lt (fun e => by cases e)).trans HR0.out
                       have R5 := R4.set 5 (.slice a2 (n - k) (c - k))
                       have R6 := R5.set 6 (.slice a3 (n - k) (c' - k))
                       have R7 := R6.set 1 (.int .u64 (rk : Int))
                       have x5 := R4.cell 5
                       have f5 := R4.frozen 5
                       have x6 := R5.cell 6
                       have f6 := R5.frozen 6
                       have x1 := R6.cell 1
                       have f1 := R6.frozen 1
                       have y4 := R7.cell 4
                       have y3 := R7.cell 3
                       have y1 := R7.cell 1
                       simp only [rfC, hkn, List.setIfInBounds_toArray, List.set_cons_succ, List.set_cons_zero, List.getElem?_toArray, List.getElem?_cons_succ, List.getElem?_cons_zero] at x5 x6 x1 y4 y3 y1 R7
                       have HR7 := veil R7
                       clear R4 R5 R6 R7 hown4 hgrow4)
          go_quiet (fail)
          go_wp2_with fail
          go_ret3
          have KE : KeepP (fun i => i = r) wr (((W4.setCell ⟨r, 5, .none⟩ (.slice a2 (n - k) (c - k))).setCell ⟨r, 6, .none⟩ (.slice a3 (n - k) (c' - k))).setCell ⟨r, 1, .none⟩ (.int .u64 (rk : Int))) := ((K4.out.trans (KeepP.setCell (st := fun i => i = r) rfl _ _ _)).trans (KeepP.setCell (st := fun i => i = r) rfl _ _ _)).trans (KeepP.setCell (st := fun i => i = r) rfl _ _ _)
          refine ⟨_, by rw [HTS.out, HEN.out, hkn]; rfl, ?_, ?_, KE.trans (KeepP.of_below (below_drewN (Below.refl _ _) _))⟩
          · rw [← HLEN.out.2, HLEN.out.1]
            have o1 := HOWN.out
            rw [Nat.zero_add] at o1
            have hne : ∀ i, wr.heap.size ≤ i → i ≠ r := fun i hi' => by have := HR0.out.lt; omega
            exact own_from o1 (fun i hi' _ => ((Below.heap_setCell _ _ _ _ (hne i hi')).trans (Below.heap_setCell _ _ _ _ (hne i hi'))).trans (Below.heap_setCell _ _ _ _ (hne i hi')))
          · rw [HTS.out]
            refine HDONE.out _ ?_ (KE.trans (KeepP.of_below (below_drewN (Below.refl _ _) _)))
            have h7 := HR7.out
            have e : rfC (Pc.mid S k) (n - k) a2 (c - k) a3 (c' - k) = #[.int .i64 (S.room : Int), .int .u64 ((S.read + k : Nat) : Int), .int .u64 (S.come : Int), .int .u64 (lastN S : Int), .bool S.known, .slice a2 (n - k) (c - k), .slice a3 (n - k) (c' - k)] := rfl
            rw [e, hkn, ← HRK.out]
            exact h7.below (below_drewN (Below.refl _ _) _) h7.lt
end Go.Proofs.YtekgdljbninjiaaDoor
