/-
  What ranges.turns tells: the numbers at which one of two sets turns, in order.
-/
import Derived.Test.YtalhfciiflcfbaaGreatDoorRgTurn
import Derived.Test.YtalhfciiflcfbaaGreatDoorRgLoop
import Derived.Test.YtalhfciiflcfbaaGreatDoorAeVals2
namespace Go.Proofs.YtalhfciiflcfbaaGreatDoor
open Go Go.RowKit Go.Shelf

theorem run_minU {P : Program} {a : Act} {o : Oper} (x y : Operand) (t : TypeId) (p q : Nat) (ho : o.op = .call { callee := .builtin .min, args := #[x, y], argTypes := #[t, t] }) (hx : a.eval x = .int .u64 (p : Int)) (hy : a.eval y = .int .u64 (q : Int)) (W : World) : (execOp a.eval o).run P W = .ok (.value (.int .u64 ((min p q : Nat) : Int))) W := by
  unfold execOp
  simp only [ho, resolve, invoke, builtin, List.map_toArray, List.map_cons, List.map_nil, hx, hy]
  go_simp
  by_cases h : p ≤ q
  · simp [Nat.min_eq_left h]; omega
  · simp [Nat.min_eq_right (show q ≤ p by omega)]; omega
theorem run_cellR {P : Program} {a : Act} {o : Oper} (ty : TypeId) (x : Operand) (p : Addr) (v : Value) (d : TypeDesc) (ho : o.op = .load ty x) (hx : a.eval x = .pointer (some p)) (hu : P.underlying ty = some d) (hd : (match d with | .struct _ | .array _ _ => true | _ => false) = false)
    (W : World) (hv : W.cell? p = some v) : (execOp a.eval o).run P W = .ok (.value v) W := by
  have hag : (isAgg ty).run P W = .ok false W := by
    unfold isAgg
    rw [Sem.run_bind, run_underlying hu W]
    cases d <;> simp_all
  unfold execOp
  simp [ho, hx, Instr.loadAt, Instr.sureAddr, loadVar, hag, hv]
theorem odd_i (i : Nat) : ((i : Int) % 2 == 1) = Rg.oddB i := by
  unfold Rg.oddB
  by_cases h : i % 2 = 1
  · rw [decide_eq_true h]; simp; omega
  · rw [decide_eq_false h]; simp; omega
theorem odd_s (i : Nat) : (((i : Int) + 1) % 2 == 1) = Rg.oddB (i + 1) := odd_i (i + 1)
/-- A turn's number, and which of two sets have what is behind it. -/
def encT (x : Nat × Bool × Bool) : Array Value := #[.int .u64 (x.1 : Int), .agg #[.bool x.2.1, .bool x.2.2]]
def StepT (a b : List Nat) (s : Nat × Nat) (x : Nat × Bool × Bool) (s' : Nat × Nat) : Prop :=
  s.1 ≤ a.length ∧ s.2 ≤ b.length ∧ x.1 = min (Rg.nxt a s.1) (Rg.nxt b s.2) ∧ x.1 ≠ 18446744073709551615 ∧ s' = (Rg.go a s.1 x.1, Rg.go b s.2 x.1) ∧ x.2 = (Rg.oddB s'.1, Rg.oddB s'.2)
def EndT (a b : List Nat) (s : Nat × Nat) : Prop := s = (a.length, b.length)
def valT (sa sb : RL) (i j A B m : Nat) : Nat → Value
  | 0 => .slice sa.a sa.len sa.cap
  | 1 => .int .i64 (i : Int)
  | 2 => .int .u64 (A : Int)
  | 3 => .slice sb.a sb.len sb.cap
  | 4 => .int .i64 (j : Int)
  | 5 => .int .u64 (B : Int)
  | _ => .int .u64 (m : Int)
def depT : Nat → List Nat
  | 2 => [0, 1]
  | 5 => [3, 4]
  | 6 => [2, 5]
  | 7 => [6]
  | _ => []

set_option maxRecDepth 20000 in
set_option maxHeartbeats 4000000 in
theorem turns1_in (n : Nat) (hn1 : 2 ≤ n) (l : Nat) (Ba Bb : Nat) (st : Nat → Prop) (sa sb : RL) (w : World) (hsa : Rg.setOk sa.l) (hsb : Rg.setOk sb.l) (oa : sa.Ok w) (ob : sb.Ok w) (ra : Row w Ba 22 #[.slice sa.a sa.len sa.cap]) (rb : Row w Bb 22 #[.slice sb.a sb.len sb.cap])
    (nBa : ¬ st Ba) (nBb : ¬ st Bb) (nga : 0 < sa.len → ¬ st sa.g) (ngb : 0 < sb.len → ¬ st sb.g) (J : Nat × Nat → World → Prop) (Js : World → Prop) (W : World) (hW : Below w.heap.size w W) (hJ : ∀ s A B, J s A → Below A.heap.size A B → J s B) (hJs : ∀ A B, Js A → Below A.heap.size A B → Js B)
    (hY : ∀ s x s' W1, StepT (Rg.turnsOf sa.l) (Rg.turnsOf sb.l) s x s' → J s W1 → YieldAt Fence.wide (n - 1) Tryz.prog l (encT x) W1 fun e W' => (e = .returned (.bool true) ∧ J s' W' ∨ e = .returned (.bool false) ∧ Js W') ∧ KeepB w.heap.size st W1 W') (h0 : J (0, 0) W) :
    CallsIn Fence.wide n Tryz.prog 94 #[.func (.yield l) #[] #[], .pointer (some ⟨Ba, 0, none⟩), .pointer (some ⟨Bb, 0, none⟩)] W fun e W' => (∃ v, e = .returned v) ∧ ((∃ s, EndT (Rg.turnsOf sa.l) (Rg.turnsOf sb.l) s ∧ J s W') ∨ Js W') := by
  have la := Rg.turns_length sa.l
  have lb := Rg.turns_length sb.l
  have l1 : sa.l.length = sa.len := oa.hb
  have l2 : sb.l.length = sb.len := ob.hb
  have l3 := hsa.1
  have l4 := hsb.1
  have HU := veil (show (Rg.turnsOf sa.l).length = 2 * sa.len ∧ (Rg.turnsOf sb.l).length = 2 * sb.len ∧ sa.len ≤ 64 ∧ sb.len ≤ 64 from ⟨by omega, by omega, by omega, by omega⟩)
  have HOK := veil (show ∀ wr, KeepB w.heap.size st w wr → sa.Ok wr ∧ sb.Ok wr ∧ wr.cell? ⟨Ba, 0, none⟩ = some (.slice sa.a sa.len sa.cap) ∧ wr.cell? ⟨Bb, 0, none⟩ = some (.slice sb.a sb.len sb.cap) from fun wr hk =>
    ⟨oa.same (fun p => hk.block _ (oa.lt p) (nga p)) hk.size, ob.same (fun p => hk.block _ (ob.lt p) (ngb p)) hk.size, (World.cell?_of_block (a := ⟨Ba, 0, none⟩) (hk.block _ ra.lt nBa)).trans (ra.cell 0), (World.cell?_of_block (a := ⟨Bb, 0, none⟩) (hk.block _ rb.lt nBb)).trans (rb.cell 0)⟩)
  have HSA := veil hsa
  have HSB := veil hsb
  have HJ := veil hJ
  have HJS := veil hJs
  have HY := veil hY
  have HW := veil hW
  clear la lb l1 l2 l3 l4 oa ob ra rb nga ngb nBa nBb hJ hJs hY hW hsa hsb
  refine callsIn_of_wp Tryz.func94 rfl trivial ?_ rfl
  simp only [Tryz.ntmps94, List.size_toArray, List.length_cons, List.length_nil, Nat.reduceAdd, Nat.reduceSub, Array.replicate_succ, Array.replicate_zero, List.push_toArray, List.append_toArray, List.nil_append, List.cons_append]
  gi_wp2_with fail
  gi_loopw [4, 5] (fun iv jv wr => ∃ i j : Nat, i ≤ 2 * sa.len ∧ j ≤ 2 * sb.len ∧ iv = .int .i64 (i : Int) ∧ jv = .int .i64 (j : Int) ∧ J (i, j) wr ∧ KeepB w.heap.size st w wr)
    (fun iv jv _ => 2 * sa.len + 2 * sb.len - (intOf iv).toNat - (intOf jv).toNat)
  case atStart => exact ⟨0, 0, Nat.zero_le _, Nat.zero_le _, rfl, rfl, h0, KeepB.of_below HW.out⟩
  case round =>
    clear h0
    obtain ⟨i, j, hi, hj, rfl, rfl, hJi, hkp⟩ := hrel
    have HJi := veil hJi
    have HKP := veil hkp
    clear hJi hkp
    obtain ⟨A, hA⟩ : ∃ A, A = Rg.nxt (Rg.turnsOf sa.l) i := ⟨_, rfl⟩
    obtain ⟨B, hB⟩ : ∃ B, B = Rg.nxt (Rg.turnsOf sb.l) j := ⟨_, rfl⟩
    obtain ⟨m, hm⟩ : ∃ m, m = min A B := ⟨_, rfl⟩
    have HA := veil hA
    have HB := veil hB
    have HM := veil hm
    clear hA hB hm
    gi_wp2_with fail
    refine wpIn_region_any (by kernel_rfl) ?_
    refine anyIn_vals2 (w0 := wr) (valT sa sb i j A B m) [7, 8, 9, 10, 11, 12, 13, 6] depT (by kernel_rfl) rfl (by decide) ((Below.refl _ _).drew) ?step3 ?done3
    case step3 =>
      intro x W' ii d hW' hdi hdep
      have kW : KeepB w.heap.size st w W' := HKP.out.trans (KeepB.of_below (hW'.mono HKP.out.size))
      obtain ⟨okA, okB, cA, cB⟩ := HOK.out W' kW
      match ii, hdi, hdep with
      | 0, hdi, _ =>
        obtain rfl := Option.some.inj hdi
        exact OI_value rfl rfl (about_none (by intro c h; cases h)) (by intro c h; cases h) _ W' (run_cellR 22 _ ⟨Ba, 0, none⟩ _ _ rfl (by kernel_rfl) Tryz.underlying22 rfl W' cA) ⟨rfl, Below.refl _ _⟩
      | 1, hdi, _ =>
        obtain rfl := Option.some.inj hdi
        exact OI_value rfl rfl (about_none (by intro c h; cases h)) (by intro c h; cases h) (.int .i64 (i : Int)) W' (by kernel_rfl) ⟨rfl, Below.refl _ _⟩
      | 2, hdi, hdep =>
        obtain rfl := Option.some.inj hdi
        rw [updV_self (hdep 0 (by simp [depT])), updV_self (show updV x 0 _ 1 = _ from hdep 1 (by simp [depT]))]
        refine OI_call rfl rfl (by intro c h; cases h) 95 #[.slice sa.a sa.len sa.cap, .int .i64 (i : Int)] (fun _ _ => trivial) (by kernel_rfl) (by omega) ?_
        have T := rg_turn sa i W' okA HSA.out hi
        rw [← HA.out] at T
        refine (callsIn_wide.2 T).mono ?_
        rintro e w' ⟨rfl, rfl⟩
        exact ⟨_, rfl, rfl, Below.refl _ _⟩
      | 3, hdi, _ =>
        obtain rfl := Option.some.inj hdi
        exact OI_value rfl rfl (about_none (by intro c h; cases h)) (by intro c h; cases h) _ W' (run_cellR 22 _ ⟨Bb, 0, none⟩ _ _ rfl (by kernel_rfl) Tryz.underlying22 rfl W' cB) ⟨rfl, Below.refl _ _⟩
      | 4, hdi, _ =>
        obtain rfl := Option.some.inj hdi
        exact OI_value rfl rfl (about_none (by intro c h; cases h)) (by intro c h; cases h) (.int .i64 (j : Int)) W' (by kernel_rfl) ⟨rfl, Below.refl _ _⟩
      | 5, hdi, hdep =>
        obtain rfl := Option.some.inj hdi
        rw [updV_self (hdep 3 (by simp [depT])), updV_self (show updV x 3 _ 4 = _ from hdep 4 (by simp [depT]))]
        refine OI_call rfl rfl (by intro c h; cases h) 95 #[.slice sb.a sb.len sb.cap, .int .i64 (j : Int)] (fun _ _ => trivial) (by kernel_rfl) (by omega) ?_
        have T := rg_turn sb j W' okB HSB.out hj
        rw [← HB.out] at T
        refine (callsIn_wide.2 T).mono ?_
        rintro e w' ⟨rfl, rfl⟩
        exact ⟨_, rfl, rfl, Below.refl _ _⟩
      | 6, hdi, hdep =>
        obtain rfl := Option.some.inj hdi
        rw [updV_self (hdep 2 (by simp [depT])), updV_self (show updV x 2 _ 5 = _ from hdep 5 (by simp [depT]))]
        exact OI_value rfl rfl (about_builtin _ _ _ rfl) (by intro c h; cases h) _ W' (run_minU _ _ _ A B rfl (by kernel_rfl) (by kernel_rfl) W') ⟨by rw [← HM.out]; rfl, Below.refl _ _⟩
      | 7, hdi, hdep =>
        obtain rfl := Option.some.inj hdi
        rw [updV_self (hdep 6 (by simp [depT]))]
        exact OI_value rfl rfl (about_none (by intro c h; cases h)) (by intro c h; cases h) (valT sa sb i j A B m 7) W' (by kernel_rfl) ⟨rfl, Below.refl _ _⟩
      | k + 8, hdi, _ => simp at hdi
    case done3 =>
      intro W' hW'
      have kW : KeepB w.heap.size st w W' := HKP.out.trans (KeepB.of_below (hW'.mono HKP.out.size))
      have jW : J (i, j) W' := HJ.out _ _ _ HJi.out hW'
      obtain ⟨okA, okB, cA, cB⟩ := HOK.out W' kW
      have TA := rg_turn sa i W' okA HSA.out hi
      rw [← HA.out] at TA
      have TB := rg_turn sb j W' okB HSB.out hj
      rw [← HB.out] at TB
      have HTA := veil TA
      have HTB := veil TB
      have HJW := veil jW
      have HKW := veil kW
      have hi128 : i ≤ 128 := by have := HU.out; omega
      have hj128 : j ≤ 128 := by have := HU.out; omega
      clear TA TB jW kW okA okB
      simp only [putsV, valT, Act.put, List.setIfInBounds_toArray, List.set_cons_succ, List.set_cons_zero, Nat.reduceAdd]
      by_cases hmn : m = 18446744073709551615
      · have f0 : ((m : Int) == 18446744073709551615) = true := by rw [hmn]; rfl
        have HEND := veil (show EndT (Rg.turnsOf sa.l) (Rg.turnsOf sb.l) (i, j) by
          have h1 := Rg.nxt_le (Rg.turns_bound _ HSA.out.2) i
          have h2 := Rg.nxt_le (Rg.turns_bound _ HSB.out.2) j
          have h3 := HA.out
          have h4 := HB.out
          have h5 := HM.out
          have h6 := HU.out
          rw [EndT, ← Rg.nxt_end (Rg.turns_bound _ HSA.out.2) (show i ≤ _ by omega) (by omega), ← Rg.nxt_end (Rg.turns_bound _ HSB.out.2) (show j ≤ _ by omega) (by omega)])
        clear hmn
        gi_wp2
        refine bodyPost_ret (results_none rfl _ _ _) rfl ?_
        exact ⟨⟨_, rfl⟩, .inl ⟨(i, j), HEND.out, HJW.out⟩⟩
      · have f0 : ((m : Int) == 18446744073709551615) = false := by simp; omega
        have HSTEP := veil (show StepT (Rg.turnsOf sa.l) (Rg.turnsOf sb.l) (i, j) (m, Rg.oddB (Rg.go (Rg.turnsOf sa.l) i m), Rg.oddB (Rg.go (Rg.turnsOf sb.l) j m)) (Rg.go (Rg.turnsOf sa.l) i m, Rg.go (Rg.turnsOf sb.l) j m) from
          ⟨by have := HU.out; show i ≤ _; omega, by have := HU.out; show j ≤ _; omega, by rw [← HA.out, ← HB.out]; exact HM.out, hmn, rfl, rfl⟩)
        have HGA := veil (Rg.go_le (Rg.turns_bound _ HSA.out.2) (i := i) (m := m) (by have := HU.out; omega) hmn)
        have HGB := veil (Rg.go_le (Rg.turns_bound _ HSB.out.2) (i := j) (m := m) (by have := HU.out; omega) hmn)
        by_cases hAm : A = m
        · by_cases hBm : B = m
          · have eA : ((A : Int) == (m : Int)) = true := by rw [hAm]; simp
            have eB : ((B : Int) == (m : Int)) = true := by rw [hBm]; simp
            have gA : Rg.go (Rg.turnsOf sa.l) i m = i + 1 := by unfold Rg.go; rw [← HA.out, if_pos hAm]
            have gB : Rg.go (Rg.turnsOf sb.l) j m = j + 1 := by unfold Rg.go; rw [← HB.out, if_pos hBm]
            rw [gA, gB] at HSTEP
            rw [gA] at HGA
            rw [gB] at HGB
            obtain ⟨fn, tmps, assign, body, hy, hR⟩ := HY.out _ _ _ W' HSTEP.out HJW.out
            unfold encT at hy
            simp only at hy
            rw [← odd_s, ← odd_s] at hy
            have HRR := veil hR
            clear hR HSTEP gA gB hAm hBm hmn
            gi_wp2_with fail
            refine ⟨trivial, fun _ => by omega, (callsIn_wide.2 HTA.out).mono ?_⟩
            rintro e1 w1 ⟨rfl, rfl⟩
            gi_wp2_with fail
            refine ⟨trivial, fun _ => by omega, (callsIn_wide.2 HTB.out).mono ?_⟩
            rintro e2 w2 ⟨rfl, rfl⟩
            gi_wp2_with fail
            refine ⟨fun _ => by omega, HRR.out.mono ?_⟩
            rintro e3 w3 ⟨⟨rfl, hJ3⟩ | ⟨rfl, hJ3⟩, hk3⟩
            · have HJ3 := veil hJ3
              have HK3 := veil (HKW.out.trans hk3)
              clear hJ3 hk3
              gi_wp2
              go_roundw
              case rel => exact ⟨i + 1, j + 1, by have := HU.out; have := HGA.out; omega, by have := HU.out; have := HGB.out; omega, by go_num, by go_num, HJ3.out, HK3.out⟩
              case measure => have := HU.out; have := HGA.out; have := HGB.out; simp only [intOf]; omega
            · have HJ3 := veil hJ3
              clear hJ3 hk3
              gi_wp2
              refine bodyPost_ret (results_none rfl _ _ _) rfl ?_
              exact ⟨⟨_, rfl⟩, .inr HJ3.out⟩
          · have eA : ((A : Int) == (m : Int)) = true := by rw [hAm]; simp
            have eB : ((B : Int) == (m : Int)) = false := by simp; omega
            have gA : Rg.go (Rg.turnsOf sa.l) i m = i + 1 := by unfold Rg.go; rw [← HA.out, if_pos hAm]
            have gB : Rg.go (Rg.turnsOf sb.l) j m = j := by unfold Rg.go; rw [← HB.out, if_neg hBm]
            rw [gA, gB] at HSTEP
            rw [gA] at HGA
            rw [gB] at HGB
            obtain ⟨fn, tmps, assign, body, hy, hR⟩ := HY.out _ _ _ W' HSTEP.out HJW.out
            unfold encT at hy
            simp only at hy
            rw [← odd_s, ← odd_i] at hy
            have HRR := veil hR
            clear hR HSTEP gA gB hAm hBm hmn
            gi_wp2_with fail
            refine ⟨trivial, fun _ => by omega, (callsIn_wide.2 HTA.out).mono ?_⟩
            rintro e1 w1 ⟨rfl, rfl⟩
            gi_wp2_with fail
            refine ⟨trivial, fun _ => by omega, (callsIn_wide.2 HTB.out).mono ?_⟩
            rintro e2 w2 ⟨rfl, rfl⟩
            gi_wp2_with fail
            refine ⟨fun _ => by omega, HRR.out.mono ?_⟩
            rintro e3 w3 ⟨⟨rfl, hJ3⟩ | ⟨rfl, hJ3⟩, hk3⟩
            · have HJ3 := veil hJ3
              have HK3 := veil (HKW.out.trans hk3)
              clear hJ3 hk3
              gi_wp2
              go_roundw
              case rel => exact ⟨i + 1, j, by have := HU.out; have := HGA.out; omega, by have := HU.out; have := HGB.out; omega, by go_num, by go_num, HJ3.out, HK3.out⟩
              case measure => have := HU.out; have := HGA.out; have := HGB.out; simp only [intOf]; omega
            · have HJ3 := veil hJ3
              clear hJ3 hk3
              gi_wp2
              refine bodyPost_ret (results_none rfl _ _ _) rfl ?_
              exact ⟨⟨_, rfl⟩, .inr HJ3.out⟩
        · have hBm : B = m := by have := HM.out; omega
          have eA : ((A : Int) == (m : Int)) = false := by simp; omega
          have eB : ((B : Int) == (m : Int)) = true := by rw [hBm]; simp
          have gA : Rg.go (Rg.turnsOf sa.l) i m = i := by unfold Rg.go; rw [← HA.out, if_neg hAm]
          have gB : Rg.go (Rg.turnsOf sb.l) j m = j + 1 := by unfold Rg.go; rw [← HB.out, if_pos hBm]
          rw [gA, gB] at HSTEP
          rw [gA] at HGA
          rw [gB] at HGB
          obtain ⟨fn, tmps, assign, body, hy, hR⟩ := HY.out _ _ _ W' HSTEP.out HJW.out
          unfold encT at hy
          simp only at hy
          rw [← odd_i, ← odd_s] at hy
          have HRR := veil hR
          clear hR HSTEP gA gB hAm hBm hmn
          gi_wp2_with fail
          refine ⟨trivial, fun _ => by omega, (callsIn_wide.2 HTA.out).mono ?_⟩
          rintro e1 w1 ⟨rfl, rfl⟩
          gi_wp2_with fail
          refine ⟨trivial, fun _ => by omega, (callsIn_wide.2 HTB.out).mono ?_⟩
          rintro e2 w2 ⟨rfl, rfl⟩
          gi_wp2_with fail
          refine ⟨fun _ => by omega, HRR.out.mono ?_⟩
          rintro e3 w3 ⟨⟨rfl, hJ3⟩ | ⟨rfl, hJ3⟩, hk3⟩
          · have HJ3 := veil hJ3
            have HK3 := veil (HKW.out.trans hk3)
            clear hJ3 hk3
            gi_wp2
            go_roundw
            case rel => exact ⟨i, j + 1, by have := HU.out; have := HGA.out; omega, by have := HU.out; have := HGB.out; omega, by go_num, by go_num, HJ3.out, HK3.out⟩
            case measure => have := HU.out; have := HGA.out; have := HGB.out; simp only [intOf]; omega
          · have HJ3 := veil hJ3
            clear hJ3 hk3
            gi_wp2
            refine bodyPost_ret (results_none rfl _ _ _) rfl ?_
            exact ⟨⟨_, rfl⟩, .inr HJ3.out⟩

theorem turns_tells (n : Nat) (hn1 : 2 ≤ n) (Ba Bb : Nat) (st : Nat → Prop) (sa sb : RL) (w : World) (hsa : Rg.setOk sa.l) (hsb : Rg.setOk sb.l) (oa : sa.Ok w) (ob : sb.Ok w) (ra : Row w Ba 22 #[.slice sa.a sa.len sa.cap]) (rb : Row w Bb 22 #[.slice sb.a sb.len sb.cap])
    (nBa : ¬ st Ba) (nBb : ¬ st Bb) (nga : 0 < sa.len → ¬ st sa.g) (ngb : 0 < sb.len → ¬ st sb.g) :
    TellsS Fence.wide n Tryz.prog 94 #[.pointer (some ⟨Ba, 0, none⟩), .pointer (some ⟨Bb, 0, none⟩)] encT st (StepT (Rg.turnsOf sa.l) (Rg.turnsOf sb.l)) (EndT (Rg.turnsOf sa.l) (Rg.turnsOf sb.l)) (0, 0) w := fun l J Js W hW hJ hJs hY h0 =>
  turns1_in n hn1 l Ba Bb st sa sb w hsa hsb oa ob ra rb nBa nBb nga ngb J Js W hW hJ hJs hY h0

set_option maxHeartbeats 400000 in
theorem turns_in (n : Nat) (sa sb : RL) (w : World) :
    CallsIn Fence.wide n Tryz.prog 67 #[.slice sa.a sa.len sa.cap, .slice sb.a sb.len sb.cap] w fun e w' => e = .returned (.func (.func 94) #[] #[.pointer (some ⟨w.heap.size, 0, none⟩), .pointer (some ⟨w.heap.size + 1, 0, none⟩)]) ∧ w' = (w.alloc (.cells #[.slice sa.a sa.len sa.cap] 22)).alloc (.cells #[.slice sb.a sb.len sb.cap] 22) := by
  refine callsIn_of_wp Tryz.func67 rfl trivial ?_ rfl
  simp only [Tryz.ntmps67, List.size_toArray, List.length_cons, List.length_nil, Nat.reduceAdd, Nat.reduceSub, Array.replicate_succ, Array.replicate_zero, List.push_toArray, List.append_toArray, List.nil_append, List.cons_append]
  gi_wp2
  go_ret
  exact ⟨rfl, rfl⟩
end Go.Proofs.YtalhfciiflcfbaaGreatDoor
