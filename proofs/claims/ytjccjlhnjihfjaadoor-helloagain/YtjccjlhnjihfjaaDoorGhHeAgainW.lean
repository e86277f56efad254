/-
  HelloAgain: the walk.
-/
import Derived.Test.YtjccjlhnjihfjaaDoorGhHeBackW
import Derived.Test.YtjccjlhnjihfjaaDoorGh6
namespace Go.Proofs.YtjccjlhnjihfjaaDoor
open Go Go.RowKit

theorem run_headH {P : Program} {a : Act} {o : Oper} (t e : TypeId) (x hi : Operand) (s : SL) (n : Nat) (ht : s.Told) (hnil : s.a = none → s.len = 0 ∧ s.cap = 0) (hc : s.len ≤ s.cap) (ho : o.op = .slice t x none (some hi) none) (hx : a.eval x = .slice s.a s.len s.cap) (hh : a.eval hi = .int .i64 (n : Int)) (hu : P.underlying t = some (.slice e)) (hi1 : (P.info? e).map (·.size) = some 1) (hn : n ≤ s.len) (W : World) :
    (execOp a.eval o).run P W = .ok (.value (.slice (headF s n).a (headF s n).len (headF s n).cap)) W := by
  have hsz : (sizeOf e).run P W = .ok 1 W := by
    cases hq : P.info? e with
    | none => simp [hq] at hi1
    | some i =>
      have : i.size = 1 := by simpa [hq] using hi1
      simp [sizeOf, typeInfo, hq, this]
  have hnc : n ≤ s.cap := Nat.le_trans hn hc
  show _ = Result.ok (Next.value (.slice s.a n s.cap)) W
  cases ha : s.a with
  | none =>
    obtain ⟨h1, h2⟩ := hnil ha
    have h3 : n = 0 := by omega
    rw [ha, h1, h2] at hx
    subst h3
    rw [h2]
    unfold execOp
    simp [ho, hx, hh, Instr.sliceAt, Instr.slice, Instr.sliceBounds, Instr.sliceBound, asIntOf, run_underlying hu, hsz]
  | some p =>
    have hp := ht p ha
    rw [ha, hp] at hx
    rw [hp]
    unfold execOp
    by_cases e' : s.cap = 0
    · have h3 : n = 0 := by omega
      subst h3
      simp [ho, hx, hh, Instr.sliceAt, Instr.slice, Instr.sliceBounds, Instr.sliceBound, asIntOf, run_underlying hu, hsz, e']
    · simp [ho, hx, hh, Instr.sliceAt, Instr.slice, Instr.sliceBounds, Instr.sliceBound, asIntOf, run_underlying hu, hsz, hnc, e', Addr.add_mid]
theorem exec_buildH {P : Program} {a : Act} {o : Oper} (t : TypeId) (parts : Array (Nat × Operand)) (ho : o.op = .build t parts) (cs : Array Value) (hb : P.built t (parts.map fun (i, x) => (i, a.eval x)).toList = some cs) (w : World) : (execOp a.eval o).run P w = .ok (.value (.agg cs)) w := by
  unfold execOp
  simp only [ho, Sem.run_bind, run_build w t _ cs hb, Result.andThen_ok, Sem.run_pure]
set_option maxRecDepth 20000 in
set_option maxHeartbeats 2000000 in
theorem again_err (s : SL) (w : World) (hL : Lens w) (hs : s.Ok w) (ls : s.len ≤ 140737488351232) (hE : (He.got s.b).2.2 ≠ 0) :
    Calls Tryd.prog 7 #[.slice s.a s.len s.cap] w fun e w' => e = .returned (.bool true) ∧ Below w.heap.size w w' := by
  obtain ⟨E, hEE⟩ : ∃ E, E = (He.got s.b).2.2 := ⟨_, rfl⟩
  have hg := He.got_err hE
  rw [← hEE] at hg hE
  have hne : ((E : Int) != 0) = true := by simp; omega
  have HS := veil hs
  have HL := veil hL
  have HLS := veil (show s.len ≤ 140737488355328 by omega)
  have HG := veil hg
  clear hL hs ls hg hE hEE
  go_enter Tryd.func7, Tryd.ntmps7
  go_wp2_with fail
  refine (heGet_any s w HS.out HLS.out HL.out).mono ?_
  rintro e1 w1 h1
  obtain ⟨rfl, bb1⟩ := h1.val HG.out
  have B1 := veil bb1
  clear bb1 h1
  obtain ⟨W2, hW2⟩ : ∃ W2, W2 = w1.alloc (.cells (heC He.H0) 27) := ⟨_, rfl⟩
  have x2 : Row W2 w1.heap.size 27 (heC He.H0) := by rw [hW2]; exact Row.new _ _ _
  have B2 := veil (show Below w.heap.size w W2 by rw [hW2]; exact B1.out.alloc B1.out.size _)
  have X2 := veil x2
  rw [hW2] at X2 B2
  clear x2 hW2
  go_wp2_with (first
    | (with_reducible (show wpList _ _ _ (⟨_, Op.store 27 (.tmp 3) _, _, _, _, _⟩ :: _) _ _)
       refine store_new rfl 27 _ _ rfl w1.heap.size (heC He.H0) rfl rfl _ _ rfl 69 (by kernel_rfl) (by kernel_rfl) (heC_size H0_fine) (he_one _) ?_)
    | (with_reducible (show wpList _ _ _ (⟨some 23, Op.load 27 _, _, _, _, _⟩ :: _) _ _)
       refine value_G (by rfl) (.agg (heC He.H0)) (lgRun_row 27 _ rfl w1.heap.size rfl _ _ 69 _ Tryd.underlying27 (by kernel_rfl) (heC_size H0_fine) _ X2.out) ?_)
    | (with_reducible (show wpList _ _ _ (⟨some 24, Op.build _ _, _, _, _, _⟩ :: _) _ _)
       refine value_G (by rfl) (.agg (heC He.H0)) (exec_buildH 27 #[] rfl (heC He.H0) (by kernel_rfl) _) ?_)
    | (with_reducible (show wpList _ _ _ (⟨some 25, Op.binOp _ _ _ _ _, _, _, _, _⟩ :: _) _ _)
       refine value_G (by rfl) (.bool true) (eqlH_self (.tmp 23) (.tmp 24) _ He.H0 H0_fine rfl rfl rfl _) ?_))
  refine (lives_any _ (HL.out.step B2.out)).mono ?_
  rintro e7 w7 ⟨rfl, bb7⟩
  have B7 := veil (B2.out.trans (bb7.mono B2.out.size))
  clear bb7
  go_wp2_with fail
  go_ret
  exact ⟨rfl, B7.out⟩

set_option maxRecDepth 20000 in
set_option maxHeartbeats 2000000 in
theorem again_ok (s : SL) (w : World) (hL : Lens w) (hs : s.Ok w) (ls : s.len ≤ 140737488351232) (hE : (He.got s.b).2.2 = 0) :
    Calls Tryd.prog 7 #[.slice s.a s.len s.cap] w fun e w' => e = .returned (.bool true) ∧ Below w.heap.size w w' := by
  obtain ⟨X, n, hg⟩ : ∃ X n, He.got s.b = (X, n, 0) := ⟨(He.got s.b).1, (He.got s.b).2.1, Prod.ext rfl (Prod.ext rfl hE)⟩
  obtain ⟨hmay, hfine, hnl, hbytes, hshort⟩ := He.got_done hg
  rw [hs.hb] at hnl
  have hpos : 0 < n := by
    rcases Nat.eq_zero_or_pos n with h0 | h0
    · exfalso
      rw [h0, List.take_zero] at hbytes
      unfold He.H.bytes at hbytes
      cases hbytes
    · exact h0
  have ha := hs.at_ (by omega)
  have e1 : He.putO X = X.bytes := by unfold He.putO; rw [if_pos hmay]
  have e2 : He.putE X = 0 := by unfold He.putE; rw [if_pos hmay]
  have hbl : X.bytes.length = n := by rw [hbytes, List.length_take, hs.hb]; omega
  have hn97 : n ≤ 97 := by rw [← hbl]; exact bytes_le hfine
  have ht : s.Told := fun p e => by rw [ha] at e; exact (Option.some.inj e).symm
  have hgt : decide (s.len < n) = false := decide_eq_false (by omega)
  have hshort' : ∀ i, i < n → He.got (s.b.take i) = (He.H0, 0, 4) := fun i hi => by
    have h4 := hshort i hi
    have := He.got_err (b := s.b.take i) (by rw [h4]; decide)
    rw [h4] at this
    exact this
  have HS := veil hs
  have HL := veil hL
  have HLS := veil (show s.len ≤ 140737488355328 by omega)
  have HG := veil hg
  have HF := veil hfine
  have HBY := veil hbytes
  have HBL := veil hbl
  have HSH := veil hshort'
  have HT := veil ht
  have HNIL := veil hs.nil
  have HCAP := veil hs.hcap
  clear hL hs ls hg hE hmay hfine hbytes hshort hshort' ht hbl ha
  go_enter Tryd.func7, Tryd.ntmps7
  go_wp2_with fail
  refine (heGet_any s w HS.out HLS.out HL.out).mono ?_
  rintro ex1 w1 h1
  obtain ⟨rfl, bb1⟩ := h1.val HG.out
  have B1 := veil bb1
  clear bb1 h1
  obtain ⟨W2, hW2⟩ : ∃ W2, W2 = w1.alloc (.cells (heC X) 27) := ⟨_, rfl⟩
  have x2 : Row W2 w1.heap.size 27 (heC X) := by rw [hW2]; exact Row.new _ _ _
  have b2 : Below w.heap.size w W2 := by rw [hW2]; exact B1.out.alloc B1.out.size _
  have B2 := veil b2
  have X2 := veil x2
  rw [hW2] at X2
  clear x2 b2 B1
  go_wp2_with (first
    | (with_reducible (show wpList _ _ _ (⟨_, Op.store 27 (.tmp 3) _, _, _, _, _⟩ :: _) _ _)
       refine store_new rfl 27 _ _ rfl w1.heap.size (heC X) rfl rfl _ _ rfl 69 (by kernel_rfl) (by kernel_rfl) (heC_size HF.out) (he_one _) ?_)
    | (with_reducible (show wpList _ _ _ (⟨some 31, Op.load 27 _, _, _, _, _⟩ :: _) _ _)
       refine load_strL rfl 27 _ rfl w1.heap.size rfl _ _ X2.out 69 _ Tryd.underlying27 (by kernel_rfl) (heC_size HF.out) ?_))
  show Calls _ _ _ (w1.alloc (.cells (heC X) 27)) _
  rw [← hW2]
  clear hW2 X2
  refine (put_any X HF.out W2 (HL.out.step B2.out)).mono ?_
  rintro ex3 w3 ⟨a3, c3, rfl, o3, bb3⟩
  rw [e1, HBL.out] at o3 ⊢
  rw [e2]
  obtain ⟨q, hv, hql, hqb, hqok, _⟩ := SL.of_own o3
  have hv' : (.slice a3 n c3 : Value) = .slice q.a q.len q.cap := hv.symm
  rw [hv']
  have B3 := veil (B2.out.trans (bb3.mono B2.out.size))
  have S3 := veil (HS.out.below B3.out)
  have HSM : Hid (Calls Tryd.prog 12 #[.slice q.a q.len q.cap, .slice (headF s n).a (headF s n).len (headF s n).cap] w3 fun e w' => e = .returned (.bool true) ∧ Below w3.heap.size w3 w') :=
    same_yesK q (headF s n) w3 hqok (headF_ok S3.out n hnl) (by omega) (by rw [hqb]; exact HBY.out)
  clear o3 bb3 hv hv' hqb hqok B2 e1 e2 hql
  go_wp2_with (with_reducible (show wpList _ _ _ (⟨some 47, Op.slice _ _ _ _ _, _, _, _, _⟩ :: _) _ _)
               refine value_G (by rfl) (.slice (headF s n).a (headF s n).len (headF s n).cap) (run_headH 28 5 _ _ s n HT.out HNIL.out HCAP.out rfl rfl rfl Tryd.underlying28 (by kernel_rfl) hnl _) ?_)
  refine HSM.out.mono ?_
  rintro ex4 w4 ⟨rfl, bb4⟩
  have B4 := veil (B3.out.trans (bb4.mono B3.out.size))
  clear bb4 HSM S3 B3
  go_wp2_with fail
  go_loopw [8] (fun iv wr => ∃ j : Nat, j ≤ n ∧ iv = .int .i64 j ∧ Hid (Below w.heap.size w wr))
    (fun iv _ => n - (intOf iv).toNat)
  case atStart => exact ⟨0, Nat.zero_le _, rfl, B4.out⟩
  case round =>
    clear B4
    obtain ⟨j, hjn, rfl, BJ⟩ := hrel
    by_cases hlt : j < n
    · have hdk : decide ((j : Int) < (n : Int)) = true := by simp; omega
      have hjl : j ≤ s.len := by omega
      have HJ := veil (HSH.out j hlt)
      go_wp2_with (with_reducible (show wpList _ _ _ (⟨some 59, Op.slice _ _ _ _ _, _, _, _, _⟩ :: _) _ _)
                   refine value_wp rfl _ (run_headH 28 5 _ _ s j HT.out HNIL.out HCAP.out rfl rfl rfl Tryd.underlying28 (by kernel_rfl) hjl _) ?_)
      refine (heGet_any (headF s j) wr (headF_ok (HS.out.below BJ.out) j hjl) (show j ≤ 140737488355328 by have := HLS.out; omega) (HL.out.step BJ.out)).mono ?_
      rintro ex5 w5 h5
      obtain ⟨rfl, bb5⟩ := h5.val HJ.out
      have B5 := veil (BJ.out.trans (bb5.mono BJ.out.size))
      have B6 := veil (B5.out.alloc B5.out.size (.cells (heC He.H0) 27))
      clear bb5 h5 B5
      go_wp2_with (with_reducible (show wpList _ _ _ (⟨_, Op.store 27 (.tmp 9) _, _, _, _, _⟩ :: _) _ _)
                   refine store_new rfl 27 _ _ rfl w5.heap.size (heC He.H0) rfl rfl _ _ rfl 69 (by kernel_rfl) (by kernel_rfl) (heC_size H0_fine) (he_one _) ?_)
      go_roundw
      case rel => exact ⟨j + 1, by omega, by go_num, B6.out⟩
      case measure => simp [intOf]; omega
    · have hdk : decide ((j : Int) < (n : Int)) = false := by simp; omega
      go_wp2_with fail
      refine (lives_any wr (HL.out.step BJ.out)).mono ?_
      rintro ex7 w7 ⟨rfl, bb7⟩
      have B7 := veil (BJ.out.trans (bb7.mono BJ.out.size))
      clear bb7
      go_wp2_with fail
      go_ret
      exact ⟨rfl, B7.out⟩
theorem again_walk (s : SL) (w : World) (hL : Lens w) (hs : s.Ok w) (ls : s.len ≤ 140737488351232) :
    Calls Tryd.prog 7 #[.slice s.a s.len s.cap] w fun e w' => e = .returned (.bool true) ∧ Below w.heap.size w w' := by
  by_cases h : (He.got s.b).2.2 = 0
  · exact again_ok s w hL hs ls h
  · exact again_err s w hL hs ls h
end Go.Proofs.YtjccjlhnjihfjaaDoor
