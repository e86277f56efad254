/-
  FrameCut, walked.
-/
import Derived.Test.YtjhgelhdhdcmfabDoorGcFrAliveW
import Derived.Test.YtjhgelhdhdcmfabDoorGcFrPutL
namespace Go.Proofs.YtjhgelhdhdcmfabDoor
open Go Go.RowKit

theorem run_headI {P : Program} {a : Act} {o : Oper} (t e : TypeId) (x hi : Operand) (s : SL) (n : Nat) (ht : s.Told) (hnil : s.a = none → s.len = 0 ∧ s.cap = 0) (hc : s.len ≤ s.cap) (ho : o.op = .slice t x none (some hi) none) (hx : a.eval x = .slice s.a s.len s.cap) (hh : a.eval hi = .int .i64 (n : Int)) (hu : P.underlying t = some (.slice e)) (hi1 : (P.info? e).map (·.size) = some 1) (hn : n ≤ s.len) (W : World) :
    (execOp a.eval o).run P W = .ok (.value (.slice (headF s n).a (headF s n).len (headF s n).cap)) W := by
  have hsz : (sizeOf e).run P W = .ok 1 W := by
    cases hq : P.info? e with
    | none => simp [hq] at hi1
    | some i =>
      have : i.size = 1 := by simpa [hq] using hi1
      simp [sizeOf, typeInfo, hq, this]
  have hnc : n ≤ s.cap := Nat.le_trans hn hc
  show _ = Result.ok (Next.value (.slice s.a n s.cap)) W
  cases ha : s.a with
  | none =>
    obtain ⟨h1, h2⟩ := hnil ha
    have h3 : n = 0 := by omega
    rw [ha, h1, h2] at hx
    subst h3
    rw [h2]
    unfold execOp
    simp [ho, hx, hh, Instr.sliceAt, Instr.slice, Instr.sliceBounds, Instr.sliceBound, asIntOf, run_underlying hu, hsz]
  | some p =>
    have hp := ht p ha
    rw [ha, hp] at hx
    rw [hp]
    unfold execOp
    by_cases e' : s.cap = 0
    · simp [ho, hx, hh, Instr.sliceAt, Instr.slice, Instr.sliceBounds, Instr.sliceBound, asIntOf, run_underlying hu, hsz, e']
      omega
    · simp [ho, hx, hh, Instr.sliceAt, Instr.slice, Instr.sliceBounds, Instr.sliceBound, asIntOf, run_underlying hu, hsz, hnc, e', Addr.add_mid]
theorem fr_last (s : FS) (n : Nat) (h : s.l.length = n + 1) : ∃ l, s.fr = l ++ [(gf s.l n).fr] := by
  obtain ⟨a, len, cap, g, off, L⟩ := s
  simp only at h
  rcases List.eq_nil_or_concat L with h0 | ⟨l, F, h0⟩
  · rw [h0] at h; cases h
  · refine ⟨l.map FrM.fr, ?_⟩
    have h1 : l.length = n := by
      rw [h0] at h
      simpa using h
    show L.map FrM.fr = _ ++ [(gf L n).fr]
    rw [h0]
    unfold gf
    rw [← h1]
    simp
theorem put_ne (l : List Fr.Frame) (f : Fr.Frame) (h : f.kind ≠ 1) : Fr.putAll (l ++ [f]) ≠ [] := by
  rw [Fr.putAll_append]
  obtain ⟨c, t, hc, _⟩ := Fr.putF_head f h
  intro e
  have := (List.append_eq_nil_iff.1 e).2
  simp [Fr.putAll, hc] at this

set_option maxRecDepth 20000 in
set_option maxHeartbeats 400000 in
theorem cut_walk (s : FS) (w : World) (hs : s.Ok w) (hl : s.len ≤ 140737488355328) (hd : ∀ j, j < s.len → (gf s.l j).data.len ≤ 140737488355328 ∧ (gf s.l j).ranges.len ≤ 140737488355328) (hL : Lens w) (hN : Named w) :
    Calls Tryd.prog 3 #[.slice s.a s.len s.cap] w fun e w' => e = .returned (.bool true) ∧ Below w.heap.size w w' := by
  have HS := veil hs
  have HD := veil hd
  have HL := veil hL
  have HN := veil hN
  clear hs hd hL hN
  go_enter Tryd.func3, Tryd.ntmps3
  go_wp2_with fail
  refine (alive_any w HL.out HN.out).mono ?_
  rintro e1 w1 ⟨rfl, bel1⟩
  have B1 := veil bel1
  clear bel1
  go_wp2_with fail
  refine (frames_size s w1 (HS.out.below B1.out) hl HD.out).mono ?_
  rintro e2 w2 ⟨⟨N, rfl, hN1, hN2⟩, bel2⟩
  have B2 := veil (B1.out.trans (bel2.mono B1.out.size))
  have HN2 := veil hN2
  clear bel2 hN2 B1
  go_wp2_with fail
  refine (beyond_one w2 N hN1).mono ?_
  rintro e3 W3 ⟨⟨b, rfl, hb⟩, bel3⟩
  have B3 := veil (B2.out.trans (bel3.mono B2.out.size))
  clear bel3 B2
  cases b
  · have hN3 := HN2.out (hb rfl)
    have HD3 := veil hN3.2
    have hl3 := hN3.1
    clear hb HN2 hN3 hN1
    by_cases h0 : s.len = 0
    · have f0 : ((s.len : Int) == 0) = true := by rw [h0]; rfl
      go_wp2_with fail
      refine (alive_any W3 (HL.out.step B3.out) (HN.out.step B3.out)).mono ?_
      rintro e4 w4 ⟨rfl, bel4⟩
      have B4 := veil (B3.out.trans (bel4.mono B3.out.size))
      clear bel4
      go_wp2_with fail
      go_ret
      exact ⟨rfl, B4.out⟩
    · have f0 : ((s.len : Int) == 0) = false := by simp; omega
      have HS3 := veil (HS.out.below B3.out)
      have ha : s.a = some ⟨s.g, s.off, none⟩ := HS.out.at_ (by omega)
      have hk1 : (s.len : Int) - 1 = ((s.len - 1 : Nat) : Int) := by omega
      have hkw : IntKind.i64.wrap ((s.len - 1 : Nat) : Int) = ((s.len - 1 : Nat) : Int) := by rw [IntKind.wrap_i64]; omega
      have hlt : s.len - 1 < s.len := by omega
      have hck : W3.cell? ⟨s.g, s.off + (s.len - 1) * 8, none⟩ = some (.int .u8 ((gf s.l (s.len - 1)).kind : Int)) := HS3.out.cell (s.len - 1) hlt 0 _ rfl
      obtain ⟨K, hK⟩ : ∃ K, K = (gf s.l (s.len - 1)).kind := ⟨_, rfl⟩
      rw [← hK] at hck
      have PUT := veil (put_any7 s W3 HS3.out (by omega) (fun j hj => by have := (HD3.out j hj).1; omega) (HL.out.step B3.out) (HN.out.step B3.out))
      have HK := veil hK
      clear hK
      rw [ha]
      rw [ha] at PUT
      by_cases k1 : K = 1
      · subst k1
        go_wp2_with fail
        go_ret
        exact ⟨rfl, B3.out⟩
      by_cases k2 : K = 2
      · subst k2
        go_wp2_with fail
        go_ret
        exact ⟨rfl, B3.out⟩
      by_cases k14 : K = 14
      · subst k14
        go_wp2_with fail
        go_ret
        exact ⟨rfl, B3.out⟩
      have f1 : ((K : Int) == 1) = false := by simp; omega
      have f2 : ((K : Int) == 2) = false := by simp; omega
      have f14 : ((K : Int) == 14) = false := by simp; omega
      go_wp2_with fail
      refine PUT.out.mono ?_
      rintro e4 w4 ⟨⟨q, hqo, hqt, hq⟩, bel4⟩
      have B4 := veil (B3.out.trans (bel4.mono B3.out.size))
      have HQ := veil hqo
      have HT := veil hqt
      clear bel4 B3 hqo hqt PUT
      rcases hq with ⟨rfl, _, h1, h2, h3, h4, h5⟩ | ⟨rfl, _, _, _⟩ | ⟨rfl, _, _, _⟩
      · obtain ⟨l0, hl0⟩ := fr_last s (s.len - 1) (by rw [HS.out.hb]; omega)
        have hkf : (gf s.l (s.len - 1)).fr.kind = K := HK.out.symm
        have hqb := HQ.out.hb
        have hne : q.b ≠ [] := by rw [h1, hl0]; exact put_ne _ _ (by rw [hkf]; exact k1)
        have hq0 : 0 < q.len := by rw [← hqb]; exact List.length_pos_iff.2 hne
        have HG := veil (show Fr.getAll (headF q (q.len - 1)).b = .error 4 by
          show Fr.getAll (q.b.take (q.len - 1)) = _
          rw [← hqb, ← List.dropLast_eq_take, h1, hl0]
          refine Fr.get_cut l0 _ ?_ ?_ ?_ ?_ (by rw [hkf]; exact k1) (by rw [hkf]; exact k2) (by rw [hkf]; exact k14)
          · rw [← hl0]; exact h2
          · rw [← hl0]; exact h3
          · rw [← hl0]; exact h4
          · rw [← hl0, ← h1, hqb]; exact h5)
        have g1 : (q.len : Int) - 1 = ((q.len - 1 : Nat) : Int) := by omega
        have g2 : IntKind.i64.wrap ((q.len - 1 : Nat) : Int) = ((q.len - 1 : Nat) : Int) := by rw [IntKind.wrap_i64]; omega
        have hle : q.len - 1 ≤ q.len := by omega
        clear h1 h2 h3 h4 hl0 hne hkf hqb hk1 hkw hck
        go_wp2_with (with_reducible (show wpList _ _ _ (⟨some 51, Op.slice _ _ _ _ _, _, _, _, _⟩ :: _) _ _)
                     refine value_wp rfl _ (run_headI 28 5 _ _ q (q.len - 1) HT.out HQ.out.nil HQ.out.hcap rfl rfl rfl Tryd.underlying28 (by kernel_rfl) hle _) ?_)
        refine (get_any7 (headF q (q.len - 1)) w4 (headF_ok HQ.out _ hle) (fun _ => HT.out) (HL.out.step B4.out)).mono ?_
        rintro x5 w5 ⟨hp, bel5⟩
        have B5 := veil (B4.out.trans (bel5.mono B4.out.size))
        clear bel5
        rcases hp with ⟨e, h1, rfl⟩ | ⟨fs, h1, _⟩
        · obtain rfl : e = 4 := by rw [HG.out] at h1; injection h1 with h1; exact h1.symm
          clear h1
          go_wp2_with fail
          go_ret
          exact ⟨rfl, B5.out⟩
        · exfalso
          rw [HG.out] at h1
          cases h1
      · go_wp2_with fail
        go_ret
        exact ⟨rfl, B4.out⟩
      · go_wp2_with fail
        go_ret
        exact ⟨rfl, B4.out⟩
  · clear hb HN2
    go_wp2_with fail
    refine (alive_any W3 (HL.out.step B3.out) (HN.out.step B3.out)).mono ?_
    rintro e4 w4 ⟨rfl, bel4⟩
    have B4 := veil (B3.out.trans (bel4.mono B3.out.size))
    clear bel4
    go_wp2_with fail
    go_ret
    exact ⟨rfl, B4.out⟩
end Go.Proofs.YtjhgelhdhdcmfabDoor
