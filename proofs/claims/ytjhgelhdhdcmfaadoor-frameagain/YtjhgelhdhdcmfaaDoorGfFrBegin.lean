/-
  frame's reader: begin; what reads the rest of a frame (written by mkbegin.py).
-/
import Derived.Test.YtjhgelhdhdcmfaaDoorGfFrRows
namespace Go.Proofs.YtjhgelhdhdcmfaaDoor
open Go Go.RowKit

theorem type_cases {n : Nat} (h : Fr.isType n = true) : n = 0 ∨ n = 1 ∨ n = 2 ∨ n = 4 ∨ n = 5 ∨ n = 6 ∨ n = 8 ∨ n = 9 ∨ n = 10 ∨ n = 11 ∨ n = 12 ∨ n = 13 ∨ n = 14 ∨ n = 15 ∨ n = 16 ∨ n = 17 ∨ n = 18 ∨ n = 19 ∨ n = 20 ∨ n = 21 ∨ n = 28 ∨ n = 29 ∨ n = 30 := by
  have h1 := Fr.isType_lt h
  have : ∀ k : Fin 31, Fr.isType k.val = true → k.val = 0 ∨ k.val = 1 ∨ k.val = 2 ∨ k.val = 4 ∨ k.val = 5 ∨ k.val = 6 ∨ k.val = 8 ∨ k.val = 9 ∨ k.val = 10 ∨ k.val = 11 ∨ k.val = 12 ∨ k.val = 13 ∨ k.val = 14 ∨ k.val = 15 ∨ k.val = 16 ∨ k.val = 17 ∨ k.val = 18 ∨ k.val = 19 ∨ k.val = 20 ∨ k.val = 21 ∨ k.val = 28 ∨ k.val = 29 ∨ k.val = 30 := by decide +kernel
  exact this ⟨n, h1⟩ h
/-- Each method reads what the table says. -/
theorem rd_row (g n : Nat) (s : SL) (w : World) (ht : Fr.isType n = true) (h : Rd w g s n) :
    Calls Tryd.prog (fnOf n) #[.pointer (some ⟨g, 0, none⟩)] w (RdPost w g s n (Fr.bodyP n) (frV w.heap.size)) := by
  rcases type_cases ht with rfl | rfl | rfl | rfl | rfl | rfl | rfl | rfl | rfl | rfl | rfl | rfl | rfl | rfl | rfl | rfl | rfl | rfl | rfl | rfl | rfl | rfl | rfl
  · exact rd_padding g s 0 w h
  · exact rd_ping g s 1 w h
  · exact rd_ack g s 2 w h
  · exact rd_reset g s 4 w h
  · exact rd_stop g s 5 w h
  · exact rd_crypto g s 6 w h
  · exact rd_stream_00 g s 8 w h (by decide) (by decide) (by decide)
  · exact rd_stream_00 g s 9 w h (by decide) (by decide) (by decide)
  · exact rd_stream_01 g s 10 w h (by decide) (by decide) (by decide)
  · exact rd_stream_01 g s 11 w h (by decide) (by decide) (by decide)
  · exact rd_stream_10 g s 12 w h (by decide) (by decide) (by decide)
  · exact rd_stream_10 g s 13 w h (by decide) (by decide) (by decide)
  · exact rd_stream_11 g s 14 w h (by decide) (by decide) (by decide)
  · exact rd_stream_11 g s 15 w h (by decide) (by decide) (by decide)
  · exact rd_maxData g s 16 w h
  · exact rd_maxStreamData g s 17 w h
  · exact rd_maxStreams g s 18 w h (.inl rfl)
  · exact rd_maxStreams g s 19 w h (.inr rfl)
  · exact rd_dataBlocked g s 20 w h
  · exact rd_streamBlocked g s 21 w h
  · exact rd_close_28 g s w h
  · exact rd_close_29 g s w h
  · exact rd_done g s 30 w h

theorem run_lookupO {P : Program} {a : Act} {o : Oper} (t kT eT : TypeId) (m k : Operand) (b g n : Nat) (L : List (Nat × Nat)) (W : World) (ho : o.op = .lookup t m k true) (hm : a.eval m = .map (some b)) (hk : a.eval k = .int .u64 (n : Int)) (ht : P.underlying t = some (.map kT eT)) (hku : P.underlying kT = some (.int .u64)) (h : MapIs W b g L) (hz : (zeroValue eT).run P W = .ok .nilFunc W) :
    (execOp a.eval o).run P W = .ok (.value (.tuple #[match findL n L 0 with | none => .nilFunc | some p => fv g p.2, .bool (findL n L 0).isSome])) W := by
  have hl := run_lookupL hku ht h (n := n) hz
  unfold execOp
  simp only [ho, hm, hk, Sem.run_bind, hl, Result.andThen_ok, Sem.run_pure]
  cases findL n L 0 <;> rfl

set_option maxRecDepth 20000 in
set_option maxHeartbeats 2000000 in
theorem rd_begin (g b : Nat) (s : SL) (tb : Nat) (w : World) (h : Rd w g s tb) (hM : MapIs w b g (rowsL 8)) (hbg : b ≠ g) :
    Calls Tryd.prog 32 #[.pointer (some ⟨g, 0, none⟩), .map (some b)] w fun x w' => (∃ e, beginR s.b = .error e ∧ x = pan e ∧ w.grownBy w' (some g)) ∨ ∃ n r, ∃ s' : SL, beginR s.b = .ok (n, r) ∧ x = .returned (fv g (fnOf n)) ∧ Fr.isType n = true ∧ Rd w' g s' n ∧ s'.b = r ∧ s'.g = s.g ∧ s'.len ≤ s.len ∧ w.grownBy w' (some g) := by
  have c0 : w.cell? ⟨g, 0, none⟩ = some (.slice s.a s.len s.cap) := h.row.cell 0
  have hN := fr_number g s tb w h
  have hsl := h.len
  have H := veil h
  have HM := veil hM
  clear h hM
  cases hq : Fr.getN s.b with
  | none =>
    rw [hq] at hN
    have HN := veil hN
    have E := veil (show beginR s.b = .error 4 by unfold beginR; rw [hq])
    clear hN hq
    go_enter Tryd.func32, Tryd.ntmps32
    go_wp2_with fail
    refine HN.out.mono ?_
    rintro x1 w1 ⟨rfl, hg⟩
    exact ⟨rfl, .inl ⟨4, E.out, rfl, hg⟩⟩
  | some p =>
    obtain ⟨n, k⟩ := p
    rw [hq] at hN
    have HN := veil hN
    have HQ := veil hq
    obtain ⟨hk1, hk2, hn62, _⟩ := Fr.getN_some hq
    rw [H.out.ok.hb] at hk2
    clear hN hq
    go_enter Tryd.func32, Tryd.ntmps32
    go_wp2_with fail
    refine HN.out.mono ?_
    rintro x1 w1 ⟨rfl, s1, hR1, hb1, hsg1, hsl1, hg1⟩
    have hl1 : s1.len = s.len - k := by have := hR1.ok.hb; rw [hb1, List.length_drop, H.out.ok.hb] at this; omega
    have y1 : w1.cell? ⟨g, 1, none⟩ = some (.int .u64 (tb : Int)) := hR1.row.cell 1
    have z1 := hR1.row.frozen 1
    have hg2 : w.grownBy (w1.setCell ⟨g, 1, none⟩ (.int .u64 (n : Int))) (some g) := grown_set hg1
    have D2 := veil (show Rd (w1.setCell ⟨g, 1, none⟩ (.int .u64 (n : Int))) g s1 n from ⟨hR1.row.set 1 _, hR1.ok.apart (grown_set (grown_refl _ _)) hR1.ne, hR1.told, hR1.ne, hR1.lens.grown (grown_set (grown_refl _ _)) hR1.gne, hR1.gne, hR1.len⟩)
    have M2 := veil (HM.out.keep (hg2.block b HM.out.lt (fun e => hbg (Option.some.inj e))))
    have d0 : (w1.setCell ⟨g, 1, none⟩ (.int .u64 (n : Int))).cell? ⟨g, 0, none⟩ = some (.slice s1.a s1.len s1.cap) := D2.out.row.cell 0
    have d1 : (w1.setCell ⟨g, 1, none⟩ (.int .u64 (n : Int))).cell? ⟨g, 1, none⟩ = some (.int .u64 (n : Int)) := D2.out.row.cell 1
    have hsub : IntKind.i64.wrap ((s.len : Int) - (s1.len : Int)) = (k : Int) := by rw [IntKind.wrap_i64]; omega
    have hsub2 : (s.len : Int) - (s1.len : Int) = (k : Int) := by omega
    have REST := veil (show s1.b = s.b.drop k ∧ s1.g = s.g ∧ s1.len ≤ s.len ∧ w.grownBy (w1.setCell ⟨g, 1, none⟩ (.int .u64 (n : Int))) (some g) from ⟨hb1, hsg1, hsl1, hg2⟩)
    have HFT := veil (find_type n)
    have hkw : IntKind.i64.wrap (k : Int) = (k : Int) := by rw [IntKind.wrap_i64]; omega
    clear hR1 hb1 hsg1 hsl1 hg1 hg2 HN c0 hl1
    by_cases ht : Fr.isType n = true
    · obtain ⟨p, hp⟩ : ∃ p, findL n (rowsL 8) 0 = some p := by
        have := HFT.out
        rw [ht] at this
        exact Option.isSome_iff_exists.1 this
      have hfn : fnOf n = p.2 := by unfold fnOf; rw [hp]
      have HP := veil hp
      by_cases hk : k ≤ 1
      · have f1 : decide ((1 : Int) < (k : Int)) = false := by simp; omega
        have f1n : decide (1 < k) = false := by simp; omega
        have E := veil (show beginR s.b = .ok (n, s.b.drop k) by unfold beginR; rw [HQ.out]; simp only; rw [if_pos ⟨ht, hk⟩])
        have HT := veil ht
        clear ht hk hp
        go_wp2_with (with_reducible (show wpList _ _ _ (⟨_, Op.lookup _ _ _ _, _, _, _, _⟩ :: _) _ _)
                     refine value_wp rfl _ ((run_lookupO 63 36 65 _ _ b g n (rowsL 8) _ rfl rfl rfl Tryd.underlying63 Tryd.underlying36 M2.out (by kernel_rfl)).trans (by rw [HP.out])) ?_)
        go_ret
        exact .inr ⟨n, _, s1, E.out, by rw [hfn]; rfl, HT.out, D2.out, REST.out⟩
      · have f1 : decide ((1 : Int) < (k : Int)) = true := by simp; omega
        have f1n : decide (1 < k) = true := by simp; omega
        have E := veil (show beginR s.b = .error 5 by unfold beginR; rw [HQ.out]; simp only; rw [if_neg (fun q => hk q.2)])
        clear ht hk hp
        go_wp2_with (with_reducible (show wpList _ _ _ (⟨_, Op.lookup _ _ _ _, _, _, _, _⟩ :: _) _ _)
                     refine value_wp rfl _ ((run_lookupO 63 36 65 _ _ b g n (rowsL 8) _ rfl rfl rfl Tryd.underlying63 Tryd.underlying36 M2.out (by kernel_rfl)).trans (by rw [HP.out])) ?_)
        exact ⟨rfl, .inl ⟨5, E.out, rfl, REST.out.2.2.2⟩⟩
    · have hp : findL n (rowsL 8) 0 = none := by
        have := HFT.out
        cases hq : findL n (rowsL 8) 0 with
        | none => rfl
        | some p => rw [hq] at this; exact absurd this.symm ht
      have HP := veil hp
      have E := veil (show beginR s.b = .error 5 by unfold beginR; rw [HQ.out]; simp only; rw [if_neg (fun q => ht q.1)])
      clear ht hp
      go_wp2_with (with_reducible (show wpList _ _ _ (⟨_, Op.lookup _ _ _ _, _, _, _, _⟩ :: _) _ _)
                   refine value_wp rfl _ ((run_lookupO 63 36 65 _ _ b g n (rowsL 8) _ rfl rfl rfl Tryd.underlying63 Tryd.underlying36 M2.out (by kernel_rfl)).trans (by rw [HP.out])) ?_)
      exact ⟨rfl, .inl ⟨5, E.out, rfl, REST.out.2.2.2⟩⟩
end Go.Proofs.YtjhgelhdhdcmfaaDoor
