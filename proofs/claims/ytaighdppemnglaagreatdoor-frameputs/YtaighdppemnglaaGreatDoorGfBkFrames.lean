/-
  Book.Frames: copies of frames are told.
-/
import Derived.Test.YtaighdppemnglaaGreatDoorGfBkFrame
namespace Go.Proofs.YtaighdppemnglaaGreatDoor.Ba
open Go Go.RowKit

theorem Kd.up {S B j HT T z nn M M' H : Nat} {X : List Value → Prop} {W : World} (h : Kd S B j HT T z nn M H X W) (hM : M ≤ M') : Kd S B j HT T z nn M' H X W := by
  obtain ⟨m, V, E, nu, N, F, h1, h2, h3, h4, h5, h6, h7⟩ := h
  exact ⟨m, V, E, nu, N, F, h1, h2, h3, h4, fun i hi k e => Nat.lt_of_lt_of_le (h5 i hi k e) hM, h6, h7⟩
theorem K3.up {S B nn Mb Mr Mf H Mb' Mr' Mf' : Nat} {w0 W : World} (h : K3 S B w0 nn Mb Mr Mf H W) (h1 : Mb ≤ Mb') (h2 : Mr ≤ Mr') (h3 : Mf ≤ Mf') : K3 S B w0 nn Mb' Mr' Mf' H W :=
  ⟨h.cnt, h.kb.up h1, h.kr.up h2, h.kf.up h3, h.em, h.fz, h.SB, h.lt, h.bel, h.hH⟩
/-- Copies stand while all that is older than the book does. -/
theorem twF_old {B0 B T n : Nat} {w w' : World} {l : List FrM} {G : List (Nat × Nat)} (h : TwF B0 w T n l G) (hw : w.heap.size = B) (hs : ∀ b, b < B → w'.heap[b]? = w.heap[b]?) (hz : B ≤ w'.heap.size) : TwF B0 w' T n l G :=
  ⟨h.len, own_keepK h.own (fun g e => hs g (by rw [← hw]; exact (h.own.lt g e).2)), h.all.same (fun b _ hb => hs b (by omega)) (by omega)⟩

set_option maxRecDepth 20000 in
set_option maxHeartbeats 1000000 in
theorem K3.frames {S B nn H : Nat} {w0 W Wb : World} (h : K3 S B w0 nn 0 0 0 H W) (hBH : B < H) (S0 T n : Nat) (l : List FrM) (G : List (Nat × Nat)) (ht : TwF S0 Wb T n l G) (hWb : Wb.heap.size = B) (hold : ∀ b, b < B → W.heap[b]? = Wb.heap[b]?) (hS : S ≤ S0) (hST : S0 ≤ T)
    (hn : nn + 2 * n ≤ 2700000) (hd : ∀ j, j < n → (gf l j).data.len ≤ 1048576 ∧ (gf l j).ranges.len ≤ 1048576) (Z : Nat) (hZ : ∀ j, j < n → (G[j]?.getD (0, 0)).1 < Z) :
    Calls Tryz.prog 14 #[.pointer (some ⟨B, 0, none⟩), .slice (some ⟨T, 0, none⟩) n (n + 1)] W fun e w' => e = .returned (.tuple #[]) ∧ (∃ H', B < H' ∧ K3 S B w0 (nn + 2 * n + 1) Z B B H' w') ∧ W.heap.size ≤ w'.heap.size ∧ ∀ b, b < B → w'.heap[b]? = W.heap[b]? := by
  have HH := veil h
  have HTW := veil ht
  have HOLD := veil hold
  have HD := veil hd
  have HZ := veil hZ
  have HWB := veil hWb
  have hBW := h.lt
  clear h ht hold hd hZ
  go_enter Tryz.func14, Tryz.ntmps14
  go_wp2_with fail
  go_loopw [4] (fun iv wr => ∃ (k Mb Mr H' : Nat), k ≤ n ∧ iv = .int .i64 (k : Int) ∧ B < H' ∧ K3 S B w0 (nn + 2 * k) Mb Mr 0 H' wr ∧ (∀ j, k ≤ j → j < n → Mb ≤ (G[j]?.getD (0, 0)).1 ∧ Mr ≤ (G[j]?.getD (0, 0)).2) ∧ Mb ≤ Z ∧ Mr ≤ B ∧ W.heap.size ≤ wr.heap.size ∧ ∀ b, b < B → wr.heap[b]? = W.heap[b]?)
    (fun iv _ => n - (intOf iv).toNat)
  case atStart => exact ⟨0, 0, 0, H, Nat.zero_le _, rfl, hBH, HH.out, fun _ _ _ => ⟨Nat.zero_le _, Nat.zero_le _⟩, Nat.zero_le _, Nat.zero_le _, Nat.le_refl _, fun _ _ => rfl⟩
  case round =>
    obtain ⟨k, Mb, Mr, H', hk, rfl, hBH', hk3, hMM, hMZ, hMB, hsz, hsame⟩ := hrel
    have K0 := veil hk3
    have HMM := veil hMM
    have HSM := veil hsame
    have htw := twF_old HTW.out HWB.out (fun b hb => (hsame b hb).trans (HOLD.out b hb)) (by omega)
    have HT := veil htw
    clear hk3 hMM hsame HH
    by_cases hlt : k < n
    · have cT := htw.row k hlt
      have hG : k < G.length := by rw [htw.len]; exact hlt
      have D1 := veil (htw.all.dat k hG)
      have D2 := veil (htw.all.rng k hG)
      have DB1 := veil (show (G[k]?.getD (0, 0)).1 < B by have := (HTW.out.all.dat k hG).lt; have := HWB.out; omega)
      have DB2 := veil (show (G[k]?.getD (0, 0)).2 < B by have := (HTW.out.all.rng k hG).lt; have := HWB.out; omega)
      have HDK := veil (HD.out k hlt)
      have hmm := HMM.out k (Nat.le_refl _) hlt
      have NX := veil (show ∀ j, k + 1 ≤ j → j < n → (G[k]?.getD (0, 0)).1 + 1 ≤ (G[j]?.getD (0, 0)).1 ∧ (G[k]?.getD (0, 0)).2 + 1 ≤ (G[j]?.getD (0, 0)).2 from fun j h1 h2 => by
        have := htw.all.ord k j (by omega) (by rw [htw.len]; exact h2)
        exact ⟨this.1, this.2.2.2⟩)
      have hzk := HZ.out k hlt
      generalize (G[k]?.getD (0, 0)).1 = g1 at *
      generalize (G[k]?.getD (0, 0)).2 = g2 at *
      have HF := veil (K0.out.frame hBH' (gf l k) g1 g2 (T + 1) (by omega) D1.out D2.out (by omega) hmm.1 DB1.out hmm.2 DB2.out (by have := HDK.out.1; omega) (by have := HDK.out.2; omega))
      obtain ⟨K, ek⟩ : ∃ K, K = gf l k := ⟨_, rfl⟩
      rw [← ek] at cT HF
      obtain ⟨kk, st, of, li, co, fi, da, ra⟩ := K
      have x0 := cT 0 _ rfl
      have x1 := cT 1 _ rfl
      have x2 := cT 2 _ rfl
      have x3 := cT 3 _ rfl
      have x4 := cT 4 _ rfl
      have x5 := cT 5 _ rfl
      have x6 := cT 6 _ rfl
      have x7 := cT 7 _ rfl
      simp only [Nat.add_zero] at x0 x1 x2 x3 x4 x5 x6 x7
      clear cT ek htw hG
      go_wp2_with fail
      refine HF.out.mono ?_
      rintro e2 w2 ⟨rfl, ⟨H2, hBH2, hk2⟩, hs2, hsame2⟩
      have K2 := veil hk2
      have SM2 := veil (show ∀ b, b < B → w2.heap[b]? = W.heap[b]? from fun b hb => (hsame2 b hb).trans (HSM.out b hb))
      have S2 := veil (show W.heap.size ≤ w2.heap.size by omega)
      clear hk2 hsame2 hs2 x0 x1 x2 x3 x4 x5 x6 x7 HF
      go_wp2_with fail
      go_roundw
      case rel => exact ⟨k + 1, g1 + 1, g2 + 1, H2, by omega, by go_num, hBH2, by rw [show nn + 2 * (k + 1) = nn + 2 * k + 2 by omega]; exact K2.out, NX.out, by omega, by have := DB2.out; omega, S2.out, SM2.out⟩
      case measure => simp [intOf]; omega
    · obtain rfl : k = n := by omega
      have o1 : wr.ownsRow S0 37 8 (.slice (some ⟨T, 0, none⟩) k (k + 1)) k (Bf.vo ((twl l G).map cO)) := by
        have := htw.own
        rw [List.map_append, Bf.vo_append] at this
        exact own_cutK this (by rw [Bf.vo_length, List.length_map, twl_length, htw.len]; omega)
      have hTB : T < B := by have := HTW.out.lt; have := HWB.out; omega
      have HF := veil (K0.out.keepFrame hBH' (some ⟨T, 0, none⟩) k (k + 1) B _ (by omega) (own_lowK o1 hS) (fun q e => by cases e; exact ⟨Nat.zero_le _, hTB, hTB⟩) (Nat.zero_le _) (by omega))
      clear htw o1
      go_wp2_with fail
      refine HF.out.mono ?_
      rintro e2 w2 ⟨rfl, hk2, old2⟩
      have K2 := veil hk2
      have hs2 := old2.size
      have SM2 := veil (show ∀ b, b < B → w2.heap[b]? = W.heap[b]? from fun b hb => (old2.block b (by omega) (.inl hb)).trans (HSM.out b hb))
      clear hk2 old2 HF
      go_wp2_with fail
      go_end0
      exact ⟨rfl, ⟨_, K2.out.lt, K2.out.up hMZ hMB (Nat.le_refl _)⟩, by omega, SM2.out⟩
end Go.Proofs.YtaighdppemnglaaGreatDoor.Ba
