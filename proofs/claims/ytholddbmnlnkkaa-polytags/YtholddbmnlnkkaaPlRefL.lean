/-
  What mailcoachref05.Left answers.
-/
import Derived.Test.YtholddbmnlnkkaaPlRefR
namespace Go.Proofs.Ytholddbmnlnkkaa
open Go Go.RowKit

theorem fold_mod (v : Nat) : foldN v % PP = v % PP := by
  unfold foldN PP
  omega
theorem fold_lt (v : Nat) (h : v < 256 ^ 34) : foldN v < 256 ^ 34 := by
  have e : (256 : Nat) ^ 34 = 7588550360256754183279148073529370729071901715047420004889892225542594864082845696 := by decide
  rw [e] at *
  unfold foldN
  omega
def foldK (v : Nat) : Nat → Nat
  | 0 => v
  | k + 1 => foldN (foldK v k)
theorem foldK_mod (v : Nat) : ∀ k, foldK v k % PP = v % PP
  | 0 => rfl
  | k + 1 => by rw [show foldK v (k + 1) = foldN (foldK v k) from rfl, fold_mod, foldK_mod v k]
theorem foldK_lt (v : Nat) (h : v < 256 ^ 34) : ∀ k, foldK v k < 256 ^ 34
  | 0 => h
  | k + 1 => fold_lt _ (foldK_lt v h k)
theorem foldK_four (v : Nat) (h : v < 256 ^ 34) : foldK v 4 < 1361129467683753853853498429727072845824 := by
  have e : (256 : Nat) ^ 34 = 7588550360256754183279148073529370729071901715047420004889892225542594864082845696 := by decide
  rw [e] at h
  have h1 : foldK v 1 < 27875930627072 * 1361129467683753853853498429727072845824 := by
    show foldN v < _
    unfold foldN
    omega
  have h2 : foldK v 2 < 1361129467683753853853498429727072845824 + 139379653135360 := by
    show foldN (foldK v 1) < _
    unfold foldN
    omega
  have h3 : foldK v 3 < 1361129467683753853853498429727072845824 := by
    show foldN (foldK v 2) < _
    unfold foldN
    omega
  show foldN (foldK v 3) < _
  unfold foldN
  omega

theorem ownN {w : World} {base n : Nat} {v : Value} {xs : List Value} (h : w.ownsRow base 37 1 v n xs) (hn : 0 < n) : ∃ g c, v = .slice (some ⟨g, 0, none⟩) n c := by
  rcases h.2 with ⟨_, rfl⟩ | ⟨g, c, cur, rfl, _⟩
  · omega
  · exact ⟨g, c, rfl⟩
theorem own_cur {w : World} {base g n cap : Nat} {xs : List Nat} (h : w.ownsRow base 37 1 (.slice (some ⟨g, 0, none⟩) n cap) n (vn xs)) : ∃ cur, Row w g 37 cur ∧ n ≤ cap ∧ cur.size = cap ∧ base ≤ g ∧ ∀ j, j < n → cur[j]? = some (.int .u64 (gn xs j : Int)) := by
  have hl : xs.length = n := by have := h.1; rw [vn_length] at this; omega
  rcases h.2 with ⟨h1, _⟩ | ⟨g', c', cur, h1, h2, h3, h4, _, h6, h7⟩
  · cases h1
  · simp only [Value.slice.injEq, Option.some.injEq, Addr.mk.injEq, and_true, true_and] at h1
    obtain ⟨rfl, rfl⟩ := h1
    refine ⟨cur, h3, h4, by omega, h2, fun j hj => ?_⟩
    have := vn_get xs j (by omega)
    rw [← h7, List.getElem?_take, if_pos (by omega)] at this
    simpa using this
theorem NOk.cut {w : World} {g n m v : Nat} (h : NOk w g n (dig v n)) (hm : m ≤ n) : NOk w g m (dig v m) :=
  ⟨dig_length _ _, h.lt, fun j hj => by rw [h.cell j (by omega), dig_get _ _ _ (by omega), dig_get _ _ _ hj]⟩
theorem five_list : nV [5] = 5 := by decide
theorem left_low (v : Nat) (hu : foldK v 4 + 5 < 1361129467683753853853498429727072845824) : foldK v 4 = v % PP := by
  rw [← foldK_mod v 4]
  exact (Nat.mod_eq_of_lt (by unfold PP; omega)).symm
theorem left_high (v : Nat) (h : v < 256 ^ 34) (hu : 1361129467683753853853498429727072845824 ≤ foldK v 4 + 5) : foldK v 4 + 5 = v % PP + 4 * 256 ^ 16 ∧ v % PP < 5 := by
  have h4 := foldK_four v h
  have e : (256 : Nat) ^ 16 = 340282366920938463463374607431768211456 := by decide
  rw [← foldK_mod v 4, e]
  unfold PP
  omega
theorem left_digit (x j : Nat) (hj : j < 16) : (x + 4 * 256 ^ 16) / 256 ^ j % 256 = x / 256 ^ j % 256 := dig_stable x 4 hj

set_option maxRecDepth 20000 in
set_option maxHeartbeats 2000000 in
theorem refLeft_any (ga ca : Nat) (v : Nat) (hv : v < 256 ^ 34) (w : World) (ha : NOk w ga 34 (dig v 34)) (hca : 34 ≤ ca) :
    Calls Try.prog 25 #[.slice (some ⟨ga, 0, none⟩) 34 ca] w fun e w' => ∃ g c, e = .returned (.slice (some ⟨g, 0, none⟩) 17 c) ∧ NOk w' g 17 (dig (v % PP) 17) ∧ Below w.heap.size w w' := by
  have HA := veil ha
  have HV := veil hv
  clear ha hv
  go_enter Try.func25, Try.ntmps25
  go_wp2_with fail
  go_loopw [0, 3] (fun av iv wr => ∃ (k g c : Nat), k ≤ 4 ∧ iv = .int .i64 k ∧ av = .slice (some ⟨g, 0, none⟩) 34 c ∧ NOk wr g 34 (dig (foldK v k) 34) ∧ 34 ≤ c ∧ Below w.heap.size w wr)
    (fun _ iv _ => 4 - (intOf iv).toNat)
  case atStart => exact ⟨0, ga, ca, by omega, rfl, rfl, HA.out, hca, Below.refl _ _⟩
  case round =>
    obtain ⟨k, g, c, hk, rfl, rfl, hN, hc, hbel⟩ := hrel
    have HN := veil hN
    have hs := hbel.size
    clear hN
    by_cases h4 : k < 4
    · have hdk : decide ((k : Int) < 4) = true := by simp; omega
      go_wp2_with fail
      refine (refFold_any g c (foldK v k) (foldK_lt v HV.out k) wr HN.out).mono ?_
      rintro e2 w2 ⟨x2, rfl, own2, hb2⟩
      obtain ⟨g2, c2, rfl⟩ := ownN own2 (by decide)
      have hN2 := NOk.of_own own2
      obtain ⟨_, _, hc2, _⟩ := own_cur own2
      have b2 := hbel.trans (hb2.mono hs)
      clear own2 hb2
      go_wp2
      go_roundw
      case rel => exact ⟨k + 1, g2, c2, by omega, by go_num, rfl, hN2, hc2, b2⟩
      case measure => simp [intOf]; omega
    · have hdk : decide ((k : Int) < 4) = false := by simp; omega
      rw [show k = 4 by omega] at HN
      have h4u := foldK_four v HV.out
      obtain ⟨u, hu⟩ : ∃ u, u = foldK v 4 := ⟨_, rfl⟩
      have HU := veil hu
      rw [← hu] at h4u HN
      have e34 : (256 : Nat) ^ 34 = 7588550360256754183279148073529370729071901715047420004889892225542594864082845696 := by decide
      have HNV : Hid (nV (dig u 34) = u) := show _ = _ from nV_dig u 34 (by rw [e34]; omega)
      have rF : Row (wr.alloc (.cells (ns [5]) 37)) wr.heap.size 37 (ns [5]) := Row.new _ _ _
      have HF := veil (NOk.of_row rF (n := 1) rfl)
      have HN' := veil (HN.out.below ((Below.refl _ wr).alloc (Nat.le_refl _) (.cells (ns [5]) 37)))
      have bF := hbel.alloc hs (.cells (ns [5]) 37)
      have H5 : Hid (∀ i, gn [5] i ≤ 255) := show ∀ i, gn [5] i ≤ 255 from fun i => by
        match i with
        | 0 => decide
        | i + 1 => rw [gn_out (by simp)]; omega
      have H255 : Hid (∀ i, gn (dig u 34) i ≤ 255) := show ∀ i, gn (dig u 34) i ≤ 255 from fun i => by have := dig_lt u 34 i; omega
      clear hu rF e34
      go_wp2_with fail
      refine (refAdd_any g 34 c (dig u 34) wr.heap.size 1 1 [5] _ HN'.out HF.out (by omega) (by omega) H255.out H5.out).mono ?_
      rintro e3 w3 ⟨x3, rfl, own3, hb3⟩
      rw [HNV.out, five_list] at own3
      obtain ⟨g3, c3, rfl⟩ := ownN own3 (by decide)
      obtain ⟨cur, r3, hc3, hcs, hg3, hcur⟩ := own_cur own3
      have hb3' := bF.trans (hb3.mono (by simp; omega))
      have HN3 := veil (HN'.out.below hb3)
      have HCUR := veil hcur
      have c16 : w3.cell? ⟨g3, 16, none⟩ = some (.int .u64 (gn (dig (u + 5) 34) 16 : Int)) := (r3.cell 16).trans (hcur 16 (by omega))
      rw [dig_get _ _ _ (by omega)] at c16
      have f16 := r3.frozen 16
      have e16 : (256 : Nat) ^ 16 = 340282366920938463463374607431768211456 := by decide
      obtain ⟨d, hd⟩ : ∃ d, d = (u + 5) / 256 ^ 16 % 256 := ⟨_, rfl⟩
      have hdb : d ≤ 4 ∧ (4 ≤ d ↔ 1361129467683753853853498429727072845824 ≤ u + 5) := by
        rw [hd, e16]
        omega
      rw [← hd] at c16
      have HD := veil hd
      have HBIG := veil hdb.2
      have hd4 := hdb.1
      have hgb : w.heap.size ≤ g3 := by simp at hg3; omega
      clear own3 hb3 hcur hd hdb HN' HF bF HNV
      by_cases hge : 4 ≤ d
      · have hdd : decide ((4 : Int) ≤ (d : Int)) = true := by simp; omega
        obtain ⟨hx1, hx2⟩ := left_high v HV.out (by rw [← HU.out]; exact HBIG.out.1 hge)
        rw [← HU.out] at hx1
        obtain ⟨x, hx⟩ : ∃ x, x = v % PP := ⟨_, rfl⟩
        rw [← hx] at hx1 hx2
        have q3 := r3.set 16 (.int .u64 0)
        have HR : Hid (NOk (w3.setCell ⟨g3, 16, none⟩ (.int .u64 0)) g3 17 (dig (v % PP) 17)) := show NOk _ _ _ _ from ⟨dig_length _ _, q3.lt, fun j hj => by
          rw [q3.cell j, Array.getElem?_setIfInBounds, dig_get _ _ _ hj, ← hx]
          by_cases hj6 : 16 = j
          · subst hj6
            rw [if_pos rfl, if_pos (by omega), e16, Nat.div_eq_of_lt (by omega)]
            rfl
          · rw [if_neg hj6, HCUR.out j (by omega), dig_get _ _ _ (by omega), hx1, left_digit _ _ (by omega)]⟩
        have kb := hb3'.setCell (p := ⟨g3, 16, none⟩) hgb (.int .u64 0)
        have E1 : (d : Int) - 4 = 0 := by omega
        have hcc : (17 : Int) ≤ (c3 : Int) := by omega
        clear hx1 hx2 hx
        go_wp2
        go_ret
        exact ⟨g3, c3, rfl, HR.out, kb⟩
      · have hdd : decide ((4 : Int) ≤ (d : Int)) = false := by simp; omega
        have e := left_low v (by rw [← HU.out]; have := HBIG.out; omega)
        rw [← HU.out] at e
        have HR : Hid (NOk w3 g 17 (dig (v % PP) 17)) := show NOk _ _ _ _ by rw [← e]; exact HN3.out.cut (by omega)
        have hcc : (17 : Int) ≤ (c : Int) := by omega
        clear e
        go_wp2
        go_ret
        exact ⟨g, c, rfl, HR.out, hb3'⟩
end Go.Proofs.Ytholddbmnlnkkaa
