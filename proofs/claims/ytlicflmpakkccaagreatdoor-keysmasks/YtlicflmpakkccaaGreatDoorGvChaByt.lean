/-
  What chacha.stateOf answers.
-/
import Derived.Test.YtlicflmpakkccaaGreatDoorGv14
import Derived.Deep.QuietTactic
import Derived.BigQuiet
import Derived.BigRegion
import Derived.Test.YtlicflmpakkccaaGreatDoorGvChaWord
import Derived.Test.YtlicflmpakkccaaGreatDoorRows
import Derived.Test.YtlicflmpakkccaaGreatDoorGv3
namespace Go.Proofs.YtlicflmpakkccaaGreatDoor
open Go Go.RowKit

/-- The state while it comes. -/
def st0 (key : List By) (count : Wd) (nonce : List By) (k : Nat) : List Wd := mixed (stateL key count nonce) (List.replicate 16 0) k
theorem st0_length (key : List By) (count : Wd) (nonce : List By) (k : Nat) (h : k ≤ 16) : (st0 key count nonce k).length = 16 := mixed_length _ _ k 16 (stateL_length _ _ _) (by simp) h
theorem st0_set (key : List By) (count : Wd) (nonce : List By) (k : Nat) (h : k < 16) (x : Wd) (hx : (stateL key count nonce)[k]? = some x) : (st0 key count nonce k).set k x = st0 key count nonce (k + 1) :=
  mixed_set _ _ k 16 (stateL_length _ _ _) (by simp) h x hx
theorem st0_all (key : List By) (count : Wd) (nonce : List By) : st0 key count nonce 16 = stateL key count nonce := mixed_all _ _ 16 (stateL_length _ _ _) (by simp)

set_option maxRecDepth 20000 in
set_option maxHeartbeats 1000000 in
theorem stateOf_any (key : List By) (count : Wd) (nonce : List By) (hk : key.length = 32) (hn : nonce.length = 12) (w : World) (hg : Glob w) :
    Calls Tryz.prog 114 #[.agg (bs key), .int .u32 (u count), .agg (bs nonce)] w fun e w' => e = .returned (.agg (ws (stateL key count nonce))) ∧ Below w.heap.size w w' := by
  have HK : Hid (key.length = 32) := hk
  have HN : Hid (nonce.length = 12) := hn
  have HG : Hid (Glob w) := hg
  clear hk hn hg
  obtain ⟨⟨tq, fq, hq⟩, hlq⟩ := And.intro HG.out.beg HG.out.lt.1
  have HQ : Hid (((((w.alloc (.cells (bs key) 60)).alloc (.cells (bs nonce) 72)).alloc (.cells (ws (List.replicate 16 0)) 170)).alloc (.cells (ws (List.replicate 16 0)) 170)).heap[0]? = some (.cells (ws BEG) tq fq)) :=
    (Below.heap_alloc _ _ _ (by simp)).trans ((Below.heap_alloc _ _ _ (by simp)).trans ((Below.heap_alloc _ _ _ (by simp)).trans ((Below.heap_alloc _ _ _ hlq).trans hq)))
  clear hq
  go_enter Tryz.func114, Tryz.ntmps114
  go_wp2_with (first
    | (with_reducible (show wpList _ _ _ (⟨_, Op.load 197 _, _, _, _, _⟩ :: _) _ _)
       refine wpList_load_row rfl 197 _ rfl 0 rfl tq (ws BEG) fq _ HQ.out Tryz.underlying197 rfl (by kernel_rfl) ?_))
  go_loopw [13] (fun i wr => ∃ k : Nat, k ≤ 4 ∧ i = .int .i64 k ∧ Row wr w.heap.size 60 (bs key) ∧ Row wr (w.heap.size + 1) 72 (bs nonce) ∧ Row wr (w.heap.size + 1 + 1) 170 (ws (List.replicate 16 0)) ∧ Row wr (w.heap.size + 1 + 1 + 1) 170 (ws (st0 key count nonce k)) ∧ Below w.heap.size w wr)
    (fun i _ => 4 - (intOf i).toNat)
  case atStart => exact ⟨0, by omega, rfl, (((Row.new _ _ _).alloc _).alloc _).alloc _, ((Row.new1 _ _ _ _).alloc _).alloc _, (Row.new2 _ _ _ _ (ws (List.replicate 16 0))).alloc _, by rw [st0, mixed_zero]; exact Row.new3 _ _ _ _ _ (ws (List.replicate 16 0)), ((((Below.refl _ w).alloc (Nat.le_refl _) _).alloc (by simp) _).alloc (by simp; omega) _).alloc (by simp; omega) _⟩
  case round =>
    obtain ⟨k, hk, rfl, r0, r1, r2, r3, hbel⟩ := hrel
    by_cases hlt : k < 4
    · have HE := (show Hid _ from st0_set key count nonce k (by omega) _ (stateL_beg key count nonce k hlt))
      have HV : Hid ((ws BEG)[k]? = some (.int .u32 (u (gw BEG k)))) := show _ = _ from ws_get BEG k (by show k < 4; exact hlt)
      obtain ⟨v, hv⟩ : ∃ v, wr.cell? ⟨w.heap.size + 1 + 1 + 1, k, none⟩ = some v := ⟨_, r3.cellW (by rw [st0_length _ _ _ _ (by omega)]; omega)⟩
      have f3 := r3.frozen k
      have hp : (0 : Int) ≤ (k : Int) ∧ (k : Int) < 16 := by omega
      generalize gw BEG k = X at *
      go_wp2_with (first
        | (with_reducible (show wpList _ _ _ (⟨_, Op.index 197 _ _, _, _, _, _⟩ :: _) _ _)
           refine index_one rfl 197 _ _ rfl 76 4 _ (ws BEG) _ k rfl rfl Tryz.underlying197 Tryz.underlying76 rfl (by kernel_rfl) hlt HV.out ?_))
      go_roundw
      case rel =>
        refine ⟨k + 1, by omega, by go_num, r0.other (by show w.heap.size ≠ w.heap.size + 1 + 1 + 1; omega) _, r1.other (by show w.heap.size + 1 ≠ w.heap.size + 1 + 1 + 1; omega) _, r2.other (by show w.heap.size + 1 + 1 ≠ w.heap.size + 1 + 1 + 1; omega) _, ?_, hbel.setCell (p := ⟨w.heap.size + 1 + 1 + 1, k, none⟩) (by show w.heap.size ≤ w.heap.size + 1 + 1 + 1; omega) _⟩
        rw [← HE.out, ← ws_set]
        exact r3.set k _
      case measure => simp [intOf]; omega
    · rw [show k = 4 by omega] at r3
      clear HQ
      have hd : decide ((k : Int) < 4) = false := by simp; omega
      generalize wr = W1 at *
      go_wp2
      go_loopw [21] (fun i wr => ∃ t : Nat, t ≤ 8 ∧ i = .int .i64 t ∧ Row wr w.heap.size 60 (bs key) ∧ Row wr (w.heap.size + 1) 72 (bs nonce) ∧ Row wr (w.heap.size + 1 + 1) 170 (ws (List.replicate 16 0)) ∧ Row wr (w.heap.size + 1 + 1 + 1) 170 (ws (st0 key count nonce (4 + t))) ∧ Below w.heap.size w wr)
        (fun i _ => 8 - (intOf i).toNat)
      case atStart => exact ⟨0, by omega, rfl, r0, r1, r2, r3, hbel⟩
      case round =>
        clear r0 r1 r2 r3 hbel
        obtain ⟨t, ht, rfl, r0, r1, r2, r3, hbel⟩ := hrel
        by_cases hlt : t < 8
        · have HE := (show Hid _ from st0_set key count nonce (4 + t) (by omega) _ (stateL_key key count nonce t hlt))
          obtain ⟨v, hv⟩ : ∃ v, wr.cell? ⟨w.heap.size + 1 + 1 + 1, 4 + t, none⟩ = some v := ⟨_, r3.cellW (by rw [st0_length _ _ _ _ (by omega)]; omega)⟩
          have f3 := r3.frozen (4 + t)
          have hp : (0 : Int) ≤ 4 + (t : Int) ∧ 4 + (t : Int) < 16 := by omega
          have hw0 : IntKind.i64.wrap (4 + (t : Int)) = 4 + (t : Int) := by rw [IntKind.wrap_i64]; omega
          have q0 : (4 + (t : Int)).toNat = 4 + t := by omega
          go_wp2_with fail
          refine (wordAt_any w.heap.size 32 t 60 key HK.out (by omega) (by omega) _ r0).mono ?_
          rintro e1 w1 ⟨rfl, hw1⟩
          rw [hw1]
          clear hw1 w1
          generalize wordLE key t = X at *
          go_wp2
          go_roundw
          case rel =>
            refine ⟨t + 1, by omega, by go_num, r0.other (by show w.heap.size ≠ w.heap.size + 1 + 1 + 1; omega) _, r1.other (by show w.heap.size + 1 ≠ w.heap.size + 1 + 1 + 1; omega) _, r2.other (by show w.heap.size + 1 + 1 ≠ w.heap.size + 1 + 1 + 1; omega) _, ?_, hbel.setCell (p := ⟨w.heap.size + 1 + 1 + 1, 4 + t, none⟩) (by show w.heap.size ≤ w.heap.size + 1 + 1 + 1; omega) _⟩
            rw [← Nat.add_assoc, ← HE.out, ← ws_set]
            exact r3.set (4 + t) _
          case measure => simp [intOf]; omega
        · rw [show t = 8 by omega] at r3
          have hd2 : decide ((t : Int) < 8) = false := by simp; omega
          have HE := (show Hid _ from st0_set key count nonce 12 (by omega) _ (stateL_count key count nonce))
          obtain ⟨v, hv⟩ : ∃ v, wr.cell? ⟨w.heap.size + 1 + 1 + 1, 12, none⟩ = some v := ⟨_, r3.cellW (by rw [st0_length _ _ _ _ (by omega)]; omega)⟩
          have f3 := r3.frozen 12
          generalize wr = W2 at *
          go_wp2
          replace r3 := r3.set 12 (.int .u32 (u count))
          rw [ws_set, HE.out] at r3
          replace r0 := r0.other (a := ⟨w.heap.size + 1 + 1 + 1, 12, none⟩) (by show w.heap.size ≠ w.heap.size + 1 + 1 + 1; omega) (.int .u32 (u count))
          replace r1 := r1.other (a := ⟨w.heap.size + 1 + 1 + 1, 12, none⟩) (by show w.heap.size + 1 ≠ w.heap.size + 1 + 1 + 1; omega) (.int .u32 (u count))
          replace r2 := r2.other (a := ⟨w.heap.size + 1 + 1 + 1, 12, none⟩) (by show w.heap.size + 1 + 1 ≠ w.heap.size + 1 + 1 + 1; omega) (.int .u32 (u count))
          replace hbel := hbel.setCell (p := ⟨w.heap.size + 1 + 1 + 1, 12, none⟩) (by show w.heap.size ≤ w.heap.size + 1 + 1 + 1; omega) (.int .u32 (u count))
          generalize W2.setCell ⟨w.heap.size + 1 + 1 + 1, 12, none⟩ (.int .u32 (u count)) = W3 at *
          go_loopw [33] (fun i wr => ∃ t : Nat, t ≤ 3 ∧ i = .int .i64 t ∧ Row wr w.heap.size 60 (bs key) ∧ Row wr (w.heap.size + 1) 72 (bs nonce) ∧ Row wr (w.heap.size + 1 + 1) 170 (ws (List.replicate 16 0)) ∧ Row wr (w.heap.size + 1 + 1 + 1) 170 (ws (st0 key count nonce (13 + t))) ∧ Below w.heap.size w wr)
            (fun i _ => 3 - (intOf i).toNat)
          case atStart => exact ⟨0, by omega, rfl, r0, r1, r2, r3, hbel⟩
          case round =>
            clear r0 r1 r2 r3 hbel
            obtain ⟨t, ht, rfl, r0, r1, r2, r3, hbel⟩ := hrel
            by_cases hlt : t < 3
            · have HE := (show Hid _ from st0_set key count nonce (13 + t) (by omega) _ (stateL_nonce key count nonce t hlt))
              obtain ⟨v, hv⟩ : ∃ v, wr.cell? ⟨w.heap.size + 1 + 1 + 1, 13 + t, none⟩ = some v := ⟨_, r3.cellW (by rw [st0_length _ _ _ _ (by omega)]; omega)⟩
              have f3 := r3.frozen (13 + t)
              have hp : (0 : Int) ≤ 13 + (t : Int) ∧ 13 + (t : Int) < 16 := by omega
              have hw0 : IntKind.i64.wrap (13 + (t : Int)) = 13 + (t : Int) := by rw [IntKind.wrap_i64]; omega
              have q0 : (13 + (t : Int)).toNat = 13 + t := by omega
              go_wp2_with fail
              refine (wordAt_any (w.heap.size + 1) 12 t 72 nonce HN.out (by omega) (by omega) _ r1).mono ?_
              rintro e1 w1 ⟨rfl, hw1⟩
              rw [hw1]
              clear hw1 w1
              generalize wordLE nonce t = X at *
              go_wp2
              go_roundw
              case rel =>
                refine ⟨t + 1, by omega, by go_num, r0.other (by show w.heap.size ≠ w.heap.size + 1 + 1 + 1; omega) _, r1.other (by show w.heap.size + 1 ≠ w.heap.size + 1 + 1 + 1; omega) _, r2.other (by show w.heap.size + 1 + 1 ≠ w.heap.size + 1 + 1 + 1; omega) _, ?_, hbel.setCell (p := ⟨w.heap.size + 1 + 1 + 1, 13 + t, none⟩) (by show w.heap.size ≤ w.heap.size + 1 + 1 + 1; omega) _⟩
                rw [← Nat.add_assoc, ← HE.out, ← ws_set]
                exact r3.set (13 + t) _
              case measure => simp [intOf]; omega
            · rw [show t = 3 by omega] at r3
              have hd3 : decide ((t : Int) < 3) = false := by simp; omega
              have r4 : Row wr (w.heap.size + 1 + 1 + 1) 170 (ws (stateL key count nonce)) := by rw [← st0_all]; exact r3
              clear r3
              generalize wr = W4 at *
              go_wp2_with (first
                | (with_reducible (show wpList _ _ _ (⟨_, Op.load 170 _, _, _, _, _⟩ :: _) _ _)
                   refine load_row rfl 170 _ rfl (w.heap.size + 1 + 1 + 1) rfl _ _ r4 16 76 Tryz.underlying170 (by kernel_rfl) (by rw [ws_size, stateL_length]) ?_)
                | (with_reducible (show wpList _ _ _ (⟨_, Op.store 170 _ _, _, _, _, _⟩ :: _) _ _)
                   refine store_row rfl 170 _ _ rfl (w.heap.size + 1 + 1) (ws (stateL key count nonce)) rfl rfl _ _ r2 16 (by kernel_rfl) (by rw [ws_size, List.length_replicate]) (by rw [ws_size, stateL_length]) (ws_one _) ?_))
              refine bodyPost_ret (result_row rfl _ _ (w.heap.size + 1 + 1) _ _ (r2.put _) 16 76 rfl Tryz.underlying170 (by kernel_rfl) (by rw [ws_size, stateL_length])) rfl ⟨rfl, bSetRow hbel (by omega) _⟩
end Go.Proofs.YtlicflmpakkccaaGreatDoor

/-! What chacha.bytesOf answers. -/
namespace Go.Proofs.YtlicflmpakkccaaGreatDoor
open Go Go.RowKit
set_option maxRecDepth 20000 in
set_option maxHeartbeats 400000 in
theorem chaBytesOf_any (s : List Wd) (hs : s.length = 16) (w : World) :
    Calls Tryz.prog 116 #[.agg (ws s)] w fun e w' => e = .returned (.agg (bs (bytesL s))) ∧ Below w.heap.size w w' := by
  have HS : Hid (s.length = 16) := hs
  clear hs
  go_enter Tryz.func116, Tryz.ntmps116
  go_wp2
  go_loopw [5] (fun i wr => ∃ k : Nat, k ≤ 64 ∧ i = .int .i64 k ∧ Row wr w.heap.size 170 (ws s) ∧ Row wr (w.heap.size + 1) 74 (bs (List.replicate 64 0)) ∧ Row wr (w.heap.size + 1 + 1) 74 (bs ((bytesL s).take k ++ List.replicate (64 - k) 0)) ∧ Below w.heap.size w wr)
    (fun i _ => 64 - (intOf i).toNat)
  case atStart =>
    exact ⟨0, by omega, rfl, ((Row.new _ _ _).alloc _).alloc _, (Row.new1 _ _ _ (bs (List.replicate 64 0))).alloc _, Row.new2 _ _ _ _ (bs (List.replicate 64 0)), (((Below.refl _ w).alloc (Nat.le_refl _) _).alloc (by simp) _).alloc (by simp; omega) _⟩
  case round =>
    obtain ⟨k, hk, rfl, r0, r1, r2, hbel⟩ := hrel
    by_cases hlt : k < 64
    · obtain ⟨q, r, hr, rfl⟩ : ∃ q r, r < 4 ∧ k = 4 * q + r := ⟨k / 4, k % 4, by omega, by omega⟩
      have c0 := r0.cellW (j := q) (by rw [HS.out]; omega)
      have hu0 := u_nn (gw s q)
      have hu1 := u_le (gw s q)
      obtain ⟨v, hv⟩ : ∃ v, wr.cell? ⟨w.heap.size + 1 + 1, 4 * q + r, none⟩ = some v := ⟨_, r2.cellB (by simp [bytesL_length]; omega)⟩
      have f2 := r2.frozen (4 * q + r)
      have e1 : (4 * (q : Int) + (r : Int)) / 4 = (q : Int) := by omega
      have e2 : (4 * (q : Int) + (r : Int)) % 4 = (r : Int) := by omega
      have HG := fill_set (bytesL s) 0 (4 * q + r) 64 (bytesL_length s) hlt _ (bytesL_get s (4 * q + r) hlt)
      rw [show (4 * q + r) / 4 = q by omega, show (4 * q + r) % 4 = r by omega] at HG
      have HG' : Hid (((bytesL s).take (4 * q + r) ++ List.replicate (64 - (4 * q + r)) 0).set (4 * q + r) (loOf (gw s q) r) = (bytesL s).take (4 * q + r + 1) ++ List.replicate (64 - (4 * q + r + 1)) 0) := HG
      clear HG
      go_wp2
      go_roundw
      case rel =>
        have ew : u (gw s q) / 2 ^ (8 * r) % 256 = v8 (loOf (gw s q) r) := by rw [wsr]; exact v8_loOf _ _
        rw [ew]
        refine ⟨4 * q + r + 1, by omega, by go_num, r0.other (by show w.heap.size ≠ w.heap.size + 1 + 1; omega) _, r1.other (by show w.heap.size + 1 ≠ w.heap.size + 1 + 1; omega) _, ?_, hbel.setCell (p := ⟨w.heap.size + 1 + 1, 4 * q + r, none⟩) (by show w.heap.size ≤ w.heap.size + 1 + 1; omega) _⟩
        have := r2.set (4 * q + r) (.int .u8 (v8 (loOf (gw s q) r)))
        rw [bs_set, HG'.out] at this
        exact this
      case measure => simp [intOf]; omega
    · obtain rfl : k = 64 := by omega
      have r3 : Row wr (w.heap.size + 1 + 1) 74 (bs (bytesL s)) := by
        have := r2
        rw [List.take_of_length_le (by rw [bytesL_length]; omega)] at this
        simpa using this
      clear r2
      go_wp2_with (first
        | (refine load_row rfl 74 _ rfl (w.heap.size + 1 + 1) rfl _ _ r3 64 5 Tryz.underlying74 (by kernel_rfl) (by rw [bs_size, bytesL_length]) ?_)
        | (refine store_row rfl 74 _ _ rfl (w.heap.size + 1) (bs (bytesL s)) rfl rfl _ _ r1 64 (by kernel_rfl) (by rw [bs_size, List.length_replicate]) (by rw [bs_size, bytesL_length]) (bs_one _) ?_))
      refine bodyPost_ret (result_row rfl _ _ (w.heap.size + 1) _ _ (r1.put _) 64 5 rfl Tryz.underlying74 (by kernel_rfl) (by rw [bs_size, bytesL_length])) rfl ⟨rfl, bSetRow hbel (by omega) _⟩
end Go.Proofs.YtlicflmpakkccaaGreatDoor
