/-
  What the document's put and borders answer.
-/
import Derived.Test.YtalhfciiflcfbaaGreatDoorRgRefH
import Derived.Laws.AppendOwnNone
namespace Go.Proofs.YtalhfciiflcfbaaGreatDoor
open Go Go.RowKit Go.Shelf

def vn (l : List Nat) : List Value := l.map fun n : Nat => Value.int .u64 (n : Int)
theorem vn_append (a b : List Nat) : vn (a ++ b) = vn a ++ vn b := List.map_append
theorem vn_length (l : List Nat) : (vn l).length = l.length := List.length_map ..
theorem vn_one (l : List Nat) : ∀ u ∈ vn l, u.oneCell' = true := by
  intro u hu
  obtain ⟨n, _, rfl⟩ := List.mem_map.1 hu
  rfl
theorem vn_at {l : List Nat} {j : Nat} (h : j < l.length) : (vn l)[j]? = some (.int .u64 (Rg.gt l j : Int)) := by
  unfold vn Rg.gt
  rw [List.getElem?_map, List.getElem?_eq_getElem h]
  rfl
theorem vn_inv {l : List Nat} {j : Nat} {u : Value} (h : (vn l)[j]? = some u) : j < l.length ∧ u = .int .u64 (Rg.gt l j : Int) := by
  have hj : j < l.length := by have := (List.getElem?_eq_some_iff.1 h).1; rw [vn_length] at this; exact this
  rw [vn_at hj] at h
  exact ⟨hj, (Option.some.inj h).symm⟩
theorem Tryz.infoU64V : (Tryz.prog.info? 23).map (fun i => (i.zero, i.size, i.bytes)) = some (some (.int .u64 0), 1, 8) := by kernel_rfl
theorem u64_info : ∃ i0, Tryz.prog.info? 23 = some i0 ∧ i0.zero = some (.int .u64 0) ∧ i0.size = 1 ∧ i0.bytes = 8 := by
  have h := Tryz.infoU64V
  cases hq : Tryz.prog.info? 23 with
  | none => rw [hq] at h; cases h
  | some i =>
    rw [hq] at h
    simp only [Option.map_some, Option.some.injEq, Prod.mk.injEq] at h
    exact ⟨i, rfl, h.1, h.2.1, h.2.2⟩
/-- Numbers in a row of the call's own, a part of them. -/
theorem own_part {w w' : World} {B g N c : Nat} {l : List Nat} (h : w.ownsRow B 23 1 (.slice (some ⟨g, 0, none⟩) N c) N (vn l)) (hb : Below w.heap.size w w') (k m : Nat) (j : Nat) (u : Value) (hu : (vn ((l.drop k).take m))[j]? = some u) : w'.cell? ((⟨g, k, none⟩ : Addr).add j) = some u := by
  obtain ⟨h1, rfl⟩ := vn_inv hu
  rw [List.length_take, List.length_drop] at h1
  have hg := (h.lt g rfl).2
  have := h.cells (g := g) rfl (k + j) (.int .u64 (Rg.gt l (k + j) : Int)) (vn_at (by omega))
  rw [add_at, Nat.zero_add] at this
  rw [add_at, hb.cell (p := ⟨g, k + j, none⟩) hg, this]
  congr 2
  unfold Rg.gt
  rw [List.getElem?_take_of_lt (by omega), List.getElem?_drop]
theorem grown_none_below {w w' : World} {v : Value} (h : w.grownBy w' v.ownBlock) (B : Nat) (hB : B ≤ w.heap.size) (hv : ∀ k, v.ownBlock = some k → B ≤ k) : Below B w w' := (Below.refl _ _).grown h hB (fun k e => hv k e)

set_option maxRecDepth 20000 in
set_option maxHeartbeats 2000000 in
theorem ref_put_nil (n : Nat) (w : World) :
    Calls Tryz.prog 96 #[.slice none 0 0, .int .u64 (n : Int)] w fun e w' => ∃ v', e = .returned v' ∧ w'.ownsRow w.heap.size 23 1 v' 1 (vn [n]) ∧ Below w.heap.size w w' := by
  obtain ⟨i0, hi, hz0, hz1, hz2⟩ := u64_info
  have O0 : Hid (w.ownsRow w.heap.size 23 1 (.slice none 0 0) 0 (vn [])) := ⟨rfl, .inl ⟨rfl, rfl⟩⟩
  have LIT := veil (show ∀ j u, (vn [n])[j]? = some u → (w.alloc (.cells #[.int .u64 (n : Int)] 23)).cell? ((⟨w.heap.size, 0, none⟩ : Addr).add j) = some u from fun j u hu => by
    obtain ⟨h1, rfl⟩ := vn_inv hu
    obtain rfl : j = 0 := by simp at h1; omega
    exact (Row.new w 23 #[.int .u64 (n : Int)]).cell 0)
  have hmL : 0 + 1 ≤ maxLen := by unfold maxLen; omega
  go_enter Tryz.func96, Tryz.ntmps96
  go_wp2_with fail
  refine wp_loop_rounds 1 ?_
  rw [rounds_succ]
  go_wp2_with (first
    | (with_reducible (show wpList _ _ _ (⟨some 38, Op.call _, _, _, _, _⟩ :: _) _ _)
       refine wpList_append_own_none rfl _ _ 65 rfl w.heap.size 23 i0 1 Tryz.underlying65 hi (.slice none 0 0) 0 (vn []) rfl O0.out rfl ?_)
    | (with_reducible (show wpList _ _ _ (⟨some 42, Op.call _, _, _, _, _⟩ :: _) _ _)
       refine wpList_append_own _ rfl _ _ 65 rfl w.heap.size 23 i0 (.int .u64 0) 1 8 Tryz.underlying65 hi hz0 hz1 hz2 rfl (by decide) (.slice none 0 0) 0 (vn []) rfl (O0.out.alloc _) ⟨w.heap.size, 0, none⟩ 1 1 (vn [n]) rfl rfl LIT.out (vn_one _) hmL (by decide) (by simp) ?_
       intro v2 w2 hown2 hgrow2 _
       obtain ⟨a2, c2, rfl, _⟩ := own_slice hown2
       have hb2 : Below w.heap.size w w2 := ((Below.refl _ w).alloc (Nat.le_refl _) _).grown hgrow2 (by simp) (fun k e => by cases e)
       have HO2 : Hid (w2.ownsRow w.heap.size 23 1 (.slice a2 1 c2) 1 (vn [n])) := hown2
       have HB2 := veil hb2
       clear hown2 hgrow2 hb2)
    | (with_reducible (show wpList _ _ _ (⟨some 47, Op.call _, _, _, _, _⟩ :: _) _ _)
       refine wpList_append_own_none rfl _ _ 65 rfl w.heap.size 23 i0 1 Tryz.underlying65 hi (.slice a2 1 c2) 1 (vn [n]) rfl HO2.out rfl ?_))
  go_ret
  exact ⟨_, rfl, HO2.out, HB2.out⟩

set_option maxRecDepth 20000 in
set_option maxHeartbeats 4000000 in
theorem ref_put_some (g c B n : Nat) (l : List Nat) (w : World) (hown : w.ownsRow B 23 1 (.slice (some ⟨g, 0, none⟩) l.length c) l.length (vn l)) (hB : B ≤ w.heap.size) (hl : l.length ≤ 1000) (hpos : 0 < l.length) :
    Calls Tryz.prog 96 #[.slice (some ⟨g, 0, none⟩) l.length c, .int .u64 (n : Int)] w fun e w' => ∃ v', e = .returned v' ∧ w'.ownsRow B 23 1 v' (Rg.putN l n).length (vn (Rg.putN l n)) ∧ Below w.heap.size w w' := by
  obtain ⟨i0, hi, hz0, hz1, hz2⟩ := u64_info
  have O0 : Hid (w.ownsRow w.heap.size 23 1 (.slice none 0 0) 0 (vn [])) := ⟨rfl, .inl ⟨rfl, rfl⟩⟩
  have HOWN := veil hown
  have hcap : l.length ≤ c := by
    rcases hown.2 with ⟨h3, _⟩ | ⟨g', c', cur, h3, h4, h5, h6, _⟩
    · cases h3
    · injection h3 with e1 e2 e3
      subst e3
      exact h6
  have HCELL := veil (show ∀ j, j < l.length → w.cell? ⟨g, j, none⟩ = some (.int .u64 (Rg.gt l j : Int)) from fun j hj => by
    have := hown.cells (g := g) rfl j _ (vn_at hj)
    rw [add_at, Nat.zero_add] at this
    exact this)
  obtain ⟨N, hN⟩ : ∃ N, N = l.length := ⟨_, rfl⟩
  have HN := veil hN
  rw [← hN] at hcap hl hpos
  rw [← hN]
  rw [← hN] at HOWN HCELL
  clear hown hN
  go_enter Tryz.func96, Tryz.ntmps96
  go_wp2_with fail
  go_loopw [5] (fun i wr => ∃ k : Nat, k ≤ N ∧ i = .int .i64 k ∧ (∀ j, j < k → Rg.gt l j < n) ∧ wr = w)
    (fun i _ => N - (intOf i).toNat)
  case atStart => exact ⟨0, Nat.zero_le _, rfl, fun j hj => absurd hj (Nat.not_lt_zero _), rfl⟩
  case round =>
    obtain ⟨k, hk, rfl, hto, rfl⟩ := hrel
    have HTO := veil hto
    clear hto
    by_cases hgo : k < N ∧ Rg.gt l k < n
    · have d1 : decide ((k : Int) < (N : Int)) = true := by simp; omega
      have d1n : decide (k < N) = true := by simp; omega
      have d2 : decide ((Rg.gt l k : Int) < (n : Int)) = true := by simp; omega
      have cl := HCELL.out k hgo.1
      have HS := veil (show ∀ j, j < k + 1 → Rg.gt l j < n from fun j hj => by
        rcases Nat.lt_or_ge j k with e | e
        · exact HTO.out j e
        · obtain rfl : j = k := by omega
          exact hgo.2)
      have hk2 := hgo.1
      clear hgo
      generalize (Rg.gt l k : Int) = y at *
      go_wp2_with fail
      go_roundw
      case rel => exact ⟨k + 1, by omega, by go_num, HS.out, trivial⟩
      case measure => simp [intOf]; omega
    · have HSP := veil (Rg.putN_split l n k (by rw [← HN.out]; exact hk) (fun x hx => by
        obtain ⟨j, hj, rfl⟩ := List.mem_iff_getElem.1 hx
        rw [List.length_take] at hj
        have := HTO.out j (by omega)
        rw [List.getElem_take]
        rw [Rg.gt_eq (by omega)] at this
        exact this) (fun h1 h2 => hgo ⟨by rw [HN.out]; exact h1, h2⟩))
      by_cases heq : k < N ∧ Rg.gt l k = n
      · have d1 : decide ((k : Int) < (N : Int)) = true := by simp; omega
        have d1n : decide (k < N) = true := by simp; omega
        have cl := HCELL.out k heq.1
        have d2 : decide ((Rg.gt l k : Int) < (n : Int)) = false := by simp; omega
        have d3 : ((Rg.gt l k : Int) == (n : Int)) = true := by rw [heq.2]; simp
        have HR := veil (show Rg.putN l n = l by rw [HSP.out, if_pos ⟨by rw [← HN.out]; exact heq.1, heq.2⟩])
        have hk2 := heq.1
        clear hgo heq
        generalize (Rg.gt l k : Int) = y at *
        go_wp2_with fail
        go_ret
        exact ⟨_, rfl, by rw [HR.out, ← HN.out]; exact HOWN.out, Below.refl _ _⟩
      · have HR := veil (show Rg.putN l n = l.take k ++ n :: l.drop k by rw [HSP.out, if_neg (fun h => heq ⟨by rw [HN.out]; exact h.1, h.2⟩)])
        have dk : IntKind.i64.wrap (k : Int) = (k : Int) := by rw [IntKind.wrap_i64]; omega
        have HP1 := veil (fun w' hb => own_part HOWN.out (w' := w') hb 0 k)
        have HP2 := veil (fun w' hb => own_part HOWN.out (w' := w') hb k (N - k))
        have hL1 : (vn ((l.drop 0).take k)).length = k * 1 := by rw [vn_length, List.length_take, List.drop_zero, ← HN.out]; omega
        have hL2 : (vn ((l.drop k).take (N - k))).length = (N - k) * 1 := by rw [vn_length, List.length_take, List.length_drop, ← HN.out]; omega
        have LIT := veil (fun (w1 : World) => show ∀ j u, (vn [n])[j]? = some u → (w1.alloc (.cells #[.int .u64 (n : Int)] 23)).cell? ((⟨w1.heap.size, 0, none⟩ : Addr).add j) = some u from fun j u hu => by
          obtain ⟨h1, rfl⟩ := vn_inv hu
          obtain rfl : j = 0 := by simp at h1; omega
          exact (Row.new w1 23 #[.int .u64 (n : Int)]).cell 0)
        have m1 : 0 + k ≤ maxLen := by unfold maxLen; omega
        have m2 : k + 1 ≤ maxLen := by unfold maxLen; omega
        have m3 : k + 1 + (N - k) ≤ maxLen := by unfold maxLen; omega
        have hkc : k ≤ c := by omega
        by_cases hkn : k < N
        · have d1 : decide ((k : Int) < (N : Int)) = true := by simp; omega
          have d1n : decide (k < N) = true := by simp; omega
          have cl := HCELL.out k hkn
          have d2 : decide ((Rg.gt l k : Int) < (n : Int)) = false := by simp; omega
          have d3 : ((Rg.gt l k : Int) == (n : Int)) = false := by simp; omega
          clear hgo heq
          generalize (Rg.gt l k : Int) = y at *
          go_wp2_with (first
            | (with_reducible (show wpList _ _ _ (⟨some 38, Op.call _, _, _, _, _⟩ :: _) _ _)
               refine wpList_append_own _ rfl _ _ 65 rfl wr.heap.size 23 i0 (.int .u64 0) 1 8 Tryz.underlying65 hi hz0 hz1 hz2 rfl (by decide) (.slice none 0 0) 0 (vn []) rfl O0.out ⟨g, 0, none⟩ k c (vn ((l.drop 0).take k)) rfl hL1 (HP1.out _ (Below.refl _ _)) (vn_one _) m1 (by omega) (Nat.le_refl _) ?_
               intro v1 w1 hown1 hgrow1 _
               rw [Nat.zero_add] at hown1
               obtain ⟨a1, c1, rfl, hv1, _⟩ := own_slice hown1
               have hb1 : Below wr.heap.size wr w1 := (Below.refl _ wr).grown hgrow1 (Nat.le_refl _) (fun k e => by cases e)
               have HO1 := veil hown1
               have HB1 := veil hb1
               have HV1 := veil hv1
               clear hown1 hgrow1 hb1 hv1)
            | (with_reducible (show wpList _ _ _ (⟨some 42, Op.call _, _, _, _, _⟩ :: _) _ _)
               refine wpList_append_own _ rfl _ _ 65 rfl wr.heap.size 23 i0 (.int .u64 0) 1 8 Tryz.underlying65 hi hz0 hz1 hz2 rfl (by decide) (.slice a1 k c1) k _ rfl (HO1.out.alloc _) ⟨w1.heap.size, 0, none⟩ 1 1 (vn [n]) rfl rfl (LIT.out w1) (vn_one _) m2 (by omega) (by have := HB1.out.size; simp; omega) ?_
               intro v2 w2 hown2 hgrow2 _
               obtain ⟨a2, c2, rfl, hv2, _⟩ := own_slice hown2
               have hb2 : Below wr.heap.size wr w2 := (HB1.out.alloc HB1.out.size _).grown hgrow2 (by have := HB1.out.size; simp; omega) (fun k e => HV1.out k e)
               have HO2 := veil hown2
               have HB2 := veil hb2
               have HV2 := veil hv2
               clear hown2 hgrow2 hb2 hv2)
            | (with_reducible (show wpList _ _ _ (⟨some 47, Op.call _, _, _, _, _⟩ :: _) _ _)
               refine wpList_append_own _ rfl _ _ 65 rfl wr.heap.size 23 i0 (.int .u64 0) 1 8 Tryz.underlying65 hi hz0 hz1 hz2 rfl (by decide) (.slice a2 (k + 1) c2) (k + 1) _ rfl HO2.out ⟨g, k, none⟩ (N - k) (c - k) (vn ((l.drop k).take (N - k))) rfl hL2 (HP2.out _ HB2.out) (vn_one _) m3 (by omega) HB2.out.size ?_
               intro v3 w3 hown3 hgrow3 _
               obtain ⟨a3, c3, rfl, hv3, _⟩ := own_slice hown3
               have hb3 : Below wr.heap.size wr w3 := HB2.out.grown hgrow3 HB2.out.size (fun k e => HV2.out k e)
               have HO3 := veil hown3
               have HB3 := veil hb3
               clear hown3 hgrow3 hb3))
          go_ret
          refine ⟨_, rfl, ?_, HB3.out⟩
          have hO := HO3.out
          rw [List.drop_zero, List.take_of_length_le (l := l.drop k) (by rw [List.length_drop, ← HN.out]; exact Nat.le_refl _)] at hO
          rw [HR.out, vn_append, show n :: l.drop k = [n] ++ l.drop k from rfl, vn_append, List.length_append, List.length_append, List.length_singleton, List.length_take, List.length_drop, ← HN.out, Nat.min_eq_left hk, ← Nat.add_assoc, ← List.append_assoc]
          exact own_low2 (by simpa [vn] using hO) hB
        · obtain rfl : k = N := by omega
          have d1 : decide ((k : Int) < (k : Int)) = false := by simp
          have d1n : decide (k < k) = false := by simp
          have HP4 := veil (show ∀ (ad : Addr) (w' : World) (j : Nat) (u : Value), (vn ((l.drop k).take 0))[j]? = some u → w'.cell? (ad.add j) = some u from fun _ _ j u hu => by rw [List.take_zero] at hu; cases hu)
          have hL3 : (vn ((l.drop k).take 0)).length = 0 * 1 := by rw [List.take_zero]; rfl
          clear hgo heq
          by_cases hck : c = k
          · have hck' := hck.symm
            subst hck'
            have hk00 : ¬ (k = 0) := by omega
            go_wp2_with (first
              | (with_reducible (show wpList _ _ _ (⟨some 38, Op.call _, _, _, _, _⟩ :: _) _ _)
                 refine wpList_append_own _ rfl _ _ 65 rfl wr.heap.size 23 i0 (.int .u64 0) 1 8 Tryz.underlying65 hi hz0 hz1 hz2 rfl (by decide) (.slice none 0 0) 0 (vn []) rfl O0.out ⟨g, 0, none⟩ k k (vn ((l.drop 0).take k)) rfl hL1 (HP1.out _ (Below.refl _ _)) (vn_one _) m1 (by omega) (Nat.le_refl _) ?_
                 intro v1 w1 hown1 hgrow1 _
                 rw [Nat.zero_add] at hown1
                 obtain ⟨a1, c1, rfl, hv1, _⟩ := own_slice hown1
                 have hb1 : Below wr.heap.size wr w1 := (Below.refl _ wr).grown hgrow1 (Nat.le_refl _) (fun k e => by cases e)
                 have HO1 := veil hown1
                 have HB1 := veil hb1
                 have HV1 := veil hv1
                 clear hown1 hgrow1 hb1 hv1)
              | (with_reducible (show wpList _ _ _ (⟨some 42, Op.call _, _, _, _, _⟩ :: _) _ _)
                 refine wpList_append_own _ rfl _ _ 65 rfl wr.heap.size 23 i0 (.int .u64 0) 1 8 Tryz.underlying65 hi hz0 hz1 hz2 rfl (by decide) (.slice a1 k c1) k _ rfl (HO1.out.alloc _) ⟨w1.heap.size, 0, none⟩ 1 1 (vn [n]) rfl rfl (LIT.out w1) (vn_one _) m2 (by omega) (by have := HB1.out.size; simp; omega) ?_
                 intro v2 w2 hown2 hgrow2 _
                 obtain ⟨a2, c2, rfl, hv2, _⟩ := own_slice hown2
                 have hb2 : Below wr.heap.size wr w2 := (HB1.out.alloc HB1.out.size _).grown hgrow2 (by have := HB1.out.size; simp; omega) (fun k e => HV1.out k e)
                 have HO2 := veil hown2
                 have HB2 := veil hb2
                 have HV2 := veil hv2
                 clear hown2 hgrow2 hb2 hv2)
              | (with_reducible (show wpList _ _ _ (⟨some 47, Op.call _, _, _, _, _⟩ :: _) _ _)
                 refine wpList_append_own _ rfl _ _ 65 rfl wr.heap.size 23 i0 (.int .u64 0) 1 8 Tryz.underlying65 hi hz0 hz1 hz2 rfl (by decide) (.slice a2 (k + 1) c2) (k + 1) _ rfl HO2.out ⟨g, 0, none⟩ 0 _ (vn ((l.drop k).take 0)) rfl hL3 (HP4.out _ _) (vn_one _) m2 (by omega) HB2.out.size ?_
                 intro v3 w3 hown3 hgrow3 _
                 obtain ⟨a3, c3, rfl, hv3, _⟩ := own_slice hown3
                 have hb3 : Below wr.heap.size wr w3 := HB2.out.grown hgrow3 HB2.out.size (fun k e => HV2.out k e)
                 have HO3 := veil hown3
                 have HB3 := veil hb3
                 clear hown3 hgrow3 hb3))
            go_ret
            refine ⟨_, rfl, ?_, HB3.out⟩
            have e : Rg.putN l n = l ++ [n] := by rw [HR.out, HN.out, List.take_of_length_le (Nat.le_refl _), List.drop_of_length_le (Nat.le_refl _)]
            have hO := HO3.out
            rw [List.take_zero, List.drop_zero, HN.out, List.take_of_length_le (Nat.le_refl _)] at hO
            rw [e, List.length_append, List.length_singleton, vn_append]
            have hO2 : w3.ownsRow wr.heap.size 23 1 (.slice a3 (l.length + 1) c3) (l.length + 1) (vn l ++ vn [n]) := by
              simpa [vn] using hO
            rw [HN.out]
            exact own_low2 hO2 hB
          · have hck2 : ¬ (c = k) := hck
            go_wp2_with (first
              | (with_reducible (show wpList _ _ _ (⟨some 38, Op.call _, _, _, _, _⟩ :: _) _ _)
                 refine wpList_append_own _ rfl _ _ 65 rfl wr.heap.size 23 i0 (.int .u64 0) 1 8 Tryz.underlying65 hi hz0 hz1 hz2 rfl (by decide) (.slice none 0 0) 0 (vn []) rfl O0.out ⟨g, 0, none⟩ k c (vn ((l.drop 0).take k)) rfl hL1 (HP1.out _ (Below.refl _ _)) (vn_one _) m1 (by omega) (Nat.le_refl _) ?_
                 intro v1 w1 hown1 hgrow1 _
                 rw [Nat.zero_add] at hown1
                 obtain ⟨a1, c1, rfl, hv1, _⟩ := own_slice hown1
                 have hb1 : Below wr.heap.size wr w1 := (Below.refl _ wr).grown hgrow1 (Nat.le_refl _) (fun k e => by cases e)
                 have HO1 := veil hown1
                 have HB1 := veil hb1
                 have HV1 := veil hv1
                 clear hown1 hgrow1 hb1 hv1)
              | (with_reducible (show wpList _ _ _ (⟨some 42, Op.call _, _, _, _, _⟩ :: _) _ _)
                 refine wpList_append_own _ rfl _ _ 65 rfl wr.heap.size 23 i0 (.int .u64 0) 1 8 Tryz.underlying65 hi hz0 hz1 hz2 rfl (by decide) (.slice a1 k c1) k _ rfl (HO1.out.alloc _) ⟨w1.heap.size, 0, none⟩ 1 1 (vn [n]) rfl rfl (LIT.out w1) (vn_one _) m2 (by omega) (by have := HB1.out.size; simp; omega) ?_
                 intro v2 w2 hown2 hgrow2 _
                 obtain ⟨a2, c2, rfl, hv2, _⟩ := own_slice hown2
                 have hb2 : Below wr.heap.size wr w2 := (HB1.out.alloc HB1.out.size _).grown hgrow2 (by have := HB1.out.size; simp; omega) (fun k e => HV1.out k e)
                 have HO2 := veil hown2
                 have HB2 := veil hb2
                 have HV2 := veil hv2
                 clear hown2 hgrow2 hb2 hv2)
              | (with_reducible (show wpList _ _ _ (⟨some 47, Op.call _, _, _, _, _⟩ :: _) _ _)
                 refine wpList_append_own _ rfl _ _ 65 rfl wr.heap.size 23 i0 (.int .u64 0) 1 8 Tryz.underlying65 hi hz0 hz1 hz2 rfl (by decide) (.slice a2 (k + 1) c2) (k + 1) _ rfl HO2.out ⟨g, k, none⟩ 0 _ (vn ((l.drop k).take 0)) rfl hL3 (HP4.out _ _) (vn_one _) m2 (by omega) HB2.out.size ?_
                 intro v3 w3 hown3 hgrow3 _
                 obtain ⟨a3, c3, rfl, hv3, _⟩ := own_slice hown3
                 have hb3 : Below wr.heap.size wr w3 := HB2.out.grown hgrow3 HB2.out.size (fun k e => HV2.out k e)
                 have HO3 := veil hown3
                 have HB3 := veil hb3
                 clear hown3 hgrow3 hb3))
            go_ret
            refine ⟨_, rfl, ?_, HB3.out⟩
            have e : Rg.putN l n = l ++ [n] := by rw [HR.out, HN.out, List.take_of_length_le (Nat.le_refl _), List.drop_of_length_le (Nat.le_refl _)]
            have hO := HO3.out
            rw [List.take_zero, List.drop_zero, HN.out, List.take_of_length_le (Nat.le_refl _)] at hO
            rw [e, List.length_append, List.length_singleton, vn_append]
            have hO2 : w3.ownsRow wr.heap.size 23 1 (.slice a3 (l.length + 1) c3) (l.length + 1) (vn l ++ vn [n]) := by
              simpa [vn] using hO
            rw [HN.out]
            exact own_low2 hO2 hB

theorem putN_bound (l : List Nat) (n M : Nat) (h : ∀ x ∈ l, x ≤ M) (hn : n ≤ M) : ∀ x ∈ Rg.putN l n, x ≤ M := fun x hx => by
  rcases (Rg.putN_mem l n x).1 hx with rfl | hx
  · exact hn
  · exact h x hx
theorem putN_pos (l : List Nat) (n : Nat) : 0 < (Rg.putN l n).length := List.length_pos_of_mem ((Rg.putN_mem l n n).2 (.inl rfl))
/-- A number into a list that rises: whatever the list. -/
theorem ref_put8 (v : Value) (B n : Nat) (l : List Nat) (w : World) (hown : w.ownsRow B 23 1 v l.length (vn l)) (hB : B ≤ w.heap.size) (hl : l.length ≤ 1000) (hv : v = .slice none 0 0 ∨ 0 < l.length) :
    Calls Tryz.prog 96 #[v, .int .u64 (n : Int)] w fun e w' => ∃ v', e = .returned v' ∧ w'.ownsRow B 23 1 v' (Rg.putN l n).length (vn (Rg.putN l n)) ∧ Below w.heap.size w w' := by
  rcases hown.2 with ⟨rfl, h0⟩ | ⟨g, c, cur, rfl, _⟩
  · obtain rfl := List.eq_nil_of_length_eq_zero h0
    refine (ref_put_nil n w).mono ?_
    rintro e w' ⟨v', rfl, h1, h2⟩
    exact ⟨v', rfl, own_low2 h1 hB, h2⟩
  · rcases hv with h | h
    · cases h
    · exact ref_put_some g c B n l w hown hB hl h
theorem borders_take {l : List (Nat × Nat)} {k : Nat} (hk : k < l.length) : Rg.bordersTo (l.take (k + 1)) = Rg.putN (Rg.putN (Rg.bordersTo (l.take k)) (gr l k).1) ((gr l k).2 + 1) := by
  rw [List.take_succ_eq_append_getElem hk, Rg.borders_snoc]
  have : gr l k = l[k] := by unfold gr; rw [List.getElem?_eq_getElem hk]; rfl
  rw [this]
set_option maxRecDepth 20000 in
set_option maxHeartbeats 2000000 in
theorem ref_borders8 (s : RL) (w : World) (hs : s.Ok w) (hl : s.len ≤ 200) (hsm : ∀ j, j < s.len → (gr s.l j).2 ≤ 4611686018427387903) :
    Calls Tryz.prog 68 #[.slice s.a s.len s.cap] w fun e w' => ∃ v', e = .returned v' ∧ w'.ownsRow w.heap.size 23 1 v' (Rg.bordersTo s.l).length (vn (Rg.bordersTo s.l)) ∧ Below w.heap.size w w' := by
  obtain ⟨a, len, cap, g, off, l⟩ := s
  have hll : l.length = len := hs.hb
  simp only at hl hsm
  have HP := veil hs
  have HL := veil hll
  have HSM := veil hsm
  have HBL := veil (fun k (hk : k ≤ len) => show (Rg.bordersTo (l.take k)).length ≤ 2 * k from by have := Rg.borders_length (l.take k); rw [List.length_take] at this; omega)
  clear hs hll hsm
  go_enter Tryz.func68, Tryz.ntmps68
  go_wp2_with fail
  go_loopw [3, 4] (fun v i wr => ∃ k : Nat, k ≤ len ∧ i = .int .i64 k ∧ wr.ownsRow w.heap.size 23 1 v (Rg.bordersTo (l.take k)).length (vn (Rg.bordersTo (l.take k))) ∧ (v = .slice none 0 0 ∨ 0 < (Rg.bordersTo (l.take k)).length) ∧ Below w.heap.size w wr)
    (fun _ i _ => len - (intOf i).toNat)
  case atStart => exact ⟨0, Nat.zero_le _, rfl, ⟨rfl, .inl ⟨rfl, rfl⟩⟩, .inl rfl, Below.refl _ _⟩
  case round =>
    obtain ⟨k, hk, rfl, hown, hv, hbel⟩ := hrel
    obtain ⟨va, vc, rfl, _, _⟩ := own_slice hown
    have HOWN := veil hown
    have HV := veil hv
    have HB := veil hbel
    by_cases hlt : k < len
    · have e1 : a = some ⟨g, off, none⟩ := HP.out.at_ (show 0 < len by omega)
      subst e1
      obtain ⟨c1, c2⟩ := (HP.out.below hbel).cell k hlt
      have sm := HSM.out k hlt
      have sm1 := HP.out.small k
      simp only at c1 c2 sm1
      have P1 := veil (ref_put8 _ w.heap.size (gr l k).1 _ wr hown hbel.size (by have := HBL.out k hk; omega) hv)
      have hwr : IntKind.u64.wrap (((gr l k).2 : Int) + 1) = (((gr l k).2 + 1 : Nat) : Int) := by rw [IntKind.wrap_u64]; omega
      have c2b := fun (w' : World) (h : Below w.heap.size w w') => ((HP.out.below h).cell k hlt).2
      have HC2 := veil c2b
      clear hown hv hbel c2 c2b
      generalize hy : ((gr l k).1 : Int) = y at *
      go_wp2_with fail
      refine P1.out.mono ?_
      rintro e1 w1 ⟨v1, rfl, hown1, hb1⟩
      obtain ⟨a1, c1', rfl, _, _⟩ := own_slice hown1
      have B1 := HB.out.trans (hb1.mono HB.out.size)
      have hl1 : (Rg.putN (Rg.bordersTo (l.take k)) (gr l k).1).length ≤ 1000 := by
        have := HBL.out k hk
        have := Rg.putN_length (Rg.bordersTo (l.take k)) (gr l k).1
        omega
      have P2 := veil (ref_put8 _ w.heap.size ((gr l k).2 + 1) _ w1 hown1 B1.size hl1 (.inr (putN_pos _ _)))
      have c2 := HC2.out w1 B1
      have HB1 := veil B1
      clear hown1 hb1 B1 hl1 c1
      generalize (((gr l k).2 + 1 : Nat) : Int) = z1 at *
      generalize ((gr l k).2 : Int) = z at *
      go_wp2_with fail
      refine P2.out.mono ?_
      rintro e2 w2 ⟨v2, rfl, hown2, hb2⟩
      obtain ⟨a2, c2', rfl, _, _⟩ := own_slice hown2
      rw [← borders_take (by rw [HL.out]; exact hlt)] at hown2
      have HO2 := veil hown2
      have HB2 := veil (HB1.out.trans (hb2.mono HB1.out.size))
      have HPO := veil (show 0 < (Rg.bordersTo (l.take (k + 1))).length by rw [borders_take (by rw [HL.out]; exact hlt)]; exact putN_pos _ _)
      clear hown2 hb2 P1 P2
      rw [← borders_take (by rw [HL.out]; exact hlt)]
      go_wp2
      go_roundw
      case rel => exact ⟨k + 1, by omega, by go_num, HO2.out, .inr HPO.out, HB2.out⟩
      case measure => simp [intOf]; omega
    · obtain rfl : len = k := by omega
      have HO := veil (show wr.ownsRow w.heap.size 23 1 (.slice va (Rg.bordersTo l).length vc) (Rg.bordersTo l).length (vn (Rg.bordersTo l)) by
        have := HOWN.out
        rw [← HL.out, List.take_of_length_le (Nat.le_refl _)] at this
        exact this)
      clear hown hv hbel
      rw [← HL.out, List.take_of_length_le (Nat.le_refl _)]
      go_wp2
      go_ret
      exact ⟨_, rfl, HO.out, HB.out⟩
end Go.Proofs.YtalhfciiflcfbaaGreatDoor
