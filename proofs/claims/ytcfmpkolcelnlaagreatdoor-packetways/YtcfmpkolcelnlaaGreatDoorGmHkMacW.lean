/-
  What hkdf.mac answers.
-/
import Derived.Test.YtcfmpkolcelnlaaGreatDoorGm17
import Derived.Test.YtcfmpkolcelnlaaGreatDoorGmHkTwo
namespace Go.Proofs.YtcfmpkolcelnlaaGreatDoor
open Go Go.RowKit

theorem joinB_cons (q : SL) (ls : List SL) : joinB (q :: ls) = q.b ++ joinB ls := by simp [joinB]

/-- A row of the call's own that is not empty. -/
theorem own_slice {w : World} {base n : Nat} {e : TypeId} {v : Value} {xs : List Value} (h : w.ownsRow base e 1 v n xs) (hn : 0 < n) : ∃ g c, v = .slice (some ⟨g, 0, none⟩) n c ∧ g < w.heap.size ∧ base ≤ g ∧ ∀ j u, xs[j]? = some u → w.cell? ⟨g, 0 + j, none⟩ = some u := by
  rcases h.2 with ⟨_, rfl⟩ | ⟨g, c, cur, rfl, hg, hh, _, _, _, _⟩
  · omega
  · refine ⟨g, c, rfl, (Array.getElem?_eq_some_iff.1 hh).1, hg, fun j u hu => ?_⟩
    have := h.cells (g := g) rfl j u hu
    rw [add_off] at this
    rw [Nat.zero_add]
    exact this
theorem own_built (w : World) (base : Nat) (t : TypeId) (v : Value) (hb : base ≤ w.heap.size) : (w.alloc (.cells #[v] t)).ownsRow base t 1 (.slice (some ⟨w.heap.size, 0, none⟩) 1 1) 1 [v] :=
  ⟨rfl, .inr ⟨w.heap.size, 1, #[v], rfl, hb, heap_alloc_new w _, Nat.le_refl _, by unfold maxLen; omega, rfl, rfl⟩⟩
theorem vls_get (ls : List SL) (j : Nat) (u : Value) (h : (vls ls).toList[j]? = some u) : ∃ s, ls[j]? = some s ∧ u = .slice s.a s.len s.cap := by
  unfold vls at h
  rw [List.getElem?_map] at h
  cases hs : ls[j]? with
  | none => rw [hs] at h; cases h
  | some s => rw [hs] at h; exact ⟨s, rfl, (Option.some.inj h).symm⟩

set_option maxRecDepth 20000 in
set_option maxHeartbeats 1000000 in
theorem mac_any (k : List By) (hk : k.length = 64) (L o m c : Nat) (ls : List SL) (w : World) (hm : ls.length = m) (hm2 : m ≤ 900) (hok : ∀ s ∈ ls, s.Ok w) (htot : (joinB ls).length ≤ 1048512) (hL : L < w.heap.size)
    (hc : ∀ (j : Nat) (s : SL), ls[j]? = some s → w.cell? ⟨L, o + j, none⟩ = some (.slice s.a s.len s.cap)) :
    Calls Tryz.prog 199 #[.agg (bs k), .slice (some ⟨L, o, none⟩) m c] w fun e w' => e = .returned (.agg (bs (macK k (joinB ls)))) ∧ Below w.heap.size w w' := by
  have HK := veil hk
  have HM := veil hm
  have HOK := veil hok
  have HC := veil hc
  have HT := veil htot
  clear hk hm hok hc htot
  have hksz : (bs k).size = 64 := by rw [bs_size, HK.out]
  have b0 : Below w.heap.size w ((w.alloc (.cells (bs k) 260)).alloc (.cells (bs z32) 112)) := ((Below.refl _ w).alloc (Nat.le_refl _) _).alloc (by simp) _
  obtain ⟨w0, hw0⟩ : ∃ w0, w0 = (w.alloc (.cells (bs k) 260)).alloc (.cells (bs z32) 112) := ⟨_, rfl⟩
  have q0 : Row w0 w.heap.size 260 (bs k) := by rw [hw0]; exact (Row.new _ _ _).alloc _
  have q1 : Row w0 (w.heap.size + 1) 112 (bs z32) := by rw [hw0]; exact Row.new1 _ _ _ _
  have hs0 : w0.heap.size = w.heap.size + 2 := by rw [hw0]; simp
  rw [← hw0] at b0
  go_enter Tryz.func199, Tryz.ntmps199
  go_wp2_with (with_reducible (show wpList _ _ _ (⟨_, Op.alloc 112, _, _, _, _⟩ :: _) _ _)
               refine alloc_row rfl 112 rfl (bs z32) (by kernel_rfl) ?_)
  show Code.wp _ _ _ _ ((w.alloc (.cells (bs k) 260)).alloc (.cells (bs z32) 112))
  rw [← hw0]
  clear hw0
  refine wp_mono (Q := fun e a' W => e = .normal ∧ ∃ g5 g6, g5 ≠ g6 ∧ w.heap.size + 2 ≤ g5 ∧ w.heap.size + 2 ≤ g6 ∧ a' = ({ tmps := #[.agg (bs k), .slice (some ⟨L, o, none⟩) m c, ptr w.heap.size, undef, ptr (w.heap.size + 1), ptr g5, ptr g6, undef, .agg (bs k), .agg (bs (padX k 54)), .agg (bs k), .agg (bs (padX k 92)), undef, undef, undef, undef, undef, undef, undef, undef, undef], defers := [] } : Act) ∧
      Row W g5 216 (bs (padX k 54)) ∧ Row W g6 216 (bs (padX k 92)) ∧ Row W (w.heap.size + 1) 112 (bs z32) ∧ Below w.heap.size w W) ?_ ?_
  · refine held_any (S := fun W => Row W w.heap.size 260 (bs k) ∧ Row W (w.heap.size + 1) 112 (bs z32) ∧ Below w.heap.size w W) (by kernel_rfl) ⟨q0.drew, q1.drew, b0.drew⟩ (fun W hW => ?_)
    refine H_load 0 260 _ w.heap.size 260 (bs k) 64 5 rfl rfl rfl Tryz.underlying260 (by kernel_rfl) hksz (fun W h => h.1) (by kernel_rfl) (by kernel_rfl) (by kernel_rfl) (fun _ _ _ _ h => nomatch h.1) rfl hW ?_
    refine H_load 2 260 _ w.heap.size 260 (bs k) 64 5 rfl rfl rfl Tryz.underlying260 (by kernel_rfl) hksz (fun W h => h.1) (by kernel_rfl) (by kernel_rfl) (by kernel_rfl) (fun _ _ _ _ h => nomatch h.1) rfl hW ?_
    refine two_two (w.heap.size + 2) 216 (bs zB) 1 3 4 5
      (fun v5 v6 v9 v11 => { tmps := #[.agg (bs k), .slice (some ⟨L, o, none⟩) m c, ptr w.heap.size, undef, ptr (w.heap.size + 1), v5, v6, undef, .agg (bs k), v9, .agg (bs k), v11, undef, undef, undef, undef, undef, undef, undef, undef, undef], defers := [] })
      (fun c1 c3 c4 c5 => #[true, c1, true, c3, c4, c5, false, false]) (.agg (bs (padX k 54))) (.agg (bs (padX k 92)))
      ?_ (fun _ _ => rfl) (fun _ _ => rfl) (fun _ _ _ => rfl) (fun _ _ _ => rfl) ?_ ?_ ?_ ?_ ?_ ?_ 2 ?_ W hW
    · intro c1 c3 c4 c5 h1 h2
      cases c1 <;> cases c3 <;> cases c4 <;> cases c5 <;> first | (simp at h1; done) | (simp at h2; done) | kernel_rfl
    · intro v5 v6 v11 W K hS hK
      refine O_call rfl rfl 204 #[.agg (bs k), .int .u8 (v8 54)] (by go_simp; rfl) ?_
      exact (pad_any k 54 HK.out W).mono (by rintro e W' ⟨rfl, hb⟩; exact ⟨_, rfl, hK W' hb⟩)
    · intro v5 v6 v9 W K hS hK
      refine O_call rfl rfl 204 #[.agg (bs k), .int .u8 (v8 92)] (by go_simp; rfl) ?_
      exact (pad_any k 92 HK.out W).mono (by rintro e W' ⟨rfl, hb⟩; exact ⟨_, rfl, hK W' hb⟩)
    · intro v6 v9 v11 W K hK
      exact O_value rfl rfl _ _ (exec_alloc_row 216 rfl (bs zB) (by kernel_rfl)) hK
    · intro v5 v9 v11 W K hK
      exact O_value rfl rfl _ _ (exec_alloc_row 216 rfl (bs zB) (by kernel_rfl)) hK
    · rintro W W' ⟨h0, h1, h2⟩ hb
      exact ⟨h0.below hb h0.lt, h1.below hb h1.lt, h2.trans (hb.mono h2.size)⟩
    · rintro W ⟨h0, h1, h2⟩
      have := h1.lt
      omega
    · rintro g5 g6 W ⟨h0, h1, h2⟩ r5 r6 b5 b6 hne
      have hp5 : (bs (padX k 54)).size = 64 := by rw [bs_size, padX_length, HK.out]
      have hp6 : (bs (padX k 92)).size = 64 := by rw [bs_size, padX_length, HK.out]
      have hS5 := bSetRow h2 (show w.heap.size ≤ g5 by omega) (bs (padX k 54))
      refine H_one 6 (by kernel_rfl) (O_skip rfl rfl _ (run_store_row 216 _ _ rfl g5 (bs (padX k 54)) rfl rfl _ _ r5 64 (by kernel_rfl) rfl hp5 (bs_one _)) ⟨⟨h0.putOther (by omega) _, h1.putOther (by omega) _, hS5⟩, ?_⟩)
      have r6' := r6.putOther (fun e => hne e.symm) (bs (padX k 54))
      refine H_one 7 (by kernel_rfl) (O_skip rfl rfl _ (run_store_row 216 _ _ rfl g6 (bs (padX k 92)) rfl rfl _ _ r6' 64 (by kernel_rfl) rfl hp6 (bs_one _)) ⟨⟨(h0.putOther (by omega) _).putOther (by omega) _, (h1.putOther (by omega) _).putOther (by omega) _, bSetRow hS5 (by omega) _⟩, ?_⟩)
      refine wpAnyH_done (by kernel_rfl) ⟨rfl, g5, g6, hne, b5, b6, rfl, (r5.put _).putOther hne _, r6'.put _, (h1.putOther (by omega) _).putOther (by omega) _, bSetRow hS5 (by omega) _⟩ _
  · rintro e a' W ⟨rfl, g5, g6, hne, b5, b6, rfl, r5, r6, r4, hbel⟩
    clear b0 q0 q1 hs0 w0
    have hpl : ∀ x, (padX k x).length = 64 := fun x => by rw [padX_length, HK.out]
    have hsz := hbel.size
    have hr5 := r5.lt
    have hr6 := r6.lt
    have hr4 := r4.lt
    obtain ⟨i2, hi, hz0, hz1, hz2⟩ := info_parts (P := Tryz.prog) (e := 30) (z := .slice none 0 0) (size := 1) (bytes := 24) (by kernel_rfl)
    have HR5 := veil r5
    have HR6 := veil r6
    have HR4 := veil r4
    have HBL := veil hbel
    have HPL := veil hpl
    clear r5 r6 r4 hbel hpl
    unfold ptr
    go_wp2_with (with_reducible (show wpList _ _ _ (⟨some 15, Op.call _, _, _, _, _⟩ :: _) _ _)
                 refine wpList_append_own _ rfl _ _ 102 rfl W.heap.size 30 i2 (.slice none 0 0) 1 24 Tryz.underlying102 hi hz0 hz1 hz2 rfl (by decide) _ 1 _ rfl (own_built W W.heap.size _ _ (Nat.le_refl _)) ⟨L, o, none⟩ m c (vls ls).toList rfl (by simp [vls, HM.out]) (fun j u hu => by
                   obtain ⟨s, hs, rfl⟩ := vls_get ls j u hu
                   rw [add_at]
                   have hbA : Below W.heap.size W (W.alloc (.cells #[.slice (some ⟨g5, 0, none⟩) 64 64] 30)) := (Below.refl _ W).alloc (Nat.le_refl _) _
                   exact (hbA.cell (p := ⟨L, o + j, none⟩) (by show L < W.heap.size; omega)).trans ((HBL.out.cell (p := ⟨L, o + j, none⟩) hL).trans (HC.out j s hs))) (fun u hu => by
                   obtain ⟨s, _, rfl⟩ := List.mem_map.1 (by simpa [vls] using hu)
                   rfl) (by unfold maxLen; omega) (by omega) (by simp) ?_
                 intro v2 w2 hown2 hgrow2 _
                 obtain ⟨g2, c2, rfl, hg2, hg2', hcs2⟩ := own_slice hown2 (by omega))
    have hbA : Below W.heap.size W w2 := ((Below.refl _ W).alloc (Nat.le_refl _) _).grown hgrow2 (by simp) (fun q e => by cases e; exact Nat.le_refl _)
    clear hown2 hgrow2
    have hs2 := hbA.size
    have m5 := HR5.out.below hbA hr5
    have m6 := HR6.out.below hbA hr6
    have m4 := HR4.out.below hbA hr4
    have hb2 := HBL.out.trans (hbA.mono hsz)
    have hjs : joinB (rowN g5 64 (padX k 54) :: ls) = padX k 54 ++ joinB ls := joinB_cons _ _
    refine (sumOf_any g2 0 (1 + m) c2 (rowN g5 64 (padX k 54) :: ls) w2 (by rw [List.length_cons, HM.out]; omega) (by omega) (fun s hs => by
      rcases List.mem_cons.1 hs with rfl | hs
      · exact rowN_ok m5 (HPL.out 54)
      · exact ((HOK.out s hs).below hb2)) (by rw [hjs, List.length_append, HPL.out]; have := HT.out; omega) hg2 (fun j s hs => hcs2 j _ (by
      cases j with
      | zero => obtain rfl := Option.some.inj hs; rfl
      | succ j =>
        have hs' : ls[j]? = some s := hs
        show (vls ls).toList[j]? = _
        unfold vls
        rw [List.getElem?_map, hs']
        rfl))).mono ?_
    rintro e3 w3 ⟨rfl, hb3⟩
    rw [hjs]
    obtain ⟨T, hT⟩ : ∃ T, T = sumL (padX k 54 ++ joinB ls) := ⟨_, rfl⟩
    have hTl : T.length = 32 := by rw [hT, sumL_length]
    have HTT := veil hT
    rw [← hT]
    have k6 := m6.below hb3 m6.lt
    have k4 := m4.below hb3 m4.lt
    have hbl3 := hb2.trans (hb3.mono hb2.size)
    have hs3 := hb3.size
    clear hb3 hb2 m5 m6 m4 hjs hcs2 hT hbA
    have hsum : (bs T).size = 32 := by rw [bs_size, hTl]
    go_wp2_with (first
      | (with_reducible (show wpList _ _ _ (⟨_, Op.alloc 112, _, _, _, _⟩ :: _) _ _)
         refine alloc_row rfl 112 rfl (bs z32) (by kernel_rfl) ?_)
      | (with_reducible (show wpList _ _ _ (⟨_, Op.store 112 _ _, _, _, _, _⟩ :: _) _ _)
         refine store_new (w := w3) (by rfl) 112 _ _ (by rfl) w3.heap.size (bs T) (by rfl) (by rfl) 112 (bs z32) (by rfl) 32 (by kernel_rfl) (by rfl) hsum (bs_one _) ?_))
    have n7 : Row (w3.alloc (.cells (bs T) 112)).drew w3.heap.size 112 (bs T) := (Row.new _ _ _).drew
    have n6 := (k6.alloc (.cells (bs T) 112)).drew
    have n4 := (k4.alloc (.cells (bs T) 112)).drew
    have hbl4 := (hbl3.alloc hbl3.size (.cells (bs T) 112)).drew
    refine held_at (by kernel_rfl) ?_
    generalize (w3.alloc (.cells (bs T) 112)).drew = w4 at *
    have hs4 := hbl4.size
    have hn6 := n6.lt
    have hn4 := n4.lt
    refine H_take 0 (.slice (some ⟨g6, 0, none⟩) 64 64) rfl (fun W _ => by go_simp) (by kernel_rfl) (by kernel_rfl) (by kernel_rfl) (fun _ _ _ _ h => h) rfl trivial ?_
    refine H_take 1 (.slice (some ⟨w3.heap.size, 0, none⟩) 32 32) rfl (fun W _ => by go_simp) (by kernel_rfl) (by kernel_rfl) (by kernel_rfl) (fun _ _ _ _ h => h) rfl trivial ?_
    refine H_one 2 (by kernel_rfl) (O_value rfl rfl (.slice (some ⟨w4.heap.size, 0, none⟩) 2 2) (w4.alloc (.cells (vls [rowN g6 64 (padX k 92), rowN w3.heap.size 32 T]) 30)) (by go_simp; rfl) ⟨trivial, ?_⟩)
    have hjs : joinB [rowN g6 64 (padX k 92), rowN w3.heap.size 32 T] = padX k 92 ++ T := by rw [joinB_cons, joinB_one]; rfl
    refine H_one 3 (by kernel_rfl) (O_call rfl rfl 200 #[.slice (some ⟨w4.heap.size, 0, none⟩) 2 2] (by go_simp) ?_)
    have hbB : Below w4.heap.size w4 (w4.alloc (.cells (vls [rowN g6 64 (padX k 92), rowN w3.heap.size 32 T]) 30)) := (Below.refl _ w4).alloc (Nat.le_refl _) _
    refine (sumOf_any w4.heap.size 0 2 2 [rowN g6 64 (padX k 92), rowN w3.heap.size 32 T] _ rfl (by decide) (fun s hs => by
      simp only [List.mem_cons, List.not_mem_nil, or_false] at hs
      rcases hs with rfl | rfl
      · exact (rowN_ok n6 (HPL.out 92)).alloc _
      · exact (rowN_ok n7 hTl).alloc _) (by rw [hjs, List.length_append, HPL.out, hTl]; omega) (by simp) (fun j s hs => new_lists w4 _ _ _ rfl j s hs)).mono ?_
    rintro e5 w5 ⟨rfl, hb5⟩
    rw [hjs]
    have hmac : sumL (padX k 92 ++ T) = macK k (joinB ls) := by rw [HTT.out]; rfl
    rw [hmac]
    have hb45 : Below w4.heap.size w4 w5 := hbB.trans (hb5.mono (by simp))
    have p4 := n4.below hb45 hn4
    have hbl5 := hbl4.trans (hb45.mono hs4)
    have hfin : (bs (macK k (joinB ls))).size = 32 := by rw [bs_size, macK_length]
    refine ⟨_, rfl, trivial, ?_⟩
    refine H_one 4 (by kernel_rfl) (O_skip rfl rfl _ (run_store_row 112 _ _ rfl (w.heap.size + 1) (bs (macK k (joinB ls))) rfl rfl _ _ p4 32 (by kernel_rfl) rfl hfin (bs_one _)) ⟨trivial, ?_⟩)
    refine wpAnyH_done (by kernel_rfl) ?_ _
    have p5 := p4.put (bs (macK k (joinB ls)))
    have hbl6 := bSetRow hbl5 (show w.heap.size ≤ w.heap.size + 1 by omega) (bs (macK k (joinB ls)))
    generalize w5.setRow (w.heap.size + 1) (bs (macK k (joinB ls))) = w6 at *
    go_wp2
    refine bodyPost_ret (result_row rfl _ _ (w.heap.size + 1) _ _ p5 32 5 rfl Tryz.underlying112 (by kernel_rfl) hfin) rfl ⟨rfl, hbl6⟩
end Go.Proofs.YtcfmpkolcelnlaaGreatDoor
