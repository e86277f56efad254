/-
  HelloProofs: the walk.
-/
import Derived.Test.YtjccjlhnjihfjaaDoorGhHeRefProof
import Derived.Test.YtjccjlhnjihfjaaDoorGhHeBackW
import Derived.Test.YtjccjlhnjihfjaaDoorGhKyTwin
namespace Go.Proofs.YtjccjlhnjihfjaaDoor
open Go Go.RowKit

theorem eqlB_self {a : Act} {o : Oper} (x y : Operand) (t' : TypeId) (p : List By) (hp : p.length = 32) (ho : o.op = .binOp .eql 23 x y t') (hx : a.eval x = .agg (bs p)) (hy : a.eval y = .agg (bs p)) (w : World) :
    (execOp a.eval o).run Tryd.prog w = .ok (.value (.bool true)) w := by
  have h := exec_eqlB x y t' p p hp hp ho hx hy w
  rwa [decide_eq_true rfl] at h

set_option maxRecDepth 20000 in
set_option maxHeartbeats 4000000 in
theorem proofs_walk (s t : SL) (sv : Bool) (w : World) (hL : Lens w) (hs : s.Ok w) (ht : t.Ok w) (ls : s.len ≤ 140737488351232) (lt : t.len ≤ 140737488351232) :
    Calls Tryd.prog 5 #[.slice s.a s.len s.cap, .slice t.a t.len t.cap, .bool sv] w fun e w' => e = .returned (.bool true) ∧ Below w.heap.size w w' := by
  obtain ⟨A, hA⟩ : ∃ A, A = pfA s.b t.b sv := ⟨_, rfl⟩
  obtain ⟨E, hE⟩ : ∃ E, E = pfE s.b t.b sv := ⟨_, rfl⟩
  have HA := veil hA
  have HE := veil hE
  have HAL := veil (show A.length = 32 by rw [hA]; exact pfA_length _ _ _)
  have HAS := veil (show (bs A).size = 32 by rw [bs_size, HAL.out])
  have HL := veil hL
  have HS := veil hs
  have HT := veil ht
  have LS := veil ls
  have LT := veil lt
  have hsb := veil hs.hb
  have htb := veil ht.hb
  have hee : (E == E) = true := by simp
  have hdec : (20000 < t.len ∧ t.len ≤ 1048576) ∨ (¬ 20000 < t.len) ∨ (20000 < t.len ∧ ¬ t.len ≤ 1048576) := by omega
  clear hA hE hL hs ht ls lt
  go_enter Tryd.func5, Tryd.ntmps5
  rcases hdec with ⟨k1, k2⟩ | hq
  · have d1 : decide ((20000 : Int) < (t.len : Int)) = true := decide_eq_true (by omega)
    have d2 : decide ((t.len : Int) ≤ 1048576) = true := decide_eq_true (by omega)
    clear k1 k2
    go_wp2_with fail
    refine (lives_any w HL.out).mono ?_
    rintro e1 w1 ⟨rfl, hb1⟩
    have B1 := veil hb1
    clear hb1
    go_wp2_with fail
    go_ret
    exact ⟨rfl, B1.out⟩
  have HGO : Hid (Calls Tryd.prog 15 #[.slice s.a s.len s.cap] w fun e w' => ∃ g, e = .returned (.slice (some ⟨g, 0, none⟩) s.len (s.len + 1)) ∧ Twin w' g s.b ∧ w.heap.size ≤ g ∧ Below w.heap.size w w') := twin_sl s w HS.out LS.out
  rcases hq with h1 | ⟨h1, h2⟩
  · have d1 : decide ((20000 : Int) < (t.len : Int)) = false := decide_eq_false (by omega)
    clear h1
    go_wp2_with fail
    refine HGO.out.mono ?_
    rintro e1 w1 ⟨gs, rfl, hts, _, hb1⟩
    have B1 := veil hb1
    have S1 := veil (HS.out.below hb1)
    have T1 := veil (HT.out.below hb1)
    have TS1 := veil hts
    clear hb1 hts HGO
    go_wp2_with fail
    refine (twin_sl t w1 T1.out LT.out).mono ?_
    rintro e2 w2 ⟨gt, rfl, htt, _, hb2⟩
    have B2 := veil (B1.out.trans (hb2.mono B1.out.size))
    have S2 := veil (S1.out.below hb2)
    have T2 := veil (T1.out.below hb2)
    have TS2 := veil (TS1.out.below hb2)
    have TT2 := veil htt
    clear hb2 htt S1 T1 TS1
    go_wp2_with fail
    refine (proof_any (twinS gs s.len s.b) (twinS gt t.len t.b) sv w2 (TS2.out.ok hsb.out) (TT2.out.ok htb.out)).mono ?_
    rintro e3 w3 ⟨rfl, hb3⟩
    have B3 := veil (B2.out.trans (hb3.mono B2.out.size))
    have S3 := veil (S2.out.below hb3)
    have T3 := veil (T2.out.below hb3)
    have TS3 := veil (TS2.out.below hb3)
    have TT3 := veil (TT2.out.below hb3)
    clear hb3 S2 T2 TS2 TT2
    have hAe : pfA (twinS gs s.len s.b).b (twinS gt t.len t.b).b sv = A := HA.out.symm
    have hEe : pfE (twinS gs s.len s.b).b (twinS gt t.len t.b).b sv = E := HE.out.symm
    rw [hAe, hEe]
    clear hAe hEe
    obtain ⟨W4, hW4⟩ : ∃ W4, W4 = w3.alloc (.cells (bs A) 23) := ⟨_, rfl⟩
    have b4 : Below w3.heap.size w3 W4 := by rw [hW4]; exact (Below.refl _ w3).alloc (Nat.le_refl _) _
    have r4 : Row W4 w3.heap.size 23 (bs A) := by rw [hW4]; exact Row.new _ _ _
    have B4 := veil (B3.out.trans (b4.mono B3.out.size))
    have S4 := veil (S3.out.below b4)
    have T4 := veil (T3.out.below b4)
    have TS4 := veil (TS3.out.below b4)
    have TT4 := veil (TT3.out.below b4)
    have R4 := veil r4
    have HW4 := veil hW4
    clear b4 r4 hW4 S3 T3 TS3 TT3
    go_wp2_with (first
      | (with_reducible (show wpList _ _ _ (⟨_, Op.alloc 23, _, _, _, _⟩ :: _) _ _)
         refine alloc_row rfl 23 rfl (bs z32) (by kernel_rfl) ?_)
      | (with_reducible (show wpList _ _ _ (⟨_, Op.store 23 (.tmp 9) _, _, _, _, _⟩ :: _) _ _)
         refine store_new rfl 23 _ _ rfl w3.heap.size (bs A) rfl rfl _ _ rfl 32 (by kernel_rfl) (by rfl) HAS.out (bs_one _) ?_
         rw [← HW4.out]))
    refine (refProof_any s t sv W4 S4.out T4.out).mono ?_
    rintro e5 w5 ⟨rfl, hb5⟩
    have B5 := veil (B4.out.trans (hb5.mono B4.out.size))
    have S5 := veil (S4.out.below hb5)
    have T5 := veil (T4.out.below hb5)
    have TS5 := veil (TS4.out.below hb5)
    have TT5 := veil (TT4.out.below hb5)
    have R5 := veil (R4.out.below hb5 R4.out.lt)
    clear hb5 S4 T4 TS4 TT4 R4 HW4
    rw [← HA.out, ← HE.out]
    obtain ⟨W6, hW6⟩ : ∃ W6, W6 = w5.alloc (.cells (bs A) 23) := ⟨_, rfl⟩
    have b6 : Below w5.heap.size w5 W6 := by rw [hW6]; exact (Below.refl _ w5).alloc (Nat.le_refl _) _
    have r6 : Row W6 w5.heap.size 23 (bs A) := by rw [hW6]; exact Row.new _ _ _
    have B6 := veil (B5.out.trans (b6.mono B5.out.size))
    have S6 := veil (S5.out.below b6)
    have T6 := veil (T5.out.below b6)
    have TS6 := veil (TS5.out.below b6)
    have TT6 := veil (TT5.out.below b6)
    have R6 := veil (R5.out.below b6 R5.out.lt)
    have X6 := veil r6
    have HW6 := veil hW6
    clear b6 r6 hW6 S5 T5 TS5 TT5 R5 B5
    go_wp2_with (first
      | (with_reducible (show wpList _ _ _ (⟨_, Op.alloc 23, _, _, _, _⟩ :: _) _ _)
         refine alloc_row rfl 23 rfl (bs z32) (by kernel_rfl) ?_)
      | (with_reducible (show wpList _ _ _ (⟨_, Op.store 23 (.tmp 11) _, _, _, _, _⟩ :: _) _ _)
         refine store_new rfl 23 _ _ rfl w5.heap.size (bs A) rfl rfl _ _ rfl 32 (by kernel_rfl) (by rfl) HAS.out (bs_one _) ?_
         rw [← HW6.out])
      | (with_reducible (show wpList _ _ _ (⟨some 40, Op.load 23 _, _, _, _, _⟩ :: _) _ _)
         refine load_row rfl 23 _ rfl w3.heap.size rfl _ _ R6.out 32 5 Tryd.underlying23 (by kernel_rfl) HAS.out ?_)
      | (with_reducible (show wpList _ _ _ (⟨some 41, Op.load 23 _, _, _, _, _⟩ :: _) _ _)
         refine load_row rfl 23 _ rfl w5.heap.size rfl _ _ X6.out 32 5 Tryd.underlying23 (by kernel_rfl) HAS.out ?_)
      | (with_reducible (show wpList _ _ _ (⟨some 42, Op.binOp _ _ _ _ _, _, _, _, _⟩ :: _) _ _)
         refine value_G (by rfl) (.bool true) (eqlB_self (.tmp 40) (.tmp 41) _ A HAL.out rfl rfl rfl _) ?_))
    refine (left_sl s gs W6 S6.out LS.out TS6.out).mono ?_
    rintro e7 w7 ⟨rfl, hb7⟩
    have C7 := veil hb7
    clear hb7
    go_wp2_with fail
    refine (left_sl t gt w7 (T6.out.below C7.out) LT.out (TT6.out.below C7.out)).mono ?_
    rintro e8 w8 ⟨rfl, hb8⟩
    have B8 := veil (B6.out.trans ((C7.out.trans (hb8.mono C7.out.size)).mono B6.out.size))
    clear hb8 C7 S6 T6 TS6 TT6 R6 X6 B6 HW6
    go_wp2_with fail
    refine (lives_any w8 (HL.out.step B8.out)).mono ?_
    rintro e9 w9 ⟨rfl, hb9⟩
    have B9 := veil (B8.out.trans (hb9.mono B8.out.size))
    clear hb9
    go_wp2_with fail
    go_ret
    exact ⟨rfl, B9.out⟩
  · have d1 : decide ((20000 : Int) < (t.len : Int)) = true := decide_eq_true (by omega)
    have d2 : decide ((t.len : Int) ≤ 1048576) = false := decide_eq_false (by omega)
    clear h1 h2
    go_wp2_with fail
    refine HGO.out.mono ?_
    rintro e1 w1 ⟨gs, rfl, hts, _, hb1⟩
    have B1 := veil hb1
    have S1 := veil (HS.out.below hb1)
    have T1 := veil (HT.out.below hb1)
    have TS1 := veil hts
    clear hb1 hts HGO
    go_wp2_with fail
    refine (twin_sl t w1 T1.out LT.out).mono ?_
    rintro e2 w2 ⟨gt, rfl, htt, _, hb2⟩
    have B2 := veil (B1.out.trans (hb2.mono B1.out.size))
    have S2 := veil (S1.out.below hb2)
    have T2 := veil (T1.out.below hb2)
    have TS2 := veil (TS1.out.below hb2)
    have TT2 := veil htt
    clear hb2 htt S1 T1 TS1
    go_wp2_with fail
    refine (proof_any (twinS gs s.len s.b) (twinS gt t.len t.b) sv w2 (TS2.out.ok hsb.out) (TT2.out.ok htb.out)).mono ?_
    rintro e3 w3 ⟨rfl, hb3⟩
    have B3 := veil (B2.out.trans (hb3.mono B2.out.size))
    have S3 := veil (S2.out.below hb3)
    have T3 := veil (T2.out.below hb3)
    have TS3 := veil (TS2.out.below hb3)
    have TT3 := veil (TT2.out.below hb3)
    clear hb3 S2 T2 TS2 TT2
    have hAe : pfA (twinS gs s.len s.b).b (twinS gt t.len t.b).b sv = A := HA.out.symm
    have hEe : pfE (twinS gs s.len s.b).b (twinS gt t.len t.b).b sv = E := HE.out.symm
    rw [hAe, hEe]
    clear hAe hEe
    obtain ⟨W4, hW4⟩ : ∃ W4, W4 = w3.alloc (.cells (bs A) 23) := ⟨_, rfl⟩
    have b4 : Below w3.heap.size w3 W4 := by rw [hW4]; exact (Below.refl _ w3).alloc (Nat.le_refl _) _
    have r4 : Row W4 w3.heap.size 23 (bs A) := by rw [hW4]; exact Row.new _ _ _
    have B4 := veil (B3.out.trans (b4.mono B3.out.size))
    have S4 := veil (S3.out.below b4)
    have T4 := veil (T3.out.below b4)
    have TS4 := veil (TS3.out.below b4)
    have TT4 := veil (TT3.out.below b4)
    have R4 := veil r4
    have HW4 := veil hW4
    clear b4 r4 hW4 S3 T3 TS3 TT3
    go_wp2_with (first
      | (with_reducible (show wpList _ _ _ (⟨_, Op.alloc 23, _, _, _, _⟩ :: _) _ _)
         refine alloc_row rfl 23 rfl (bs z32) (by kernel_rfl) ?_)
      | (with_reducible (show wpList _ _ _ (⟨_, Op.store 23 (.tmp 9) _, _, _, _, _⟩ :: _) _ _)
         refine store_new rfl 23 _ _ rfl w3.heap.size (bs A) rfl rfl _ _ rfl 32 (by kernel_rfl) (by rfl) HAS.out (bs_one _) ?_
         rw [← HW4.out]))
    refine (refProof_any s t sv W4 S4.out T4.out).mono ?_
    rintro e5 w5 ⟨rfl, hb5⟩
    have B5 := veil (B4.out.trans (hb5.mono B4.out.size))
    have S5 := veil (S4.out.below hb5)
    have T5 := veil (T4.out.below hb5)
    have TS5 := veil (TS4.out.below hb5)
    have TT5 := veil (TT4.out.below hb5)
    have R5 := veil (R4.out.below hb5 R4.out.lt)
    clear hb5 S4 T4 TS4 TT4 R4 HW4
    rw [← HA.out, ← HE.out]
    obtain ⟨W6, hW6⟩ : ∃ W6, W6 = w5.alloc (.cells (bs A) 23) := ⟨_, rfl⟩
    have b6 : Below w5.heap.size w5 W6 := by rw [hW6]; exact (Below.refl _ w5).alloc (Nat.le_refl _) _
    have r6 : Row W6 w5.heap.size 23 (bs A) := by rw [hW6]; exact Row.new _ _ _
    have B6 := veil (B5.out.trans (b6.mono B5.out.size))
    have S6 := veil (S5.out.below b6)
    have T6 := veil (T5.out.below b6)
    have TS6 := veil (TS5.out.below b6)
    have TT6 := veil (TT5.out.below b6)
    have R6 := veil (R5.out.below b6 R5.out.lt)
    have X6 := veil r6
    have HW6 := veil hW6
    clear b6 r6 hW6 S5 T5 TS5 TT5 R5 B5
    go_wp2_with (first
      | (with_reducible (show wpList _ _ _ (⟨_, Op.alloc 23, _, _, _, _⟩ :: _) _ _)
         refine alloc_row rfl 23 rfl (bs z32) (by kernel_rfl) ?_)
      | (with_reducible (show wpList _ _ _ (⟨_, Op.store 23 (.tmp 11) _, _, _, _, _⟩ :: _) _ _)
         refine store_new rfl 23 _ _ rfl w5.heap.size (bs A) rfl rfl _ _ rfl 32 (by kernel_rfl) (by rfl) HAS.out (bs_one _) ?_
         rw [← HW6.out])
      | (with_reducible (show wpList _ _ _ (⟨some 40, Op.load 23 _, _, _, _, _⟩ :: _) _ _)
         refine load_row rfl 23 _ rfl w3.heap.size rfl _ _ R6.out 32 5 Tryd.underlying23 (by kernel_rfl) HAS.out ?_)
      | (with_reducible (show wpList _ _ _ (⟨some 41, Op.load 23 _, _, _, _, _⟩ :: _) _ _)
         refine load_row rfl 23 _ rfl w5.heap.size rfl _ _ X6.out 32 5 Tryd.underlying23 (by kernel_rfl) HAS.out ?_)
      | (with_reducible (show wpList _ _ _ (⟨some 42, Op.binOp _ _ _ _ _, _, _, _, _⟩ :: _) _ _)
         refine value_G (by rfl) (.bool true) (eqlB_self (.tmp 40) (.tmp 41) _ A HAL.out rfl rfl rfl _) ?_))
    refine (left_sl s gs W6 S6.out LS.out TS6.out).mono ?_
    rintro e7 w7 ⟨rfl, hb7⟩
    have C7 := veil hb7
    clear hb7
    go_wp2_with fail
    refine (left_sl t gt w7 (T6.out.below C7.out) LT.out (TT6.out.below C7.out)).mono ?_
    rintro e8 w8 ⟨rfl, hb8⟩
    have B8 := veil (B6.out.trans ((C7.out.trans (hb8.mono C7.out.size)).mono B6.out.size))
    clear hb8 C7 S6 T6 TS6 TT6 R6 X6 B6 HW6
    go_wp2_with fail
    refine (lives_any w8 (HL.out.step B8.out)).mono ?_
    rintro e9 w9 ⟨rfl, hb9⟩
    have B9 := veil (B8.out.trans (hb9.mono B8.out.size))
    clear hb9
    go_wp2_with fail
    go_ret
    exact ⟨rfl, B9.out⟩
end Go.Proofs.YtjccjlhnjihfjaaDoor
