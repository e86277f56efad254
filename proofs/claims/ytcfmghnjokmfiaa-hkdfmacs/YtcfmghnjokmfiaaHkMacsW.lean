/-
  HkdfMacs' walk.
-/
import Derived.Test.YtcfmghnjokmfiaaHkLaw
import Derived.Test.YtcfmghnjokmfiaaHkRefMacF
import Derived.Test.YtcfmghnjokmfiaaShaEq
namespace Go.Proofs.Ytcfmghnjokmfiaa
open Go Go.RowKit

theorem joinB_two (a b : SL) : (joinB [a, b]).length = a.b.length + b.b.length := by simp [joinB]

set_option maxRecDepth 20000 in
set_option maxHeartbeats 2000000 in
theorem macs_walk (k b : SL) (w : World) (hk : k.Ok w) (hb : b.Ok w) (hkl : k.len ≤ 140737488355328) (hbl : b.len ≤ 140737488355328) :
    Calls Try.prog 3 #[.slice k.a k.len k.cap, .slice b.a b.len b.cap] w fun e w' => e = .returned (.bool true) ∧ Below w.heap.size w w' := by
  have HK := veil hk
  have HB := veil hb
  have hkb := hk.hb
  have hbb := hb.hb
  clear hk hb
  have b0 : Below w.heap.size w (w.alloc (.cells (vls [k, b]) 22)) := (Below.refl _ w).alloc (Nat.le_refl _) _
  go_enter Try.func3, Try.ntmps3
  go_wp2_with fail
  show Calls _ _ _ (w.alloc (.cells (vls [k, b]) 22)) _
  refine (great_any w.heap.size 0 2 2 [k, b] _ rfl (by decide) (fun s hs => by
    simp only [List.mem_cons, List.not_mem_nil, or_false] at hs
    rcases hs with rfl | rfl
    · exact HK.out.below b0
    · exact HB.out.below b0) (fun s hs => by
    simp only [List.mem_cons, List.not_mem_nil, or_false] at hs
    rcases hs with rfl | rfl
    · exact hkl
    · exact hbl) (fun j s hs => new_lists w _ _ _ rfl j s hs)).mono ?_
  rintro e0 w0 ⟨rfl, hw0⟩
  rw [hw0, joinB_two, hkb, hbb]
  clear hw0 w0
  generalize w.alloc (.cells (vls [k, b]) 22) = W0 at *
  by_cases hg : 3145728 < k.len + b.len
  · rw [decide_eq_true hg]
    go_wp2_with fail
    go_ret
    exact ⟨rfl, b0⟩
  · rw [decide_eq_false hg]
    have HK0 := veil (HK.out.below b0)
    have HB0 := veil (HB.out.below b0)
    have hs0 := b0.size
    have HBl := veil b0
    clear HK HB b0
    go_wp2_with fail
    refine (twin_sl k W0 HK0.out (by omega)).mono ?_
    rintro e1 w1 ⟨gk, rfl, htk, hgk, hb1⟩
    have HK1 := veil (HK0.out.below hb1)
    have HB1 := veil (HB0.out.below hb1)
    have HTK := veil htk
    have HBl1 := veil (HBl.out.trans (hb1.mono hs0))
    have hs1 := hb1.size
    clear HK0 HB0 htk HBl hb1
    go_wp2_with fail
    refine (twin_sl b w1 HB1.out (by omega)).mono ?_
    rintro e2 w2 ⟨gb', rfl, htb, hgb, hb2⟩
    have HK2 := veil (HK1.out.below hb2)
    have HB2 := veil (HB1.out.below hb2)
    have HTK2 := veil (HTK.out.below hb2)
    have HTB2 := veil htb
    have HBl2 := veil (HBl1.out.trans (hb2.mono (by omega)))
    have hs2 := hb2.size
    clear HK1 HB1 HTK htb HBl1 hb2
    obtain ⟨T, hT⟩ : ∃ T, T = macA k.b b.b := ⟨_, rfl⟩
    obtain ⟨E, hE⟩ : ∃ E, E = macE k.b b.b := ⟨_, rfl⟩
    have hTl : T.length = 32 := by rw [hT, macA_length]
    have hTs : (bs T).size = 32 := by rw [bs_size, hTl]
    have HT := veil hT
    have HE := veil hE
    clear hT hE
    go_wp2_with fail
    refine (macF_any (twinS gk k.len k.b) (twinS gb' b.len b.b) w2 (HTK2.out.ok hkb) (HTB2.out.ok hbb)).mono ?_
    rintro e3 w3 ⟨rfl, hb3⟩
    rw [show macA (twinS gk k.len k.b).b (twinS gb' b.len b.b).b = T from HT.out.symm, show macE (twinS gk k.len k.b).b (twinS gb' b.len b.b).b = E from HE.out.symm]
    have HK3 := veil (HK2.out.below hb3)
    have HB3 := veil (HB2.out.below hb3)
    have HTK3 := veil (HTK2.out.below hb3)
    have HTB3 := veil (HTB2.out.below hb3)
    have HBl3 := veil (HBl2.out.trans (hb3.mono (by omega)))
    have hs3 := hb3.size
    clear HK2 HB2 HTK2 HTB2 HBl2 hb3
    go_wp2_with (first
      | (with_reducible (show wpList _ _ _ (⟨_, Op.alloc 25, _, _, _, _⟩ :: _) _ _)
         refine alloc_row rfl 25 rfl (bs z32) (by kernel_rfl) ?_)
      | (with_reducible (show wpList _ _ _ (⟨_, Op.store 25 _ _, _, _, _, _⟩ :: _) _ _)
         refine store_new (w := w3) (by rfl) 25 _ _ (by rfl) w3.heap.size (bs T) (by rfl) (by rfl) 25 (bs z32) (by rfl) 32 (by kernel_rfl) (by rfl) hTs (bs_one _) ?_))
    have bA : Below w3.heap.size w3 (w3.alloc (.cells (bs T) 25)) := (Below.refl _ w3).alloc (Nat.le_refl _) _
    have rA : Row (w3.alloc (.cells (bs T) 25)) w3.heap.size 25 (bs T) := Row.new _ _ _
    have HTK4 := veil (HTK3.out.below bA)
    have HTB4 := veil (HTB3.out.below bA)
    have HK4 := veil (HK3.out.below bA)
    have HB4 := veil (HB3.out.below bA)
    have HBl4 := veil (HBl3.out.trans (bA.mono (by omega)))
    have hs4 := bA.size
    have hsA := rA.lt
    clear HK3 HB3 HTK3 HTB3 HBl3 bA
    refine (extract_any (twinS gk k.len k.b) (twinS gb' b.len b.b) _ (HTK4.out.ok hkb) (HTB4.out.ok hbb)).mono ?_
    rintro e5 w5 ⟨rfl, hb5⟩
    rw [show macA (twinS gk k.len k.b).b (twinS gb' b.len b.b).b = T from HT.out.symm, show macE (twinS gk k.len k.b).b (twinS gb' b.len b.b).b = E from HE.out.symm]
    have rA5 := rA.below hb5 hsA
    have HK5 := veil (HK4.out.below hb5)
    have HB5 := veil (HB4.out.below hb5)
    have HTK5 := veil (HTK4.out.below hb5)
    have HTB5 := veil (HTB4.out.below hb5)
    have HBl5 := veil (HBl4.out.trans (hb5.mono (by omega)))
    have hs5 := hb5.size
    clear HK4 HB4 HTK4 HTB4 HBl4 hb5 rA
    generalize w3.alloc (.cells (bs T) 25) = w4 at *
    go_wp2_with (first
      | (with_reducible (show wpList _ _ _ (⟨_, Op.alloc 25, _, _, _, _⟩ :: _) _ _)
         refine alloc_row rfl 25 rfl (bs z32) (by kernel_rfl) ?_)
      | (with_reducible (show wpList _ _ _ (⟨_, Op.store 25 _ _, _, _, _, _⟩ :: _) _ _)
         refine store_new (w := w5) (by rfl) 25 _ _ (by rfl) w5.heap.size (bs T) (by rfl) (by rfl) 25 (bs z32) (by rfl) 32 (by kernel_rfl) (by rfl) hTs (bs_one _) ?_))
    have bB : Below w5.heap.size w5 (w5.alloc (.cells (bs T) 25)) := (Below.refl _ w5).alloc (Nat.le_refl _) _
    have rB : Row (w5.alloc (.cells (bs T) 25)) w5.heap.size 25 (bs T) := Row.new _ _ _
    have rA6 := rA5.below bB (by omega)
    have HTK6 := veil (HTK5.out.below bB)
    have HTB6 := veil (HTB5.out.below bB)
    have HK6 := veil (HK5.out.below bB)
    have HB6 := veil (HB5.out.below bB)
    have HBl6 := veil (HBl5.out.trans (bB.mono (by omega)))
    have hs6 := bB.size
    have hsB := rB.lt
    clear HK5 HB5 HTK5 HTB5 HBl5 bB rA5
    refine (refMacF_any k b _ HK6.out HB6.out).mono ?_
    rintro e7 w7 ⟨rfl, hb7⟩
    rw [← HT.out, ← HE.out]
    have rA7 := rA6.below hb7 (by omega)
    have rB7 := rB.below hb7 hsB
    have HK7 := veil (HK6.out.below hb7)
    have HB7 := veil (HB6.out.below hb7)
    have HTK7 := veil (HTK6.out.below hb7)
    have HTB7 := veil (HTB6.out.below hb7)
    have HBl7 := veil (HBl6.out.trans (hb7.mono (by omega)))
    have hs7 := hb7.size
    clear HK6 HB6 HTK6 HTB6 HBl6 hb7 rA6 rB
    generalize w5.alloc (.cells (bs T) 25) = w6 at *
    have bC : Below w7.heap.size w7 (w7.alloc (.cells (bs T) 25)) := (Below.refl _ w7).alloc (Nat.le_refl _) _
    have rC : Row (w7.alloc (.cells (bs T) 25)) w7.heap.size 25 (bs T) := Row.new _ _ _
    have rA8 := rA7.below bC rA7.lt
    have rB8 := rB7.below bC rB7.lt
    have HTK8 := veil (HTK7.out.below bC)
    have HTB8 := veil (HTB7.out.below bC)
    have HK8 := veil (HK7.out.below bC)
    have HB8 := veil (HB7.out.below bC)
    have HBl8 := veil (HBl7.out.trans (bC.mono (by omega)))
    have hs8 := bC.size
    clear HK7 HB7 HTK7 HTB7 HBl7 bC rA7 rB7
    have hself : ∀ j, j < 32 → ∃ z, (bs T)[j]? = some (.int .u8 z) := fun j hj => ⟨_, bs_get T j (by rw [hTl]; exact hj)⟩
    go_wp2_with (first
      | (with_reducible (show wpList _ _ _ (⟨_, Op.alloc 25, _, _, _, _⟩ :: _) _ _)
         refine alloc_row rfl 25 rfl (bs z32) (by kernel_rfl) ?_)
      | (with_reducible (show wpList _ _ _ (⟨_, Op.store 25 _ _, _, _, _, _⟩ :: _) _ _)
         refine store_new (w := w7) (by rfl) 25 _ _ (by rfl) w7.heap.size (bs T) (by rfl) (by rfl) 25 (bs z32) (by rfl) 32 (by kernel_rfl) (by rfl) hTs (bs_one _) ?_)
      | (with_reducible (show wpList _ _ _ (⟨some 39, Op.load 25 _, _, _, _, _⟩ :: _) _ _)
         refine load_row rfl 25 _ rfl w3.heap.size rfl _ _ rA8 32 5 Try.underlying25 (by kernel_rfl) hTs ?_)
      | (with_reducible (show wpList _ _ _ (⟨some 40, Op.load 25 _, _, _, _, _⟩ :: _) _ _)
         refine load_row rfl 25 _ rfl w7.heap.size rfl _ _ rC 32 5 Try.underlying25 (by kernel_rfl) hTs ?_)
      | (with_reducible (show wpList _ _ _ (⟨some 41, Op.binOp _ _ _ _ _, _, _, _, _⟩ :: _) _ _)
         refine value_G (by rfl) (.bool true) (exec_eql_self _ 25 5 32 .u8 (.tmp 39) (.tmp 40) 25 (bs T) rfl rfl rfl Try.underlying25 Try.underlying5 (by kernel_rfl) (by kernel_rfl) (by kernel_rfl) hself) ?_)
      | (with_reducible (show wpList _ _ _ (⟨some 48, Op.load 25 _, _, _, _, _⟩ :: _) _ _)
         refine load_rowG (by rfl) 25 _ rfl w5.heap.size rfl _ _ rB8 32 5 Try.underlying25 (by kernel_rfl) hTs ?_)
      | (with_reducible (show wpList _ _ _ (⟨some 49, Op.load 25 _, _, _, _, _⟩ :: _) _ _)
         refine load_rowG (by rfl) 25 _ rfl w7.heap.size rfl _ _ rC 32 5 Try.underlying25 (by kernel_rfl) hTs ?_)
      | (with_reducible (show wpList _ _ _ (⟨some 50, Op.binOp _ _ _ _ _, _, _, _, _⟩ :: _) _ _)
         refine value_G (by rfl) (.bool true) (exec_eql_self _ 25 5 32 .u8 (.tmp 48) (.tmp 49) 25 (bs T) rfl rfl rfl Try.underlying25 Try.underlying5 (by kernel_rfl) (by kernel_rfl) (by kernel_rfl) hself) ?_))
    refine (left_sl k gk _ HK8.out (by omega) HTK8.out).mono ?_
    rintro e9 w9 ⟨rfl, hb9⟩
    have HB9 := veil (HB8.out.below hb9)
    have HTB9 := veil (HTB8.out.below hb9)
    have HBl9 := veil (HBl8.out.trans (hb9.mono (by omega)))
    have hs9 := hb9.size
    go_wp2_with fail
    refine (left_sl b gb' _ HB9.out (by omega) HTB9.out).mono ?_
    rintro e10 w10 ⟨rfl, hb10⟩
    go_wp2_with fail
    go_ret
    exact ⟨rfl, HBl9.out.trans (hb10.mono (by omega))⟩
end Go.Proofs.Ytcfmghnjokmfiaa
