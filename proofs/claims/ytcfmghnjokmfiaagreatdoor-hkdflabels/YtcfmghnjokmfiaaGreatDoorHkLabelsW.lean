/-
  HkdfLabels' walk.
-/
import Derived.Test.YtcfmghnjokmfiaaGreatDoorHkLaw
import Derived.Test.YtcfmghnjokmfiaaGreatDoorHkRefLab
import Derived.Test.YtcfmghnjokmfiaaGreatDoorHkSame
import Derived.Test.YtcfmghnjokmfiaaGreatDoorHkBook
namespace Go.Proofs.YtcfmghnjokmfiaaGreatDoor
open Go Go.RowKit

theorem joinB_two (a b : SL) : (joinB [a, b]).length = a.b.length + b.b.length := by simp [joinB]

/-- What Label and the document's Label answer, in one shape. -/
theorem label_cases (kb cb : List By) (s : ByteArray) (N : Int) : ∃ (xs : List By) (E : Int), xs.length ≤ 8160 ∧
    (∀ (k c : SL) (w : World), k.Ok w → c.Ok w → k.b = kb → c.b = cb → Calls Tryz.prog 13 #[.slice k.a k.len k.cap, .string s, .slice c.a c.len c.cap, .int .i64 N] w fun e w' => ∃ a d, e = .returned (.tuple #[.slice a xs.length d, .int .i64 E]) ∧ w'.ownsRow w.heap.size 5 1 (.slice a xs.length d) xs.length (vb xs) ∧ Below w.heap.size w w') ∧
    (∀ (k c : SL) (w : World), k.Ok w → c.Ok w → k.b = kb → c.b = cb → Calls Tryz.prog 14 #[.slice k.a k.len k.cap, .string s, .slice c.a c.len c.cap, .int .i64 N] w fun e w' => ∃ q : SL, e = .returned (.tuple #[.slice q.a q.len q.cap, .int .i64 E]) ∧ q.Ok w' ∧ q.b = xs ∧ Below w.heap.size w w') := by
  have nilOk : ∀ w : World, (⟨none, 0, 0, 0, 0, []⟩ : SL).Ok w := fun w => ⟨rfl, Nat.le_refl _, fun _ => ⟨rfl, rfl⟩, fun h => absurd h (Nat.lt_irrefl _), fun h => absurd h (Nat.lt_irrefl _), fun _ h => absurd h (Nat.not_lt_zero _)⟩
  by_cases hN : labFits s.size cb.length N
  · obtain ⟨f1, f2, f3, f4⟩ := hN
    obtain ⟨n, rfl⟩ : ∃ n : Nat, N = (n : Int) := ⟨N.toNat, by omega⟩
    by_cases hl : 1048576 < kb.length
    · refine ⟨[], 3, by decide, fun k c w hk hc h1 h2 => ?_, fun k c w hk hc h1 h2 => ?_⟩
      · exact (label_limit k c s n w hc f1 (by rw [← hc.hb, h2]; exact f2) (by omega) (by rw [← hk.hb, h1]; exact hl)).mono fun e w' ⟨a1, a2⟩ => ⟨none, 0, a1, World.ownsRow_nil _ _ _ _, a2⟩
      · refine refLabel_any k c s n w hk hc f1 (by rw [← hc.hb, h2]; exact f2) (by omega) _ fun q w1 hq hk1 hqb hb1 => ?_
        exact (refExpand_limit k q n w1 (by omega) (.inl (by rw [← hk.hb, h1]; exact hl))).mono fun e w' ⟨a1, a2⟩ => ⟨none, 0, 0, 3, a1, ⟨none, 0, 0, 0, 0, []⟩, a1, nilOk _, rfl, hb1.trans (a2.mono hb1.size)⟩
    · refine ⟨expandL (keyL kb) (infoL (bOf s) cb n) n, 0, by rw [expandL_length]; omega, fun k c w hk hc h1 h2 => ?_, fun k c w hk hc h1 h2 => ?_⟩
      · refine (label_ok k c s n w hk hc f1 (by rw [← hc.hb, h2]; exact f2) (by omega) (by rw [← hk.hb, h1]; omega)).mono fun e w' ⟨g, a1, a2, a3⟩ => ?_
        rw [h1, h2] at a2
        rw [expandL_length]
        exact ⟨_, _, a1, a2, a3⟩
      · refine refLabel_any k c s n w hk hc f1 (by rw [← hc.hb, h2]; exact f2) (by omega) _ fun q w1 hq hk1 hqb hb1 => ?_
        have hql : q.len ≤ 1048479 := by rw [← hq.hb, hqb, infoL_length, bOf_length, h2]; omega
        refine (refExpand_ok k q n w1 hk1 hq (by omega) (by rw [← hk.hb, h1]; omega) hql).mono fun e w' ⟨z, a1, a2, a3, a4⟩ => ?_
        rw [hqb, h1, h2] at a3
        exact ⟨_, _, _, _, a1, z, a1, a2, a3, hb1.trans (a4.mono hb1.size)⟩
  · refine ⟨[], 1, by decide, fun k c w hk hc h1 h2 => ?_, fun k c w hk hc h1 h2 => ?_⟩
    · exact (label_arg k c s N w (by rw [← hc.hb, h2]; exact hN)).mono fun e w' ⟨a1, a2⟩ => ⟨none, 0, a1, World.ownsRow_nil _ _ _ _, a2⟩
    · exact (refLabel_bad k c s N w (by rw [← hc.hb, h2]; exact hN)).mono fun e w' ⟨a1, a2⟩ => ⟨⟨none, 0, 0, 0, 0, []⟩, a1, nilOk _, rfl, a2⟩

/-- The two lists that were told are apart. -/
theorem apart_pair (S B n : Nat) (c1 c2 : Nat) (a1 a2 : Option Addr) (V : Value) (E : Nat → Value) (N : Nat → Nat) (X : Nat → List Value) (x1 x2 : List Value) (w0 W : World) (hn : n ≤ 100000) (bk : Bk S B 2 2 V (upd (upd E 0 (.slice a1 n c1)) 1 (.slice a2 n c2)) (upd (upd N 0 n) 1 n) (upd (upd X 0 x1) 1 x2) w0 W) :
    Calls Tryz.prog 12 #[.pointer (some ⟨B, 0, none⟩)] W fun e w' => e = .returned (.bool true) ∧ Below S w0 w' :=
  apart_book S B 2 V _ _ _ w0 W (by decide) (by decide) (fun i hi => by
    have : i = 0 ∨ i = 1 := by omega
    rcases this with rfl | rfl
    · show n ≤ 1000000; omega
    · show n ≤ 1000000; omega) bk

set_option maxRecDepth 20000 in
set_option maxHeartbeats 4000000 in
theorem labels_walk (k q : SL) (s : ByteArray) (N : Int) (w : World) (hk : k.Ok w) (hq : q.Ok w) (hkl : k.len ≤ 140737488355328) (hql : q.len ≤ 140737488355328) :
    Calls Tryz.prog 4 #[.slice k.a k.len k.cap, .agg #[.string s, .slice q.a q.len q.cap, .int .i64 N]] w fun e w' => e = .returned (.bool true) ∧ Below w.heap.size w w' := by
  obtain ⟨xs, E, hx, hexp, href⟩ := label_cases k.b q.b s N
  have HExp := veil hexp
  have HRef := veil href
  clear hexp href
  have HK := veil hk
  have HQ := veil hq
  have hkb := hk.hb
  have hqb := hq.hb
  clear hk hq
  obtain ⟨n0, hn0⟩ : ∃ n, xs.length = n := ⟨_, rfl⟩
  rw [hn0] at hx HExp
  have HN0 := veil hn0
  clear hn0
  have hee : (E != E) = false := by simp
  have cb1 : (w.alloc (.cells #[.string s, .slice q.a q.len q.cap, .int .i64 N] 47)).cell? ⟨w.heap.size, 1, none⟩ = some (.slice q.a q.len q.cap) := (Row.new _ _ _ : Row (w.alloc (.cells #[.string s, .slice q.a q.len q.cap, .int .i64 N] 47)) w.heap.size 47 #[.string s, .slice q.a q.len q.cap, .int .i64 N]).cell 1
  go_enter Tryz.func4, Tryz.ntmps4
  go_wp2_with fail
  clear cb1
  have bb : Below w.heap.size w (w.alloc (.cells #[.string s, .slice q.a q.len q.cap, .int .i64 N] 47)) := (Below.refl _ w).alloc (Nat.le_refl _) _
  have rb : Row (w.alloc (.cells #[.string s, .slice q.a q.len q.cap, .int .i64 N] 47)) w.heap.size 47 #[.string s, .slice q.a q.len q.cap, .int .i64 N] := Row.new _ _ _
  have hsb : (w.alloc (.cells #[.string s, .slice q.a q.len q.cap, .int .i64 N] 47)).heap.size = w.heap.size + 1 := World.size_alloc _ _
  generalize w.alloc (.cells #[.string s, .slice q.a q.len q.cap, .int .i64 N] 47) = wb at *
  have b0 : Below w.heap.size w (wb.alloc (.cells (vls [k, q]) 22)) := bb.alloc bb.size _
  have r0 : Row (wb.alloc (.cells (vls [k, q]) 22)) w.heap.size 47 #[.string s, .slice q.a q.len q.cap, .int .i64 N] := rb.alloc _
  show Calls _ _ _ (wb.alloc (.cells (vls [k, q]) 22)) _
  refine (great_any (w.heap.size + 1) 0 2 2 [k, q] _ rfl (by decide) (fun s hs => by
    simp only [List.mem_cons, List.not_mem_nil, or_false] at hs
    rcases hs with rfl | rfl
    · exact HK.out.below b0
    · exact HQ.out.below b0) (fun s hs => by
    simp only [List.mem_cons, List.not_mem_nil, or_false] at hs
    rcases hs with rfl | rfl
    · exact hkl
    · exact hql) (fun j s hs => new_lists wb _ _ _ hsb.symm j s hs)).mono ?_
  rintro e0 w0 ⟨rfl, hw0⟩
  rw [hw0, joinB_two, hkb, hqb]
  clear hw0 w0 bb rb hsb
  generalize wb.alloc (.cells (vls [k, q]) 22) = W0 at *
  clear wb
  by_cases hg : 3145728 < k.len + q.len
  · rw [decide_eq_true hg]
    go_wp2_with fail
    go_ret
    exact ⟨rfl, b0⟩
  rw [decide_eq_false hg]
  by_cases hbig : (5000 : Int) < (k.len : Int) ∧ (k.len : Int) ≤ 1048576
  · obtain ⟨hb1, hb2⟩ := hbig
    go_wp2_with fail
    go_ret
    exact ⟨rfl, b0⟩
  have HK0 := veil (HK.out.below b0)
  have HQ0 := veil (HQ.out.below b0)
  have HB0 := veil b0
  have HR0 := veil r0
  have hs0 := b0.size
  clear HK HQ b0 r0
  have hgo : Calls Tryz.prog 6 #[.slice k.a k.len k.cap] W0 fun e w' => ∃ g, e = .returned (.slice (some ⟨g, 0, none⟩) k.len (k.len + 1)) ∧ Twin w' g k.b ∧ W0.heap.size ≤ g ∧ Below W0.heap.size W0 w' := twin_sl k W0 HK0.out (by omega)
  have HGO := veil hgo
  clear hgo
  rcases (show ¬ (5000 : Int) < (k.len : Int) ∨ ((5000 : Int) < (k.len : Int) ∧ ¬ (k.len : Int) ≤ 1048576) by omega) with h5000 | ⟨h5000, h1m⟩
  · go_wp2_with fail
    refine HGO.out.mono ?_
    rintro e1 w1 ⟨gk, rfl, htk, hgk, hb1⟩
    have HK1 := veil (HK0.out.below hb1)
    have HQ1 := veil (HQ0.out.below hb1)
    have HTK := veil htk
    have HB1 := veil (HB0.out.trans (hb1.mono hs0))
    have hs1 := hb1.size
    have HR1 := veil (HR0.out.below hb1 (by have := HR0.out.lt; omega))
    clear HR0
    have cc11 : w1.cell? ⟨w.heap.size, 1, none⟩ = some (.slice q.a q.len q.cap) := HR1.out.cell 1
    clear htk hb1
    go_wp2_with fail
    refine (twin_sl q w1 HQ1.out (by omega)).mono ?_
    rintro e2 w2 ⟨gq, rfl, htq, hgq, hb2⟩
    have HK2 := veil (HK1.out.below hb2)
    have HQ2 := veil (HQ1.out.below hb2)
    have HTK2 := veil (HTK.out.below hb2)
    have HTQ2 := veil htq
    have HB2 := veil (HB1.out.trans (hb2.mono (by omega)))
    have hs2 := hb2.size
    have HR2 := veil (HR1.out.below hb2 (by have := HR1.out.lt; omega))
    clear HR1
    have cc20 : w2.cell? ⟨w.heap.size, 0, none⟩ = some (.string s) := HR2.out.cell 0
    have cc22 : w2.cell? ⟨w.heap.size, 2, none⟩ = some (.int .i64 N) := HR2.out.cell 2
    clear htq hb2 HK1 HQ1 HTK HB1
    go_wp2_with fail
    refine (HExp.out (twinS gk k.len k.b) (twinS gq q.len q.b) w2 (HTK2.out.ok hkb) (HTQ2.out.ok hqb) rfl rfl).mono ?_
    rintro e3 w3 ⟨a1, c1, rfl, ho1, hb3⟩
    have HK3 := veil (HK2.out.below hb3)
    have HQ3 := veil (HQ2.out.below hb3)
    have HTK3 := veil (HTK2.out.below hb3)
    have HTQ3 := veil (HTQ2.out.below hb3)
    have HB3 := veil (HB2.out.trans (hb3.mono (by omega)))
    have hs3 := hb3.size
    have HR3 := veil (HR2.out.below hb3 (by have := HR2.out.lt; omega))
    clear HR2
    have cc30 : w3.cell? ⟨w.heap.size, 0, none⟩ = some (.string s) := HR3.out.cell 0
    have cc32 : w3.cell? ⟨w.heap.size, 2, none⟩ = some (.int .i64 N) := HR3.out.cell 2
    have HO1 := veil ho1
    clear hb3 ho1 HK2 HQ2 HTK2 HTQ2 HB2
    go_wp2_with fail
    refine (HExp.out (twinS gk k.len k.b) (twinS gq q.len q.b) w3 (HTK3.out.ok hkb) (HTQ3.out.ok hqb) rfl rfl).mono ?_
    rintro e4 w4 ⟨a2, c2, rfl, ho2, hb4⟩
    have HK4 := veil (HK3.out.below hb4)
    have HQ4 := veil (HQ3.out.below hb4)
    have HTK4 := veil (HTK3.out.below hb4)
    have HTQ4 := veil (HTQ3.out.below hb4)
    have HB4 := veil (HB3.out.trans (hb4.mono (by omega)))
    have hs4 := hb4.size
    have HR4 := veil (HR3.out.below hb4 (by have := HR3.out.lt; omega))
    clear HR3
    have cc40 : w4.cell? ⟨w.heap.size, 0, none⟩ = some (.string s) := HR4.out.cell 0
    have cc41 : w4.cell? ⟨w.heap.size, 1, none⟩ = some (.slice q.a q.len q.cap) := HR4.out.cell 1
    have cc42 : w4.cell? ⟨w.heap.size, 2, none⟩ = some (.int .i64 N) := HR4.out.cell 2
    have HO14 := veil (own_below HO1.out hb4)
    have HO2 := veil ho2
    have HAP : Hid ((Value.slice a1 n0 c1).ownBlock = none ∨ (Value.slice a1 n0 c1).ownBlock ≠ (Value.slice a2 n0 c2).ownBlock) := by
      cases e : (Value.slice a1 n0 c1).ownBlock with
      | none => exact .inl rfl
      | some z =>
        right
        intro e2
        have := (HO1.out.lt z e).2
        have := (ho2.lt z e2.symm).1
        omega
    clear hb4 ho2 HK3 HQ3 HTK3 HTQ3 HB3 HO1
    go_wp2_with fail
    refine (HRef.out k q w4 HK4.out HQ4.out rfl rfl).mono ?_
    rintro e5 w5 ⟨z, rfl, hs, hsb, hb5⟩
    have HK5 := veil (HK4.out.below hb5)
    have HQ5 := veil (HQ4.out.below hb5)
    have HTK5 := veil (HTK4.out.below hb5)
    have HTQ5 := veil (HTQ4.out.below hb5)
    have HB5 := veil (HB4.out.trans (hb5.mono (by omega)))
    have hs5 := hb5.size
    have HR5 := veil (HR4.out.below hb5 (by have := HR4.out.lt; omega))
    clear HR4
    have HO15 := veil (own_below HO14.out hb5)
    have HO25 := veil (own_below HO2.out hb5)
    have HS1 : Hid (∀ W, Below w5.heap.size w5 W → Calls Tryz.prog 9 #[.slice a1 n0 c1, .slice z.a z.len z.cap] W fun e w' => e = .returned (.bool true) ∧ Below W.heap.size W w') := fun W hW => by
      obtain ⟨s1, hv1, hl1, hsb1, hok1, _⟩ := SL.of_own HO15.out
      have hv' : (.slice a1 n0 c1 : Value) = .slice s1.a s1.len s1.cap := hv1.symm
      rw [hv']
      exact same_sl s1 z W (hok1.below hW) (hs.below hW) (by rw [hsb1, hsb]) (by omega)
    have HS2 : Hid (∀ W, Below w5.heap.size w5 W → Calls Tryz.prog 9 #[.slice a2 n0 c2, .slice z.a z.len z.cap] W fun e w' => e = .returned (.bool true) ∧ Below W.heap.size W w') := fun W hW => by
      obtain ⟨s1, hv1, hl1, hsb1, hok1, _⟩ := SL.of_own HO25.out
      have hv' : (.slice a2 n0 c2 : Value) = .slice s1.a s1.len s1.cap := hv1.symm
      rw [hv']
      exact same_sl s1 z W (hok1.below hW) (hs.below hW) (by rw [hsb1, hsb]) (by omega)
    clear hb5 hs hsb HK4 HQ4 HTK4 HTQ4 HB4 HO14 HO2
    go_wp2_with fail
    refine (HS1.out w5 (Below.refl _ _)).mono ?_
    rintro e6 w6 ⟨rfl, hb6⟩
    go_wp2_with fail
    refine (HS2.out w6 hb6).mono ?_
    rintro e7 w7 ⟨rfl, hb7⟩
    have hb57 := hb6.trans (hb7.mono hb6.size)
    have HB57 := veil hb57
    clear hb6 hb7 HS1 HS2
    have hs57 := hb57.size
    clear hb57
    go_wp2_with fail
    refine (left_sl k gk w7 (HK5.out.below HB57.out) (by omega) (HTK5.out.below HB57.out)).mono ?_
    rintro e8 w8 ⟨rfl, hb8⟩
    have HB58 := veil (HB57.out.trans (hb8.mono hs57))
    have hs58 := HB58.out.size
    have cc81 : w8.cell? ⟨w.heap.size, 1, none⟩ = some (.slice q.a q.len q.cap) := (HR5.out.below HB58.out HR5.out.lt).cell 1
    clear hb8 HB57
    go_wp2_with fail
    refine (left_sl q gq w8 (HQ5.out.below HB58.out) (by omega) (HTQ5.out.below HB58.out)).mono ?_
    rintro e9 w9 ⟨rfl, hb9⟩
    have hb59 := HB58.out.trans (hb9.mono hs58)
    have HP1 := veil (own_low (own_below HO15.out hb59) (show w.heap.size ≤ w2.heap.size by omega))
    have HP2 := veil (own_low (own_below HO25.out hb59) (show w.heap.size ≤ w3.heap.size by omega))
    have HB9 := veil (HB5.out.trans (hb59.mono (by omega)))
    clear hb9 hb59 HB58 cc81 HR5 HO15 HO25 HB5 HK5 HQ5 HTK5 HTQ5
    go_wp2_with fail
    have HBk := Bk.new w.heap.size (fun _ => .slice none 0 0) (fun _ => 0) (fun _ => []) w w9 HB9.out.size HB9.out 42
    refine (bytes_any w.heap.size w9.heap.size 0 _ _ _ _ w _ (.slice a1 n0 c1) n0 _ (by decide) HBk (HP1.out.alloc _) (fun z e => (HP1.out.lt z e).2) (fun i hi => absurd hi (Nat.not_lt_zero _))).mono ?_
    rintro e10 w10 ⟨rfl, V6, bk6, hold6⟩
    have HK6 := veil bk6
    have HP26 := veil (hold6 _ _ _ (HP2.out.alloc _) (fun z e => (HP2.out.lt z e).2))
    have HA1 : ∀ i, i < 1 → (upd (fun _ => Value.slice none 0 0) 0 (Value.slice a1 n0 c1) i).ownBlock = none ∨ (upd (fun _ => Value.slice none 0 0) 0 (Value.slice a1 n0 c1) i).ownBlock ≠ (Value.slice a2 n0 c2).ownBlock := by
      intro i hi
      obtain rfl : i = 0 := Nat.lt_one_iff.1 hi
      exact HAP.out
    clear HBk bk6 hold6
    go_wp2_with fail
    refine (bytes_any w.heap.size w9.heap.size 1 _ _ _ _ w _ (.slice a2 n0 c2) n0 _ (by decide) HK6.out HP26.out (fun z e => (HP2.out.lt z e).2) (fun i hi => HA1 i hi)).mono ?_
    rintro e11 w11 ⟨rfl, V7, bk7, hold7⟩
    have HK7 := veil bk7
    clear bk7 hold7 HK6 HP26
    go_wp2_with fail
    refine (apart_pair w.heap.size w9.heap.size n0 c1 c2 a1 a2 _ _ _ _ _ _ w w11 (by omega) HK7.out).mono ?_
    rintro e12 w12 ⟨rfl, hb12⟩
    go_wp2_with fail
    go_ret
    exact ⟨rfl, hb12⟩
  · go_wp2_with fail
    refine HGO.out.mono ?_
    rintro e1 w1 ⟨gk, rfl, htk, hgk, hb1⟩
    have HK1 := veil (HK0.out.below hb1)
    have HQ1 := veil (HQ0.out.below hb1)
    have HTK := veil htk
    have HB1 := veil (HB0.out.trans (hb1.mono hs0))
    have hs1 := hb1.size
    have HR1 := veil (HR0.out.below hb1 (by have := HR0.out.lt; omega))
    clear HR0
    have cc11 : w1.cell? ⟨w.heap.size, 1, none⟩ = some (.slice q.a q.len q.cap) := HR1.out.cell 1
    clear htk hb1
    go_wp2_with fail
    refine (twin_sl q w1 HQ1.out (by omega)).mono ?_
    rintro e2 w2 ⟨gq, rfl, htq, hgq, hb2⟩
    have HK2 := veil (HK1.out.below hb2)
    have HQ2 := veil (HQ1.out.below hb2)
    have HTK2 := veil (HTK.out.below hb2)
    have HTQ2 := veil htq
    have HB2 := veil (HB1.out.trans (hb2.mono (by omega)))
    have hs2 := hb2.size
    have HR2 := veil (HR1.out.below hb2 (by have := HR1.out.lt; omega))
    clear HR1
    have cc20 : w2.cell? ⟨w.heap.size, 0, none⟩ = some (.string s) := HR2.out.cell 0
    have cc22 : w2.cell? ⟨w.heap.size, 2, none⟩ = some (.int .i64 N) := HR2.out.cell 2
    clear htq hb2 HK1 HQ1 HTK HB1
    go_wp2_with fail
    refine (HExp.out (twinS gk k.len k.b) (twinS gq q.len q.b) w2 (HTK2.out.ok hkb) (HTQ2.out.ok hqb) rfl rfl).mono ?_
    rintro e3 w3 ⟨a1, c1, rfl, ho1, hb3⟩
    have HK3 := veil (HK2.out.below hb3)
    have HQ3 := veil (HQ2.out.below hb3)
    have HTK3 := veil (HTK2.out.below hb3)
    have HTQ3 := veil (HTQ2.out.below hb3)
    have HB3 := veil (HB2.out.trans (hb3.mono (by omega)))
    have hs3 := hb3.size
    have HR3 := veil (HR2.out.below hb3 (by have := HR2.out.lt; omega))
    clear HR2
    have cc30 : w3.cell? ⟨w.heap.size, 0, none⟩ = some (.string s) := HR3.out.cell 0
    have cc32 : w3.cell? ⟨w.heap.size, 2, none⟩ = some (.int .i64 N) := HR3.out.cell 2
    have HO1 := veil ho1
    clear hb3 ho1 HK2 HQ2 HTK2 HTQ2 HB2
    go_wp2_with fail
    refine (HExp.out (twinS gk k.len k.b) (twinS gq q.len q.b) w3 (HTK3.out.ok hkb) (HTQ3.out.ok hqb) rfl rfl).mono ?_
    rintro e4 w4 ⟨a2, c2, rfl, ho2, hb4⟩
    have HK4 := veil (HK3.out.below hb4)
    have HQ4 := veil (HQ3.out.below hb4)
    have HTK4 := veil (HTK3.out.below hb4)
    have HTQ4 := veil (HTQ3.out.below hb4)
    have HB4 := veil (HB3.out.trans (hb4.mono (by omega)))
    have hs4 := hb4.size
    have HR4 := veil (HR3.out.below hb4 (by have := HR3.out.lt; omega))
    clear HR3
    have cc40 : w4.cell? ⟨w.heap.size, 0, none⟩ = some (.string s) := HR4.out.cell 0
    have cc41 : w4.cell? ⟨w.heap.size, 1, none⟩ = some (.slice q.a q.len q.cap) := HR4.out.cell 1
    have cc42 : w4.cell? ⟨w.heap.size, 2, none⟩ = some (.int .i64 N) := HR4.out.cell 2
    have HO14 := veil (own_below HO1.out hb4)
    have HO2 := veil ho2
    have HAP : Hid ((Value.slice a1 n0 c1).ownBlock = none ∨ (Value.slice a1 n0 c1).ownBlock ≠ (Value.slice a2 n0 c2).ownBlock) := by
      cases e : (Value.slice a1 n0 c1).ownBlock with
      | none => exact .inl rfl
      | some z =>
        right
        intro e2
        have := (HO1.out.lt z e).2
        have := (ho2.lt z e2.symm).1
        omega
    clear hb4 ho2 HK3 HQ3 HTK3 HTQ3 HB3 HO1
    go_wp2_with fail
    refine (HRef.out k q w4 HK4.out HQ4.out rfl rfl).mono ?_
    rintro e5 w5 ⟨z, rfl, hs, hsb, hb5⟩
    have HK5 := veil (HK4.out.below hb5)
    have HQ5 := veil (HQ4.out.below hb5)
    have HTK5 := veil (HTK4.out.below hb5)
    have HTQ5 := veil (HTQ4.out.below hb5)
    have HB5 := veil (HB4.out.trans (hb5.mono (by omega)))
    have hs5 := hb5.size
    have HR5 := veil (HR4.out.below hb5 (by have := HR4.out.lt; omega))
    clear HR4
    have HO15 := veil (own_below HO14.out hb5)
    have HO25 := veil (own_below HO2.out hb5)
    have HS1 : Hid (∀ W, Below w5.heap.size w5 W → Calls Tryz.prog 9 #[.slice a1 n0 c1, .slice z.a z.len z.cap] W fun e w' => e = .returned (.bool true) ∧ Below W.heap.size W w') := fun W hW => by
      obtain ⟨s1, hv1, hl1, hsb1, hok1, _⟩ := SL.of_own HO15.out
      have hv' : (.slice a1 n0 c1 : Value) = .slice s1.a s1.len s1.cap := hv1.symm
      rw [hv']
      exact same_sl s1 z W (hok1.below hW) (hs.below hW) (by rw [hsb1, hsb]) (by omega)
    have HS2 : Hid (∀ W, Below w5.heap.size w5 W → Calls Tryz.prog 9 #[.slice a2 n0 c2, .slice z.a z.len z.cap] W fun e w' => e = .returned (.bool true) ∧ Below W.heap.size W w') := fun W hW => by
      obtain ⟨s1, hv1, hl1, hsb1, hok1, _⟩ := SL.of_own HO25.out
      have hv' : (.slice a2 n0 c2 : Value) = .slice s1.a s1.len s1.cap := hv1.symm
      rw [hv']
      exact same_sl s1 z W (hok1.below hW) (hs.below hW) (by rw [hsb1, hsb]) (by omega)
    clear hb5 hs hsb HK4 HQ4 HTK4 HTQ4 HB4 HO14 HO2
    go_wp2_with fail
    refine (HS1.out w5 (Below.refl _ _)).mono ?_
    rintro e6 w6 ⟨rfl, hb6⟩
    go_wp2_with fail
    refine (HS2.out w6 hb6).mono ?_
    rintro e7 w7 ⟨rfl, hb7⟩
    have hb57 := hb6.trans (hb7.mono hb6.size)
    have HB57 := veil hb57
    clear hb6 hb7 HS1 HS2
    have hs57 := hb57.size
    clear hb57
    go_wp2_with fail
    refine (left_sl k gk w7 (HK5.out.below HB57.out) (by omega) (HTK5.out.below HB57.out)).mono ?_
    rintro e8 w8 ⟨rfl, hb8⟩
    have HB58 := veil (HB57.out.trans (hb8.mono hs57))
    have hs58 := HB58.out.size
    have cc81 : w8.cell? ⟨w.heap.size, 1, none⟩ = some (.slice q.a q.len q.cap) := (HR5.out.below HB58.out HR5.out.lt).cell 1
    clear hb8 HB57
    go_wp2_with fail
    refine (left_sl q gq w8 (HQ5.out.below HB58.out) (by omega) (HTQ5.out.below HB58.out)).mono ?_
    rintro e9 w9 ⟨rfl, hb9⟩
    have hb59 := HB58.out.trans (hb9.mono hs58)
    have HP1 := veil (own_low (own_below HO15.out hb59) (show w.heap.size ≤ w2.heap.size by omega))
    have HP2 := veil (own_low (own_below HO25.out hb59) (show w.heap.size ≤ w3.heap.size by omega))
    have HB9 := veil (HB5.out.trans (hb59.mono (by omega)))
    clear hb9 hb59 HB58 cc81 HR5 HO15 HO25 HB5 HK5 HQ5 HTK5 HTQ5
    go_wp2_with fail
    have HBk := Bk.new w.heap.size (fun _ => .slice none 0 0) (fun _ => 0) (fun _ => []) w w9 HB9.out.size HB9.out 42
    refine (bytes_any w.heap.size w9.heap.size 0 _ _ _ _ w _ (.slice a1 n0 c1) n0 _ (by decide) HBk (HP1.out.alloc _) (fun z e => (HP1.out.lt z e).2) (fun i hi => absurd hi (Nat.not_lt_zero _))).mono ?_
    rintro e10 w10 ⟨rfl, V6, bk6, hold6⟩
    have HK6 := veil bk6
    have HP26 := veil (hold6 _ _ _ (HP2.out.alloc _) (fun z e => (HP2.out.lt z e).2))
    have HA1 : ∀ i, i < 1 → (upd (fun _ => Value.slice none 0 0) 0 (Value.slice a1 n0 c1) i).ownBlock = none ∨ (upd (fun _ => Value.slice none 0 0) 0 (Value.slice a1 n0 c1) i).ownBlock ≠ (Value.slice a2 n0 c2).ownBlock := by
      intro i hi
      obtain rfl : i = 0 := Nat.lt_one_iff.1 hi
      exact HAP.out
    clear HBk bk6 hold6
    go_wp2_with fail
    refine (bytes_any w.heap.size w9.heap.size 1 _ _ _ _ w _ (.slice a2 n0 c2) n0 _ (by decide) HK6.out HP26.out (fun z e => (HP2.out.lt z e).2) (fun i hi => HA1 i hi)).mono ?_
    rintro e11 w11 ⟨rfl, V7, bk7, hold7⟩
    have HK7 := veil bk7
    clear bk7 hold7 HK6 HP26
    go_wp2_with fail
    refine (apart_pair w.heap.size w9.heap.size n0 c1 c2 a1 a2 _ _ _ _ _ _ w w11 (by omega) HK7.out).mono ?_
    rintro e12 w12 ⟨rfl, hb12⟩
    go_wp2_with fail
    go_ret
    exact ⟨rfl, hb12⟩
end Go.Proofs.YtcfmghnjokmfiaaGreatDoor
