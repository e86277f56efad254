/-
  HkdfNames' walk.
-/
import Derived.Test.YtcfmghnjokmfiabHkAlive
namespace Go.Proofs.Ytcfmghnjokmfiab
open Go Go.RowKit

theorem own_row (w : World) (base : Nat) (b : List By) (n : Nat) (hn : b.length = n) (hm : n ≤ 4194304) (hb : base ≤ w.heap.size) : (w.alloc (.cells (bs b) 5)).ownsRow base 5 1 (.slice (some ⟨w.heap.size, 0, none⟩) n n) n (vb b) := by
  subst hn
  refine ⟨by rw [vb_length, Nat.mul_one], .inr ⟨w.heap.size, b.length, bs b, rfl, hb, heap_alloc_new w _, Nat.le_refl _, by unfold maxLen; omega, by rw [bs_size, Nat.mul_one], ?_⟩⟩
  show (vb b).take (b.length * 1) = vb b
  rw [List.take_of_length_le (by rw [vb_length]; omega)]
/-- The first nine bytes of an info. -/
def nine (n len : Nat) : List By := [BitVec.ofNat 8 (n / 256), BitVec.ofNat 8 n, BitVec.ofNat 8 (len + 6), 116, 108, 115, 49, 51, 32]
theorem nine_row (n len : Nat) (hn : n ≤ 8160) (hl : len ≤ 249) : (#[.int .u8 ((n : Int) / 256), .int .u8 ((n : Int) % 256), .int .u8 ((len : Int) + 6), .int .u8 116, .int .u8 108, .int .u8 115, .int .u8 49, .int .u8 51, .int .u8 32] : Array Value) = bs (nine n len) := by
  have h1 : v8 (BitVec.ofNat 8 (n / 256)) = (n : Int) / 256 := by unfold v8; rw [BitVec.toNat_ofNat]; omega
  have h2 : v8 (BitVec.ofNat 8 n) = (n : Int) % 256 := by unfold v8; rw [BitVec.toNat_ofNat]; omega
  have h3 : v8 (BitVec.ofNat 8 (len + 6)) = (len : Int) + 6 := by unfold v8; rw [BitVec.toNat_ofNat]; omega
  unfold bs nine
  rw [List.map_cons, List.map_cons, List.map_cons, h1, h2, h3]
  rfl
theorem nine_info (name ctx : List By) (n : Nat) : ((nine n name.length ++ name) ++ [BitVec.ofNat 8 ctx.length]) ++ ctx = infoL name ctx n := by
  unfold nine infoL
  simp only [List.append_assoc, List.cons_append, List.nil_append]

set_option maxRecDepth 20000 in
set_option maxHeartbeats 2000000 in
theorem names_walk (k c : SL) (s : ByteArray) (N : Int) (w : World) (hk : k.Ok w) (hc : c.Ok w) :
    Calls Try.prog 3 #[.slice k.a k.len k.cap, .agg #[.string s, .slice c.a c.len c.cap, .int .i64 N]] w fun e w' => e = .returned (.bool true) ∧ Below w.heap.size w w' := by
  obtain ⟨i0, hi, hz0, hz1, hz2⟩ := info_parts (P := Try.prog) (e := 5) (z := .int .u8 0) (size := 1) (bytes := 1) (by kernel_rfl)
  have HK := veil hk
  have HC := veil hc
  have hkb := hk.hb
  have hcb := hc.hb
  clear hk hc
  go_enter Try.func3, Try.ntmps3
  go_wp2_with fail
  have bb : Below w.heap.size w (w.alloc (.cells #[.string s, .slice c.a c.len c.cap, .int .i64 N] 24)) := (Below.refl _ w).alloc (Nat.le_refl _) _
  have rb : Row (w.alloc (.cells #[.string s, .slice c.a c.len c.cap, .int .i64 N] 24)) w.heap.size 24 #[.string s, .slice c.a c.len c.cap, .int .i64 N] := Row.new _ _ _
  generalize w.alloc (.cells #[.string s, .slice c.a c.len c.cap, .int .i64 N] 24) = wb at *
  refine (alive_any wb).mono ?_
  rintro e0 w0 ⟨rfl, hb0⟩
  have HB0 := veil (bb.trans (hb0.mono bb.size))
  have HR0 := veil (rb.below hb0 rb.lt)
  have hs0 := HB0.out.size
  clear hb0 bb rb
  by_cases h1 : (2000 : Int) < (k.len : Int)
  · go_wp2_with fail
    refine (alive_any w0).mono ?_
    rintro e1 w1 ⟨rfl, hb1⟩
    go_wp2_with fail
    go_ret
    exact ⟨rfl, HB0.out.trans (hb1.mono hs0)⟩
  have hkl : k.len ≤ 2000 := by omega
  have c00 : w0.cell? ⟨w.heap.size, 0, none⟩ = some (.string s) := HR0.out.cell 0
  have c01 : w0.cell? ⟨w.heap.size, 1, none⟩ = some (.slice c.a c.len c.cap) := HR0.out.cell 1
  have c02 : w0.cell? ⟨w.heap.size, 2, none⟩ = some (.int .i64 N) := HR0.out.cell 2
  by_cases hfit : labFits s.size c.len N
  · obtain ⟨f1, f2, f3, f4⟩ := hfit
    obtain ⟨n, rfl⟩ : ∃ n : Nat, N = (n : Int) := ⟨N.toNat, by omega⟩
    go_wp2_with fail
    refine (label_ok k c s n w0 (HK.out.below HB0.out) (HC.out.below HB0.out) f1 f2 (by omega) (by omega)).mono ?_
    rintro e1 w1 ⟨g1, rfl, hown1, hb1⟩
    have HO1 : Hid (OwnB w1 w0.heap.size g1 n n (expandL (keyL k.b) (infoL (bOf s) c.b n) n)) := ⟨expandL_length _ _ _, hown1⟩
    have HB1 := veil (HB0.out.trans (hb1.mono hs0))
    have HR1 := veil (HR0.out.below hb1 HR0.out.lt)
    have hs1 := HB1.out.size
    clear hb1 hown1 HB0 HR0 c00 c01 c02
    have c10 : w1.cell? ⟨w.heap.size, 0, none⟩ = some (.string s) := HR1.out.cell 0
    have c11 : w1.cell? ⟨w.heap.size, 1, none⟩ = some (.slice c.a c.len c.cap) := HR1.out.cell 1
    have c12 : w1.cell? ⟨w.heap.size, 2, none⟩ = some (.int .i64 (n : Int)) := HR1.out.cell 2
    have k1 : ¬ (249 : Int) < (s.size : Int) := by omega
    have k2 : ¬ (255 : Int) < (c.len : Int) := by omega
    have k3 : ¬ ((n : Int) < 0) := by omega
    have k4 : ¬ ((8160 : Int) < (n : Int)) := by omega
    have hnine := nine_row n s.size (by omega) f1
    have hbN : IntKind.u8.wrap ((s.size : Int) + 6) = (s.size : Int) + 6 := by rw [IntKind.wrap_u8]; omega
    obtain ⟨W2, hW2⟩ : ∃ W2, W2 = w1.alloc (.cells (bs (nine n s.size)) 5) := ⟨_, rfl⟩
    have hcv := Lib.run_convert_string_bytes (P := Try.prog) W2 9 22 5 s Try.underlying9 Try.underlying22 Try.underlying5
    have HO2 : Hid (W2.ownsRow w1.heap.size 5 1 (.slice (some ⟨w1.heap.size, 0, none⟩) 9 9) 9 (vb (nine n s.size))) := show W2.ownsRow _ _ _ _ _ _ by rw [hW2]; exact own_row w1 w1.heap.size (nine n s.size) 9 rfl (by decide) (Nat.le_refl _)
    have b2 : Below w1.heap.size w1 W2 := by rw [hW2]; exact (Below.refl _ w1).alloc (Nat.le_refl _) _
    have hs2 : W2.heap.size = w1.heap.size + 1 := by rw [hW2]; simp
    obtain ⟨W3, hW3⟩ : ∃ W3, W3 = Lib.bytesWorld W2 5 s := ⟨_, rfl⟩
    have c3 : ∀ j : Nat, j < s.size → W3.cell? ⟨W2.heap.size, 0 + j, none⟩ = some (.int .u8 (v8 (gb (bOf s) j))) := fun j hj => by
      rw [hW3, Nat.zero_add, Lib.bytesWorld_cell W2 5 s j hj, bOf_get s j hj]
    have b3 : Below W2.heap.size W2 W3 := by
      rw [hW3]
      exact ⟨rfl, rfl, rfl, by rw [Lib.bytesWorld_size]; omega, fun j hj => Lib.bytesWorld_at_old W2 5 s j hj⟩
    have hs3 : W3.heap.size = W2.heap.size + 1 := by rw [hW3, Lib.bytesWorld_size]
    have hcap : s.size ≤ grownCap W2 s.size 0 5 := grownCap_ge ..
    rw [← hW3] at hcv
    clear hW3
    generalize grownCap W2 s.size 0 5 = C at *
    have qB : (⟨some ⟨W2.heap.size, 0, none⟩, s.size, C, W2.heap.size, 0, bOf s⟩ : SL).Ok W3 := ⟨bOf_length _, hcap, (fun h => by cases h), fun _ => rfl, (fun _ => by show W2.heap.size < W3.heap.size; omega), c3⟩
    rw [hs2] at hcv qB
    rw [hW2] at hcv
    have HO3 := veil (HO2.out.kept (row := none) ⟨b3.os, b3.tape, b3.output, b3.size, fun j hj _ => b3.block j hj⟩ (Classical.em _))
    have b13 : Below w1.heap.size w1 W3 := b2.trans (b3.mono (by omega))
    have HB13 := veil b13
    have HQB := veil qB
    have HR3 := veil (HR1.out.below b13 HR1.out.lt)
    have c30 : W3.cell? ⟨w.heap.size, 0, none⟩ = some (.string s) := HR3.out.cell 0
    have c31 : W3.cell? ⟨w.heap.size, 1, none⟩ = some (.slice c.a c.len c.cap) := HR3.out.cell 1
    have c32 : W3.cell? ⟨w.heap.size, 2, none⟩ = some (.int .i64 (n : Int)) := HR3.out.cell 2
    have c20 : (w1.alloc (.cells (bs (nine n s.size)) 5)).cell? ⟨w.heap.size, 0, none⟩ = some (.string s) := by rw [← hW2]; exact (HR1.out.below b2 HR1.out.lt).cell 0
    clear hcap qB b3 b13 b2 hW2 HO2 c3
    have hlt0 := HR1.out.lt
    have hsw3 := HB13.out.size
    have HB3 := veil (HB1.out.trans (HB13.out.mono hs1))
    have hone : vb [BitVec.ofNat 8 c.len] = [.int .u8 (c.len : Int)] := by
      have e : v8 (BitVec.ofNat 8 c.len) = (c.len : Int) := by unfold v8; rw [BitVec.toNat_ofNat]; omega
      unfold vb
      rw [List.map_cons, e]
      rfl
    have HONE := veil hone
    clear hone
    have hbC : IntKind.u8.wrap (c.len : Int) = (c.len : Int) := by rw [IntKind.wrap_u8]; omega
    go_wp2_with (first
      | (with_reducible (show wpList _ _ _ (⟨some 74, Op.call _, _, _, _, _⟩ :: _) _ _)
         refine append_sl rfl _ _ 22 rfl w1.heap.size i0 Try.underlying22 hi hz0 hz1 hz2 _ 9 _ rfl HO3.out ⟨some ⟨w1.heap.size + 1, 0, none⟩, s.size, C, w1.heap.size + 1, 0, bOf s⟩ HQB.out rfl (by show 9 + s.size ≤ 8388608; omega) hsw3 ?_
         intro v4 w4 hown4 hgrow4
         have hr4 : Row w4 w.heap.size 24 #[.string s, .slice c.a c.len c.cap, .int .i64 (n : Int)] := (hgrow4.block _ HR3.out.lt (fun e => by have := (HO3.out.lt _ e.symm).1; omega)).trans HR3.out
         have hs4 := hgrow4.size
         have c41 : w4.cell? ⟨w.heap.size, 1, none⟩ = some (.slice c.a c.len c.cap) := hr4.cell 1
         have hb4 := HB3.out.grown hgrow4 HB3.out.size (fun z e => by have := (HO3.out.lt z e).1; omega))
      | (with_reducible (show wpList _ _ _ (⟨some 81, Op.call _, _, _, _, _⟩ :: _) _ _)
         refine wpList_append_own _ rfl _ _ 22 rfl w1.heap.size 5 i0 (.int .u8 0) 1 1 Try.underlying22 hi hz0 hz1 hz2 rfl (by decide) _ (9 + s.size) _ rfl (hown4.alloc _) ⟨w4.heap.size, 0, none⟩ 1 1 [.int .u8 (c.len : Int)] rfl rfl (cell_one_new _ _ _) (by simp [Value.oneCell']) (by unfold maxLen; omega) (by omega) (by simp; omega) ?_
         intro v5 w5 hown5 hgrow5 _
         have hr5 : Row w5 w.heap.size 24 #[.string s, .slice c.a c.len c.cap, .int .i64 (n : Int)] := (hgrow5.block _ (hr4.alloc _).lt (fun e => by have := ((hown4.alloc (.cells #[] 5)).lt _ e.symm).1; omega)).trans (hr4.alloc _)
         have hs5 := hgrow5.size
         rw [World.size_alloc] at hs5
         have c51 : w5.cell? ⟨w.heap.size, 1, none⟩ = some (.slice c.a c.len c.cap) := hr5.cell 1
         have hb5 := (hb4.alloc hb4.size (.cells #[.int .u8 (c.len : Int)] 5)).grown hgrow5 (by have := hb4.size; simp; omega) (fun z e => by have := ((hown4.alloc (.cells #[] 5)).lt z e).1; omega)
         have hown5' : w5.ownsRow w1.heap.size 5 1 v5 (9 + s.size + 1) (vb ((nine n s.size ++ bOf s) ++ [BitVec.ofNat 8 c.len])) := (by rw [vb_append, HONE.out]; exact hown5))
      | (with_reducible (show wpList _ _ _ (⟨some 85, Op.call _, _, _, _, _⟩ :: _) _ _)
         refine append_sl rfl _ _ 22 rfl w1.heap.size i0 Try.underlying22 hi hz0 hz1 hz2 _ (9 + s.size + 1) _ rfl hown5' c (HC.out.below hb5) rfl (by omega) (by omega) ?_
         intro v6 w6 hown6 hgrow6
         have hr6 : Row w6 w.heap.size 24 #[.string s, .slice c.a c.len c.cap, .int .i64 (n : Int)] := (hgrow6.block _ hr5.lt (fun e => by have := (hown5'.lt _ e.symm).1; omega)).trans hr5
         have hs6 := hgrow6.size
         have c62 : w6.cell? ⟨w.heap.size, 2, none⟩ = some (.int .i64 (n : Int)) := hr6.cell 2
         have hb6 := hb5.grown hgrow6 hb5.size (fun z e => by have := (hown5'.lt z e).1; omega)))
    obtain ⟨s6, rfl, hsl6, hsb6, hok6, _⟩ := SL.of_own hown6
    have hinfo : s6.b = infoL (bOf s) c.b n := by
      rw [hsb6, ← nine_info, bOf_length, hcb]
    have HS6 := veil hok6
    have HI6 := veil hinfo
    have HA6 := HO1.out.same (w' := w6) ((hgrow6.block _ (by have := HO1.out.lt.2; omega) (fun e => by have := (hown5'.lt _ e.symm).1; have := HO1.out.lt.2; omega)).trans ((hgrow5.block _ (by have := HO1.out.lt.2; simp; omega) (fun e => by have := ((hown4.alloc (.cells #[] 5)).lt _ e.symm).1; have := HO1.out.lt.2; omega)).trans ((Below.heap_alloc w4 _ _ (by have := HO1.out.lt.2; omega)).trans ((hgrow4.block _ (by have := HO1.out.lt.2; omega) (fun e => by have := (HO3.out.lt _ e.symm).1; have := HO1.out.lt.2; omega)).trans (HB13.out.block _ HO1.out.lt.2)))))
    have HA := veil HA6
    have HB6 := veil hb6
    clear hown6 hgrow6 hown5 hown5' hgrow5 hown4 hgrow4 hok6 hinfo hsb6 HA6 hb6 hb5 hb4 hr4 hr5 hr6
    unfold SL.v
    refine (expand_ok k s6 n w6 (HK.out.below HB6.out) HS6.out (by omega) (by omega) (by omega)).mono ?_
    rintro e7 w7 ⟨g7, rfl, hown7, hb7⟩
    rw [HI6.out] at hown7
    have HO7 : Hid (OwnB w7 w6.heap.size g7 n n (expandL (keyL k.b) (infoL (bOf s) c.b n) n)) := ⟨expandL_length _ _ _, hown7⟩
    have HA7 := veil (HA.out.below hb7)
    have HB7 := veil (HB6.out.trans (hb7.mono HB6.out.size))
    have hs7 := HB7.out.size
    clear hb7 hown7
    have qA : (⟨some ⟨g1, 0, none⟩, n, n, g1, 0, expandL (keyL k.b) (infoL (bOf s) c.b n) n⟩ : SL).Ok w7 := ⟨expandL_length _ _ _, Nat.le_refl _, (fun e => by cases e), fun _ => rfl, fun _ => HA7.out.lt.2, fun j hj => by
      rw [Nat.zero_add]; exact HA7.out.cell hj⟩
    have qF : (⟨some ⟨g7, 0, none⟩, n, n, g7, 0, expandL (keyL k.b) (infoL (bOf s) c.b n) n⟩ : SL).Ok w7 := ⟨expandL_length _ _ _, Nat.le_refl _, (fun e => by cases e), fun _ => rfl, fun _ => HO7.out.lt.2, fun j hj => by
      rw [Nat.zero_add]; exact HO7.out.cell hj⟩
    have HQA := veil qA
    have HQF := veil qF
    clear qA qF
    go_wp2_with fail
    refine (same_sl ⟨some ⟨g1, 0, none⟩, n, n, g1, 0, expandL (keyL k.b) (infoL (bOf s) c.b n) n⟩ ⟨some ⟨g7, 0, none⟩, n, n, g7, 0, expandL (keyL k.b) (infoL (bOf s) c.b n) n⟩ w7 HQA.out HQF.out rfl (by show n ≤ 8388608; omega)).mono ?_
    rintro e8 w8 ⟨rfl, hb8⟩
    go_wp2_with fail
    go_ret
    exact ⟨rfl, HB7.out.trans (hb8.mono hs7)⟩
  · have HF := veil hfit
    unfold labFits at HF
    go_wp2_with fail
    refine (label_arg k c s N w0 hfit).mono ?_
    rintro e1 w1 ⟨rfl, hb1⟩
    have HB1 := veil (HB0.out.trans (hb1.mono hs0))
    have HR1 := veil (HR0.out.below hb1 HR0.out.lt)
    clear hb1 HB0 HR0 c00 c01 c02 hfit
    have c10 : w1.cell? ⟨w.heap.size, 0, none⟩ = some (.string s) := HR1.out.cell 0
    have c11 : w1.cell? ⟨w.heap.size, 1, none⟩ = some (.slice c.a c.len c.cap) := HR1.out.cell 1
    have c12 : w1.cell? ⟨w.heap.size, 2, none⟩ = some (.int .i64 N) := HR1.out.cell 2
    by_cases k1 : (249 : Int) < (s.size : Int)
    · go_wp2_with fail
      go_ret
      exact ⟨rfl, HB1.out⟩
    by_cases k2 : (255 : Int) < (c.len : Int)
    · go_wp2_with fail
      go_ret
      exact ⟨rfl, HB1.out⟩
    by_cases k3 : N < 0
    · go_wp2_with fail
      go_ret
      exact ⟨rfl, HB1.out⟩
    have k4 : (8160 : Int) < N := by have := HF.out; omega
    go_wp2_with fail
    go_ret
    exact ⟨rfl, HB1.out⟩
end Go.Proofs.Ytcfmghnjokmfiab
