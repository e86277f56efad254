/-
  What the document's Label answers.
-/
import Derived.Test.YtcfmghnjokmfiaaGreatDoorHkLabel
import Derived.Test.YtcfmghnjokmfiaaGreatDoorHkRefExp
namespace Go.Proofs.YtcfmghnjokmfiaaGreatDoor
open Go Go.RowKit

theorem own_row (w : World) (base : Nat) (b : List By) (n : Nat) (hn : b.length = n) (hm : n ≤ 4194304) (hb : base ≤ w.heap.size) : (w.alloc (.cells (bs b) 5)).ownsRow base 5 1 (.slice (some ⟨w.heap.size, 0, none⟩) n n) n (vb b) := by
  subst hn
  refine ⟨by rw [vb_length, Nat.mul_one], .inr ⟨w.heap.size, b.length, bs b, rfl, hb, heap_alloc_new w _, Nat.le_refl _, by unfold maxLen; omega, by rw [bs_size, Nat.mul_one], ?_⟩⟩
  show (vb b).take (b.length * 1) = vb b
  rw [List.take_of_length_le (by rw [vb_length]; omega)]

set_option maxRecDepth 20000 in
set_option maxHeartbeats 1000000 in
theorem refLabel_bad (k c : SL) (s : ByteArray) (N : Int) (w : World) (hf : ¬ labFits s.size c.len N) :
    Calls Tryz.prog 14 #[.slice k.a k.len k.cap, .string s, .slice c.a c.len c.cap, .int .i64 N] w fun e w' => e = .returned (.tuple #[.slice none 0 0, .int .i64 1]) ∧ Below w.heap.size w w' := by
  unfold labFits at hf
  have HF := veil hf
  clear hf
  go_enter Tryz.func14, Tryz.ntmps14
  by_cases h1 : (249 : Int) < (s.size : Int)
  · go_wp2_with fail
    go_ret2
    exact ⟨rfl, Below.refl _ _⟩
  by_cases h2 : (255 : Int) < (c.len : Int)
  · go_wp2_with fail
    go_ret2
    exact ⟨rfl, Below.refl _ _⟩
  by_cases h3 : N < 0
  · go_wp2_with fail
    go_ret2
    exact ⟨rfl, Below.refl _ _⟩
  have h4 : (8160 : Int) < N := by have := HF.out; omega
  go_wp2_with fail
  go_ret2
  exact ⟨rfl, Below.refl _ _⟩

set_option maxRecDepth 20000 in
set_option maxHeartbeats 2000000 in
theorem refLabel_any (k c : SL) (s : ByteArray) (N : Nat) (w : World) (hk : k.Ok w) (hc : c.Ok w) (h1 : s.size ≤ 249) (h2 : c.len ≤ 255) (h3 : N ≤ 8160) (R : Ending → World → Prop)
    (hR : ∀ (q : SL) (w1 : World), q.Ok w1 → k.Ok w1 → q.b = infoL (bOf s) c.b N → Below w.heap.size w w1 → Calls Tryz.prog 8 #[.slice k.a k.len k.cap, .slice q.a q.len q.cap, .int .i64 (N : Int)] w1 fun e w' => ∃ a n d E, e = .returned (.tuple #[.slice a n d, .int .i64 E]) ∧ R e w') :
    Calls Tryz.prog 14 #[.slice k.a k.len k.cap, .string s, .slice c.a c.len c.cap, .int .i64 (N : Int)] w R := by
  obtain ⟨i0, hi, hz0, hz1, hz2⟩ := info_parts (P := Tryz.prog) (e := 5) (z := .int .u8 0) (size := 1) (bytes := 1) (by kernel_rfl)
  have HK := veil hk
  have HC := veil hc
  have hcb := hc.hb
  have HR := veil hR
  clear hk hc hR
  have g1 : ¬ (249 : Int) < (s.size : Int) := by omega
  have g2 : ¬ (255 : Int) < (c.len : Int) := by omega
  have g3 : ¬ (N : Int) < 0 := by omega
  have g4 : ¬ (8160 : Int) < (N : Int) := by omega
  have hsz : (tls ++ s).size = s.size + 6 := by
    rw [ByteArray.size_append]
    show 6 + s.size = _
    omega
  have hrw := head_row N s.size h3 h1
  obtain ⟨W1, hW1⟩ : ∃ W1, W1 = w.alloc (.cells (bs [BitVec.ofNat 8 (N / 256), BitVec.ofNat 8 N, BitVec.ofNat 8 (s.size + 6)]) 5) := ⟨_, rfl⟩
  have hcv := Lib.run_convert_string_bytes (P := Tryz.prog) W1 9 22 5 (tls ++ s) Tryz.underlying9 Tryz.underlying22 Tryz.underlying5
  have HO1 : Hid (W1.ownsRow w.heap.size 5 1 (.slice (some ⟨w.heap.size, 0, none⟩) 3 3) 3 (vb [BitVec.ofNat 8 (N / 256), BitVec.ofNat 8 N, BitVec.ofNat 8 (s.size + 6)])) := show W1.ownsRow _ _ _ _ _ _ by rw [hW1]; exact own_row w w.heap.size _ 3 rfl (by decide) (Nat.le_refl _)
  have b1 : Below w.heap.size w W1 := by rw [hW1]; exact (Below.refl _ w).alloc (Nat.le_refl _) _
  have hs1 : W1.heap.size = w.heap.size + 1 := by rw [hW1]; simp
  obtain ⟨W2, hW2⟩ : ∃ W2, W2 = Lib.bytesWorld W1 5 (tls ++ s) := ⟨_, rfl⟩
  have c2 : ∀ j : Nat, j < (tls ++ s).size → W2.cell? ⟨W1.heap.size, 0 + j, none⟩ = some (.int .u8 (v8 (gb (bOf (tls ++ s)) j))) := fun j hj => by
    rw [hW2, Nat.zero_add, Lib.bytesWorld_cell W1 5 (tls ++ s) j hj, bOf_get (tls ++ s) j hj]
  have b2 : Below W1.heap.size W1 W2 := by
    rw [hW2]
    exact ⟨rfl, rfl, rfl, by rw [Lib.bytesWorld_size]; omega, fun j hj => Lib.bytesWorld_at_old W1 5 (tls ++ s) j hj⟩
  have hs2 : W2.heap.size = W1.heap.size + 1 := by rw [hW2, Lib.bytesWorld_size]
  have hcap : (tls ++ s).size ≤ grownCap W1 (tls ++ s).size 0 5 := grownCap_ge ..
  rw [← hW2] at hcv
  clear hW2
  generalize grownCap W1 (tls ++ s).size 0 5 = C at *
  have qB : (⟨some ⟨W1.heap.size, 0, none⟩, (tls ++ s).size, C, W1.heap.size, 0, bOf (tls ++ s)⟩ : SL).Ok W2 := ⟨bOf_length _, hcap, (fun h => by cases h), fun _ => rfl, (fun _ => by show W1.heap.size < W2.heap.size; omega), c2⟩
  have HO2 := veil (own_below HO1.out b2)
  have HBW := veil (b1.trans (b2.mono (by omega)))
  rw [hW1] at hcv
  have hcv' : (convert 9 22 (.string ({ data := #[116, 108, 115, 49, 51, 32] } ++ s))).run Tryz.prog (w.alloc (.cells (bs [BitVec.ofNat 8 (N / 256), BitVec.ofNat 8 N, BitVec.ofNat 8 (s.size + 6)]) 5)) = _ := hcv
  have hW1s : (w.alloc (.cells (bs [BitVec.ofNat 8 (N / 256), BitVec.ofNat 8 N, BitVec.ofNat 8 (s.size + 6)]) 5)).heap.size = w.heap.size + 1 := by simp
  rw [hW1s, hsz] at hcv'
  rw [hsz, hs1] at qB
  have HQB := veil qB
  have hone : vb [BitVec.ofNat 8 c.len] = [.int .u8 (c.len : Int)] := by
    have e : v8 (BitVec.ofNat 8 c.len) = (c.len : Int) := by unfold v8; rw [BitVec.toNat_ofNat]; omega
    unfold vb
    rw [List.map_cons, e]
    rfl
  have HONE := veil hone
  clear hcv qB b1 b2 c2 hcap hW1 hone HO1
  have hsW := HBW.out.size
  have hbC : IntKind.u8.wrap (c.len : Int) = (c.len : Int) := by rw [IntKind.wrap_u8]; omega
  go_enter Tryz.func14, Tryz.ntmps14
  go_wp2_with (first
    | (with_reducible (show wpList _ _ _ (⟨some 41, Op.call _, _, _, _, _⟩ :: _) _ _)
       refine append_sl rfl _ _ 22 rfl w.heap.size i0 Tryz.underlying22 hi hz0 hz1 hz2 _ 3 _ rfl HO2.out ⟨some ⟨w.heap.size + 1, 0, none⟩, s.size + 6, C, w.heap.size + 1, 0, bOf (tls ++ s)⟩ HQB.out rfl (by show 3 + (s.size + 6) ≤ 8388608; omega) hsW ?_
       intro v4 w4 hown4 hgrow4
       have hb4 := HBW.out.grown hgrow4 hsW (fun z e => (HO2.out.lt z e).1)
       have hs4 := hb4.size)
    | (with_reducible (show wpList _ _ _ (⟨some 47, Op.call _, _, _, _, _⟩ :: _) _ _)
       refine wpList_append_own _ rfl _ _ 22 rfl w.heap.size 5 i0 (.int .u8 0) 1 1 Tryz.underlying22 hi hz0 hz1 hz2 rfl (by decide) _ (3 + (s.size + 6)) _ rfl (hown4.alloc _) ⟨w4.heap.size, 0, none⟩ 1 1 [.int .u8 (c.len : Int)] rfl rfl (cell_one_new _ _ _) (by simp [Value.oneCell']) (by unfold maxLen; omega) (by omega) (by simp; omega) ?_
       intro v5 w5 hown5 hgrow5 _
       have hb5 := (hb4.alloc hb4.size (.cells #[.int .u8 (c.len : Int)] 5)).grown hgrow5 (by have := hb4.size; simp; omega) (fun z e => ((hown4.alloc (.cells #[] 5)).lt z e).1)
       have hs5 := hb5.size
       have hown5' : w5.ownsRow w.heap.size 5 1 v5 (3 + (s.size + 6) + 1) (vb (([BitVec.ofNat 8 (N / 256), BitVec.ofNat 8 N, BitVec.ofNat 8 (s.size + 6)] ++ bOf (tls ++ s)) ++ [BitVec.ofNat 8 c.len])) := (by rw [vb_append, HONE.out]; exact hown5))
    | (with_reducible (show wpList _ _ _ (⟨some 50, Op.call _, _, _, _, _⟩ :: _) _ _)
       refine append_sl rfl _ _ 22 rfl w.heap.size i0 Tryz.underlying22 hi hz0 hz1 hz2 _ (3 + (s.size + 6) + 1) _ rfl hown5' c (HC.out.below hb5) rfl (by omega) (by omega) ?_
       intro v6 w6 hown6 hgrow6
       have hb6 := hb5.grown hgrow6 hb5.size (fun z e => (hown5'.lt z e).1)))
  obtain ⟨s6, rfl, hsl6, hsb6, hok6, _⟩ := SL.of_own hown6
  have hinfo : s6.b = infoL (bOf s) c.b N := by
    rw [hsb6, bOf_tls]
    unfold infoL
    rw [bOf_length, hcb]
    simp only [List.append_assoc]
  unfold SL.v
  refine (HR.out s6 w6 hok6 (HK.out.below hb6) hinfo hb6).mono ?_
  rintro e7 w7 ⟨a7, n7, d7, E7, rfl, hR7⟩
  have HR7 := veil hR7
  clear hR7 hown6 hgrow6 hown5 hown5' hgrow5 hown4 hgrow4
  go_wp2_with fail
  exact HR7.out
end Go.Proofs.YtcfmghnjokmfiaaGreatDoor
