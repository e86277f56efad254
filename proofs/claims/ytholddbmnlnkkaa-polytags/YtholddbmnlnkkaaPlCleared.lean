/-
  What poly.cleared answers.
-/
import Derived.Test.YtholddbmnlnkkaaPlNumberOf
import Derived.Test.YtholddbmnlnkkaaPlBytesOf
namespace Go.Proofs.Ytholddbmnlnkkaa
open Go Go.RowKit

theorem leK_congr {a b : List By} (k : Nat) (h : ∀ i, i < k → gb a i = gb b i) : leK a k = leK b k := by
  induction k with
  | zero => rfl
  | succ k ih =>
    rw [show leK a (k + 1) = leK a k + (gb a k).toNat * 256 ^ k from rfl, ih (fun i hi => h i (by omega)), h k (by omega)]
    rfl
/-- The bytes of a key's first half, some bits cleared. -/
def clB (key : List By) (i : Nat) : By := if i % 4 = 3 then gb key i &&& 15 else if i % 4 = 0 ∧ 0 < i then gb key i &&& 252 else gb key i
def clL (key : List By) : List By := (List.range 16).map (clB key)
theorem clL_get (key : List By) (i : Nat) (h : i < 16) : gb (clL key) i = clB key i := by simp [clL, gb, h]
/-- A key's r. -/
def rN (key : List By) : Nat := leK (clL key) 16
theorem and_by (x y : By) : bits .and .u8 (v8 x) (v8 y) = v8 (x &&& y) := by
  have h1 := v8_nn x
  have h2 := v8_le x
  have h3 := v8_nn y
  have h4 := v8_le y
  rw [u8_and _ _ h1 (by omega) h3 (by omega)]
  unfold v8
  rw [BitVec.toNat_and, Int.toNat_natCast, Int.toNat_natCast]
theorem gb_take (zs : List By) (n i : Nat) (h : i < n) : gb (zs.take n) i = gb zs i := by
  unfold gb
  rw [List.getElem?_take, if_pos h]

theorem gb_cut (zs : List By) (off n i : Nat) (h : i < n) : gb ((zs.drop off).take n) i = gb zs (off + i) := by
  unfold gb
  rw [List.getElem?_take, if_pos h, List.getElem?_drop]
/-- A part of a row of bytes, as a slice. -/
theorem slice_ok {w : World} {g : Nat} {t : TypeId} {zs : List By} (h : Row w g t (bs zs)) (off n cap : Nat) (h1 : off + n ≤ zs.length) (h2 : n ≤ cap) : (SL.mk (some ⟨g, off, none⟩) n cap g off ((zs.drop off).take n)).Ok w where
  hb := by
    show ((zs.drop off).take n).length = n
    rw [List.length_take, List.length_drop]
    omega
  hcap := h2
  nil := fun e => by simp at e
  at_ := fun _ => rfl
  lt := fun _ => h.lt
  cell := fun j hj => by
    have hj : j < n := hj
    show w.cell? ⟨g, off + j, none⟩ = some (.int .u8 (v8 (gb ((zs.drop off).take n) j)))
    rw [gb_cut _ _ _ _ hj]
    exact h.cellB (by omega)

set_option maxRecDepth 20000 in
set_option maxHeartbeats 1000000 in
theorem cleared_any (key : List By) (hk : key.length = 32) (w : World) :
    Calls Try.prog 14 #[.agg (bs key)] w fun e w' => ∃ ys, e = .returned (.agg (ns ys)) ∧ Sm ys ∧ V5 ys = rN key ∧ Below w.heap.size w w' := by
  have HK := veil hk
  clear hk
  go_enter Try.func14, Try.ntmps14
  go_wp2
  go_loopw [3] (fun iv wr => ∃ (i : Nat) (zs : List By), i ≤ 19 ∧ i % 4 = 3 ∧ iv = .int .i64 i ∧ Hid (zs.length = 32) ∧ Hid (∀ j, gb zs j = if j % 4 = 3 ∧ j < i then gb key j &&& 15 else gb key j) ∧ Row wr w.heap.size 22 (bs zs) ∧ Row wr (w.heap.size + 1) 39 (ns (List.replicate 5 0)) ∧ Below w.heap.size w wr)
    (fun iv _ => 19 - (intOf iv).toNat)
  case atStart =>
    refine ⟨3, key, by omega, rfl, rfl, HK, fun j => ?_, (Row.new _ _ _).alloc _, Row.new1 _ _ _ (ns (List.replicate 5 0)), ((Below.refl _ w).alloc (Nat.le_refl _) _).alloc (by simp) _⟩
    rw [if_neg (by omega)]
  case round =>
    obtain ⟨i, zs, hi, hi4, rfl, HL, HD, r0, r1, hbel⟩ := hrel
    by_cases h16 : i < 16
    · have cx := r0.cellB (j := i) (by rw [HL.out]; omega)
      have fx := r0.frozen i
      rw [HD.out i, if_neg (by omega)] at cx
      obtain ⟨x, hxe⟩ : ∃ x, x = gb key i := ⟨_, rfl⟩
      rw [← hxe] at cx
      have hand : bits .and .u8 (v8 x) 15 = v8 (x &&& 15) := and_by x 15
      have HXE := veil hxe
      clear hxe
      go_wp2
      go_roundw
      case rel =>
        have q0 := r0.set i (.int .u8 (v8 (x &&& 15)))
        rw [bs_set] at q0
        refine ⟨i + 4, _, by omega, by omega, by go_num, ?_, ?_, q0, r1.other (by show w.heap.size + 1 ≠ w.heap.size; omega) _, hbel.setCell (p := ⟨w.heap.size, i, none⟩) (Nat.le_refl _) _⟩
        · show List.length _ = 32
          rw [List.length_set]; exact HL.out
        · intro j
          rw [gb_set _ (by rw [HL.out]; omega), HD.out j, HXE.out]
          by_cases hij : i = j
          · subst hij
            rw [if_pos rfl, if_pos ⟨hi4, by omega⟩]
          · rw [if_neg hij]
            by_cases h3 : j % 4 = 3 ∧ j < i
            · rw [if_pos h3, if_pos ⟨h3.1, by omega⟩]
            · rw [if_neg h3, if_neg (by omega)]
      case measure => simp [intOf]; omega
    · rw [show i = 19 by omega] at HD
      have hdi : decide ((i : Int) < 16) = false := by simp; omega
      go_wp2
      go_loopw [4] (fun iv wr => ∃ (i : Nat) (zs : List By), i ≤ 16 ∧ i % 4 = 0 ∧ 4 ≤ i ∧ iv = .int .i64 i ∧ Hid (zs.length = 32) ∧ Hid (∀ j, j < 16 → gb zs j = if j % 4 = 3 then gb key j &&& 15 else if (j % 4 = 0 ∧ 0 < j) ∧ j < i then gb key j &&& 252 else gb key j) ∧ Row wr w.heap.size 22 (bs zs) ∧ Row wr (w.heap.size + 1) 39 (ns (List.replicate 5 0)) ∧ Below w.heap.size w wr)
        (fun iv _ => 16 - (intOf iv).toNat)
      case atStart =>
        refine ⟨4, zs, by omega, rfl, by omega, rfl, HL, fun j hj => ?_, r0, r1, hbel⟩
        rw [HD.out j]
        by_cases h3 : j % 4 = 3
        · rw [if_pos h3, if_pos ⟨h3, by omega⟩]
        · rw [if_neg h3, if_neg (fun e => h3 e.1), if_neg (by omega)]
      case round =>
        clear HL HD r0 r1 hbel hdi
        obtain ⟨i, zs, hi, hi4, hi0, rfl, HL, HD, r0, r1, hbel⟩ := hrel
        by_cases h16 : i < 16
        · have cx := r0.cellB (j := i) (by rw [HL.out]; omega)
          have fx := r0.frozen i
          rw [HD.out i h16, if_neg (by omega), if_neg (by omega)] at cx
          obtain ⟨x, hxe⟩ : ∃ x, x = gb key i := ⟨_, rfl⟩
          rw [← hxe] at cx
          have hand : bits .and .u8 (v8 x) 252 = v8 (x &&& 252) := and_by x 252
          have HXE := veil hxe
          clear hxe
          go_wp2
          go_roundw
          case rel =>
            have q0 := r0.set i (.int .u8 (v8 (x &&& 252)))
            rw [bs_set] at q0
            refine ⟨i + 4, _, by omega, by omega, by omega, by go_num, ?_, ?_, q0, r1.other (by show w.heap.size + 1 ≠ w.heap.size; omega) _, hbel.setCell (p := ⟨w.heap.size, i, none⟩) (Nat.le_refl _) _⟩
            · show List.length _ = 32
              rw [List.length_set]; exact HL.out
            · intro j hj
              rw [gb_set _ (by rw [HL.out]; omega), HD.out j hj, HXE.out]
              by_cases hij : i = j
              · subst hij
                rw [if_pos rfl, if_neg (by omega), if_pos ⟨⟨hi4, by omega⟩, by omega⟩]
              · rw [if_neg hij]
                by_cases h3 : j % 4 = 3
                · rw [if_pos h3, if_pos h3]
                · rw [if_neg h3, if_neg h3]
                  by_cases h0 : (j % 4 = 0 ∧ 0 < j) ∧ j < i
                  · rw [if_pos h0, if_pos ⟨h0.1, by omega⟩]
                  · rw [if_neg h0, if_neg (by omega)]
          case measure => simp [intOf]; omega
        · rw [show i = 16 by omega] at HD
          have hdi : decide ((i : Int) < 16) = false := by simp; omega
          have HE : Hid (leN (zs.take 16) = rN key) := show _ = _ by
            unfold leN rN
            rw [List.length_take, HL.out]
            exact leK_congr 16 (fun j hj => by
              rw [gb_take _ _ _ hj, HD.out j hj, clL_get _ _ hj]
              unfold clB
              by_cases h3 : j % 4 = 3
              · rw [if_pos h3, if_pos h3]
              · rw [if_neg h3, if_neg h3]
                by_cases h0 : j % 4 = 0 ∧ 0 < j
                · rw [if_pos h0, if_pos ⟨h0, hj⟩]
                · rw [if_neg h0, if_neg (fun e => h0 e.1)])
          have hsl := slice_ok r0 0 16 32 (by rw [HL.out]; omega) (by omega)
          rw [List.drop_zero] at hsl
          have HV : Hid (leN (zs.take 16) < 1361129467683753853853498429727072845824) := show _ < _ by
            have := leK_lt (zs.take 16) (zs.take 16).length
            rw [show (zs.take 16).length = 16 by simp [HL.out]] at this
            unfold leN
            rw [show (zs.take 16).length = 16 by simp [HL.out]]
            exact Nat.lt_trans this (by decide)
          have HSL := veil hsl
          clear hsl
          go_wp2_with fail
          refine (numberOf_any _ wr HSL.out (by show 16 ≤ 17; omega) HV.out).mono ?_
          rintro e1 w1 ⟨ys, rfl, hsm, hv5, hb1⟩
          have HS := veil hsm
          have HC := veil hv5
          have hs1 := hbel.size
          have q1 := r1.below hb1 r1.lt
          have bel2 : Below w.heap.size w w1 := hbel.trans (hb1.mono hs1)
          clear hsm hv5
          go_wp2_with (with_reducible (show wpList _ _ _ (⟨_, Op.store 39 _ _, _, _, _, _⟩ :: _) _ _)
                       refine store_row rfl 39 _ _ rfl (w.heap.size + 1) (ns ys) rfl rfl _ _ q1 5 (by kernel_rfl) (by rw [ns_size, List.length_replicate]) (by rw [ns_size, HS.out.len]) (ns_one _) ?_)
          refine bodyPost_ret (result_row rfl _ _ (w.heap.size + 1) _ _ (q1.put _) 5 37 rfl Try.underlying39 (by kernel_rfl) (by rw [ns_size, HS.out.len])) rfl ⟨ys, rfl, HS.out, by rw [HC.out]; exact HE.out, bSetRow bel2 (by omega) _⟩
end Go.Proofs.Ytholddbmnlnkkaa
