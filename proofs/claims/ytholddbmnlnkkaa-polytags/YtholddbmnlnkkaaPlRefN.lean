/-
  What mailcoachref05.number and mailcoachref05.R answer.
-/
import Derived.Test.YtholddbmnlnkkaaPlRefF
namespace Go.Proofs.Ytholddbmnlnkkaa
open Go Go.RowKit

def z17 : List Nat := List.replicate 17 0
theorem gn_z17 (i : Nat) : gn z17 i = 0 := by
  unfold gn z17
  rw [List.getElem?_replicate]
  split <;> rfl
theorem nK_leK (b : List By) (zs : List Nat) (k : Nat) (h : ∀ i, i < k → gn zs i = (gb b i).toNat) : nK zs k = leK b k := by
  induction k with
  | zero => rfl
  | succ k ih =>
    rw [show nK zs (k + 1) = nK zs k + gn zs k * 256 ^ k from rfl, ih (fun i hi => h i (by omega)), h k (by omega)]
    rfl
/-- A list of places is that of its number. -/
theorem dig_of (zs : List Nat) (n : Nat) (hl : zs.length = n) (hb : ∀ i, gn zs i ≤ 255) : zs = dig (nV zs) n := by
  have key : ∀ k j, j < k → nK zs k / 256 ^ j % 256 = gn zs j := by
    intro k
    induction k with
    | zero => intro j h; omega
    | succ k ih =>
      intro j h
      rw [show nK zs (k + 1) = nK zs k + gn zs k * 256 ^ k from rfl]
      by_cases hj : j = k
      · subst hj
        have hlt : nK zs j < 256 ^ j := by
          have : ∀ m, nK zs m < 256 ^ m := by
            intro m
            induction m with
            | zero => simp [nK]
            | succ m ih2 =>
              rw [show nK zs (m + 1) = nK zs m + gn zs m * 256 ^ m from rfl, Nat.pow_succ]
              have h1 : gn zs m * 256 ^ m ≤ 255 * 256 ^ m := Nat.mul_le_mul_right _ (hb m)
              omega
          exact this j
        rw [Nat.mul_comm, Nat.add_mul_div_left _ _ (Nat.pow_pos (by decide)), Nat.div_eq_of_lt hlt, Nat.zero_add]
        exact Nat.mod_eq_of_lt (by have := hb j; omega)
      · rw [dig_stable _ _ (show j < k by omega)]
        exact ih j (by omega)
  subst hl
  apply List.ext_getElem (by rw [dig_length])
  intro i h1 h2
  have e := key zs.length i h1
  have e2 := dig_get (nV zs) zs.length i h1
  rw [show nV zs / 256 ^ i % 256 = gn zs i from e] at e2
  unfold gn at e2
  rw [List.getElem?_eq_getElem h1, List.getElem?_eq_getElem h2] at e2
  exact e2.symm

set_option maxRecDepth 20000 in
set_option maxHeartbeats 2000000 in
theorem refNumber_any (q : SL) (one : Bool) (w : World) (hq : q.Ok w) (hl : q.len ≤ 16) :
    Calls Try.prog 23 #[.slice q.a q.len q.cap, .bool one] w fun e w' => e = .returned (.slice (some ⟨w.heap.size, 0, none⟩) 17 17) ∧ Row w' w.heap.size 37 (ns (dig (leN q.b + if one then 256 ^ q.len else 0) 17)) ∧ Below w.heap.size w w' := by
  obtain ⟨i0, hi, hz0, hz1, hz2⟩ := info_parts (P := Try.prog) (e := 37) (z := .int .u64 0) (size := 1) (bytes := 8) (by kernel_rfl)
  have HQ := veil hq
  clear hq
  go_enter Try.func23, Try.ntmps23
  go_wp2_with (with_reducible (show wpList _ _ _ (⟨_, Op.makeSlice _ _ _, _, _, _, _⟩ :: _) _ _)
               refine wpList_make_full w rfl _ _ 48 rfl w.heap.size 37 i0 (.int .u64 0) 1 Try.underlying48 hi hz0 hz1 .i64 .i64 17 17 17 rfl rfl rfl rfl (by rw [hz2]; decide) (by unfold maxLen; decide) (Nat.le_refl _) ?_
               intro w6 own6 grow6)
  rw [made_vn] at own6
  have r6 : Row w6 w.heap.size 37 (ns z17) := own_row own6
  have b6 : Below w.heap.size w w6 := (Below.refl _ w).grown grow6 (Nat.le_refl _) (fun q e => by cases e)
  clear own6 grow6
  go_loopw [6] (fun iv wr => ∃ (k : Nat) (zs : List Nat), k ≤ q.len ∧ iv = .int .i64 k ∧ Hid (zs.length = 17) ∧ Hid (∀ i, gn zs i = if i < k then (gb q.b i).toNat else 0) ∧ Row wr w.heap.size 37 (ns zs) ∧ Below w.heap.size w wr)
    (fun iv _ => q.len - (intOf iv).toNat)
  case atStart => exact ⟨0, z17, by omega, rfl, rfl, fun i => by rw [if_neg (by omega), gn_z17], r6, b6⟩
  case round =>
    clear r6 b6
    obtain ⟨k, zs, hk, rfl, HL, HE, rZ, hbel⟩ := hrel
    by_cases hlt : k < q.len
    · have hdk : decide ((k : Int) < (q.len : Int)) = true := by simp; omega
      have hqr := HQ.out.below hbel
      have e := hqr.at_ (by omega)
      have cx := hqr.cell k hlt
      have cz := rZ.cellN (j := k) (by rw [HL.out]; omega)
      have fz := rZ.frozen k
      generalize gn zs k = y0 at cz
      obtain ⟨x, hxe⟩ : ∃ x, x = (gb q.b k).toNat := ⟨_, rfl⟩
      have hx8 : x < 256 := by rw [hxe]; exact (gb q.b k).isLt
      rw [show v8 (gb q.b k) = (x : Int) by rw [hxe]; rfl] at cx
      have HX := veil hxe
      have hw8 : IntKind.u64.wrap (x : Int) = (x : Int) := by rw [IntKind.wrap_u64]; omega
      have hp : (0 : Int) ≤ (k : Int) ∧ (k : Int) < (q.len : Int) := by omega
      have hp2 : (0 : Int) ≤ (k : Int) ∧ (k : Int) < 17 := by omega
      clear hxe hqr
      rw [e]
      go_wp2
      go_roundw
      case rel =>
        have qZ := rZ.set k (.int .u64 (x : Int))
        rw [ns_set] at qZ
        refine ⟨k + 1, _, by omega, by go_num, ?_, ?_, qZ, hbel.setCell (p := ⟨w.heap.size, k, none⟩) (Nat.le_refl _) _⟩
        · show List.length _ = 17
          rw [List.length_set]; exact HL.out
        · intro i
          rw [gn_set, HE.out i, HX.out, HL.out]
          by_cases hi : k = i ∧ i < 17
          · rw [if_pos hi, if_pos (by omega), hi.1]
          · rw [if_neg hi]
            by_cases h2 : i < k
            · rw [if_pos h2, if_pos (by omega)]
            · rw [if_neg h2, if_neg (by omega)]
      case measure => simp [intOf]; omega
    · have hdk : decide ((k : Int) < (q.len : Int)) = false := by simp; omega
      rw [show k = q.len by omega] at HE
      have HB : Hid (∀ i, gn zs i ≤ 255) := show ∀ i, gn zs i ≤ 255 from fun i => by
        rw [HE.out i]
        split
        · have := (gb q.b i).isLt; omega
        · omega
      have hqb := HQ.out.hb
      cases one with
      | false =>
        have HV : Hid (zs = dig (leN q.b) 17) := show _ = _ by
          have e := dig_of zs 17 HL.out HB.out
          have e2 : nV zs = leN q.b := by
            rw [← nK_out zs 17 (by rw [HL.out]; omega)]
            have e3 : nK zs 17 = nK zs q.len := by
              have : ∀ d, q.len + d ≤ 17 → nK zs (q.len + d) = nK zs q.len := by
                intro d
                induction d with
                | zero => intro _; rfl
                | succ d ih =>
                  intro h
                  rw [show q.len + (d + 1) = (q.len + d) + 1 by omega, show nK zs (q.len + d + 1) = nK zs (q.len + d) + gn zs (q.len + d) * 256 ^ (q.len + d) from rfl, ih (by omega), HE.out, if_neg (by omega), Nat.zero_mul, Nat.add_zero]
              have := this (17 - q.len) (by omega)
              rw [show q.len + (17 - q.len) = 17 by omega] at this
              exact this
            rw [e3]
            unfold leN
            rw [hqb]
            exact nK_leK q.b zs q.len (fun i hi => by rw [HE.out, if_pos hi])
          rw [e2] at e
          exact e
        go_wp2
        go_ret
        exact ⟨rfl, by rw [← HV.out]; exact rZ, hbel⟩
      | true =>
        have cz := rZ.cellN (j := q.len) (by rw [HL.out]; omega)
        have fz := rZ.frozen q.len
        generalize gn zs q.len = y0 at cz
        have hp2 : (0 : Int) ≤ (q.len : Int) ∧ (q.len : Int) < 17 := by omega
        have qZ := rZ.set q.len (.int .u64 ((1 : Nat) : Int))
        rw [ns_set] at qZ
        have HL2 : Hid ((zs.set q.len 1).length = 17) := show _ = _ by rw [List.length_set]; exact HL.out
        have HE2 : Hid (∀ i, gn (zs.set q.len 1) i = if i < q.len then (gb q.b i).toNat else if i = q.len then 1 else 0) := show ∀ i, gn (zs.set q.len 1) i = if i < q.len then (gb q.b i).toNat else if i = q.len then 1 else 0 from fun i => by
          rw [gn_set, HL.out, HE.out i]
          by_cases h1 : q.len = i ∧ i < 17
          · rw [if_pos h1, if_neg (by omega), if_pos (by omega)]
          · rw [if_neg h1]
            by_cases h2 : i < q.len
            · rw [if_pos h2, if_pos h2]
            · rw [if_neg h2, if_neg h2, if_neg (by omega)]
        have HV : Hid (zs.set q.len 1 = dig (leN q.b + 256 ^ q.len) 17) := show _ = _ by
          have e := dig_of (zs.set q.len 1) 17 HL2.out (fun i => by
            rw [HE2.out i]
            split
            · have := (gb q.b i).isLt; omega
            · split <;> omega)
          have e2 : nV (zs.set q.len 1) = leN q.b + 256 ^ q.len := by
            rw [← nK_out (zs.set q.len 1) 17 (by rw [HL2.out]; omega)]
            have : ∀ d, q.len + 1 + d ≤ 17 → nK (zs.set q.len 1) (q.len + 1 + d) = leN q.b + 256 ^ q.len := by
              intro d
              induction d with
              | zero =>
                intro _
                rw [show q.len + 1 + 0 = q.len + 1 from rfl, show nK (zs.set q.len 1) (q.len + 1) = nK (zs.set q.len 1) q.len + gn (zs.set q.len 1) q.len * 256 ^ q.len from rfl, HE2.out q.len, if_neg (by omega), if_pos rfl, Nat.one_mul, nK_leK q.b (zs.set q.len 1) q.len (fun i hi => by rw [HE2.out, if_pos hi])]
                unfold leN
                rw [hqb]
              | succ d ih =>
                intro h
                rw [show q.len + 1 + (d + 1) = (q.len + 1 + d) + 1 by omega, show nK (zs.set q.len 1) (q.len + 1 + d + 1) = nK (zs.set q.len 1) (q.len + 1 + d) + gn (zs.set q.len 1) (q.len + 1 + d) * 256 ^ (q.len + 1 + d) from rfl, ih (by omega), HE2.out, if_neg (by omega), if_neg (by omega), Nat.zero_mul, Nat.add_zero]
            have := this (16 - q.len) (by omega)
            rw [show q.len + 1 + (16 - q.len) = 17 by omega] at this
            exact this
          rw [e2] at e
          exact e
        have kb := hbel.setCell (p := ⟨w.heap.size, q.len, none⟩) (Nat.le_refl _) (.int .u64 ((1 : Nat) : Int))
        clear HE HE2 HB
        go_wp2
        go_ret
        exact ⟨rfl, by rw [← HV.out]; exact qZ, kb⟩
end Go.Proofs.Ytholddbmnlnkkaa
