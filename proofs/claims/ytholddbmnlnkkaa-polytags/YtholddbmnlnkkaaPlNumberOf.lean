/-
  What poly.numberOf answers.
-/
import Derived.Test.YtholddbmnlnkkaaPlNum
import Derived.Test.YtholddbmnlnkkaaChaSl
import Derived.BigRegion
namespace Go.Proofs.Ytholddbmnlnkkaa
open Go Go.RowKit

set_option maxRecDepth 20000 in
set_option maxHeartbeats 1000000 in
theorem numberOf_any (s : SL) (w : World) (hs : s.Ok w) (hlen : s.len ≤ 17) (hv : leN s.b < 1361129467683753853853498429727072845824) :
    Calls Try.prog 15 #[.slice s.a s.len s.cap] w fun e w' => ∃ ys, e = .returned (.agg (ns ys)) ∧ Sm ys ∧ V5 ys = leN s.b ∧ Below w.heap.size w w' := by
  obtain ⟨a, len, cap, g, off, b⟩ := s
  simp only at hlen hv ⊢
  have HOk := veil hs
  have HV := veil hv
  have hlen' : (len : Int) ≤ 17 := by omega
  have hat := veil hs.at_
  have hlt := veil hs.lt
  clear hs hv
  go_enter Try.func15, Try.ntmps15
  go_wp2
  go_loopw [8] (fun iv wr => ∃ (k : Nat) (zs : List Nat), k ≤ len ∧ iv = .int .i64 k ∧ Hid (zs.length = 5) ∧ Hid (∀ m, gn zs m ≤ k * 4294967296) ∧ Hid (V5 zs = leK b k) ∧ Row wr w.heap.size 39 (ns (List.replicate 5 0)) ∧ Row wr (w.heap.size + 1) 39 (ns zs) ∧ Below w.heap.size w wr)
    (fun iv _ => len - (intOf iv).toNat)
  case atStart =>
    refine ⟨0, List.replicate 5 0, by omega, rfl, rfl, fun m => ?_, ?_, (Row.new _ _ (ns (List.replicate 5 0))).alloc _, Row.new1 _ _ _ (ns (List.replicate 5 0)), ((Below.refl _ w).alloc (Nat.le_refl _) _).alloc (by simp) _⟩
    · unfold gn
      rw [List.getElem?_replicate]
      split <;> simp
    · show _ = _
      simp [leK, V5, gn]
  case round =>
    obtain ⟨k, zs, hk, rfl, HL, HM, HE, r0, r1, hbel⟩ := hrel
    by_cases hlt2 : k < len
    · have hdk : decide ((k : Int) < (len : Int)) = true := by simp; omega
      have hcell := (HOk.out.below hbel).cell k hlt2
      have e := hat.out (show 0 < len by omega)
      simp only at hcell e
      subst e
      obtain ⟨x, hxe⟩ : ∃ x, x = (gb b k).toNat := ⟨_, rfl⟩
      have hx8 : x < 256 := by rw [hxe]; exact (gb b k).isLt
      rw [show v8 (gb b k) = (x : Int) by rw [hxe]; rfl] at hcell
      have HXE := veil hxe
      clear hxe
      have cz := r1.cellN (j := 8 * k / 26) (by rw [HL.out]; omega)
      have fz := r1.frozen (8 * k / 26)
      obtain ⟨v, hve⟩ : ∃ v, v = gn zs (8 * k / 26) := ⟨_, rfl⟩
      rw [← hve] at cz
      have HVB : Hid (v ≤ k * 4294967296) := show _ ≤ _ by rw [hve]; exact HM.out _
      have hvb : v ≤ 73014444032 := by have := HVB.out; omega
      have HVE := veil hve
      clear hve
      obtain ⟨y, hye⟩ : ∃ y, y = x * 2 ^ (8 * k % 26) := ⟨_, rfl⟩
      have hyb : y ≤ 4294967296 := by
        rw [hye]
        exact Nat.le_trans (Nat.mul_le_mul (Nat.le_of_lt hx8) (pow8_le k)) (by decide)
      have hp : (0 : Int) ≤ (k : Int) ∧ (k : Int) < (len : Int) := by omega
      have hw8 : IntKind.u64.wrap (x : Int) = (x : Int) := by rw [IntKind.wrap_u64]; omega
      have HW : Hid (IntKind.u64.wrap ((v : Int) + IntKind.u64.wrap ((x : Int) * 2 ^ (8 * k % 26))) = ((v + y : Nat) : Int)) := show _ = _ by
        rw [show (x : Int) * 2 ^ (8 * k % 26) = (y : Int) by rw [hye]; simp, IntKind.wrap_u64, IntKind.wrap_u64]
        omega
      have HN : Hid (V5 (zs.set (8 * k / 26) (v + y)) = leK b (k + 1)) := show _ = _ from num_step zs HL.out b k (by omega) HE.out v y HVE.out (by rw [hye, HXE.out])
      have HM' : Hid (∀ m, gn (zs.set (8 * k / 26) (v + y)) m ≤ (k + 1) * 4294967296) := show ∀ m, gn (zs.set (8 * k / 26) (v + y)) m ≤ (k + 1) * 4294967296 from fun m => by
        rw [gn_set]
        split
        · rw [Nat.add_mul, Nat.one_mul]
          exact Nat.add_le_add HVB.out hyb
        · exact Nat.le_trans (HM.out m) (Nat.mul_le_mul_right _ (by omega))
      clear hye
      go_wp2
      go_region
      go_wp2
      go_roundw
      case rel =>
        rw [HW.out]
        have q1 := r1.set (8 * k / 26) (.int .u64 ((v + y : Nat) : Int))
        rw [ns_set] at q1
        refine ⟨k + 1, _, by omega, by go_num, ?_, HM', HN, r0.other (by show w.heap.size ≠ w.heap.size + 1; omega) _, q1, Below.drew (hbel.setCell (p := ⟨w.heap.size + 1, 8 * k / 26, none⟩) (by show w.heap.size ≤ w.heap.size + 1; omega) _)⟩
        show List.length _ = 5
        rw [List.length_set]; exact HL.out
      case measure => simp [intOf]; omega
    · have hdk : decide ((k : Int) < (len : Int)) = false := by simp; omega
      rw [show k = len by omega] at HE HM
      have HX : Hid (∀ m, gn zs m < 4611686018427387904) := show ∀ m, gn zs m < 4611686018427387904 from fun m => Nat.lt_of_le_of_lt (HM.out m) (by omega)
      have HE2 : Hid (V5 zs = leN b) := show _ = _ by
        rw [HE.out]; unfold leN; rw [show b.length = len from HOk.out.hb]
      go_wp2_with (with_reducible (show wpList _ _ _ (⟨_, Op.load 39 _, _, _, _, _⟩ :: _) _ _)
                   refine load_row rfl 39 _ rfl (w.heap.size + 1) rfl _ _ r1 5 37 Try.underlying39 (by kernel_rfl) (by rw [ns_size, HL.out]) ?_)
      refine (carried_any zs HL.out HX.out wr).mono ?_
      rintro e1 w1 ⟨ys, rfl, hsm, hcy, hb1⟩
      have HS := veil hsm
      have HC := veil hcy
      have hs1 := hbel.size
      have q0 := r0.below hb1 r0.lt
      have bel2 : Below w.heap.size w w1 := hbel.trans (hb1.mono hs1)
      clear hsm hcy
      go_wp2_with (with_reducible (show wpList _ _ _ (⟨_, Op.store 39 _ _, _, _, _, _⟩ :: _) _ _)
                   refine store_row rfl 39 _ _ rfl w.heap.size (ns ys) rfl rfl _ _ q0 5 (by kernel_rfl) (by rw [ns_size, List.length_replicate]) (by rw [ns_size, HS.out.len]) (ns_one _) ?_)
      refine bodyPost_ret (result_row rfl _ _ w.heap.size _ _ (q0.put _) 5 37 rfl Try.underlying39 (by kernel_rfl) (by rw [ns_size, HS.out.len])) rfl ⟨ys, rfl, HS.out, by rw [HC.out.eq (by rw [HE2.out]; exact HV.out), HE2.out], bSetRow bel2 (Nat.le_refl _) _⟩
end Go.Proofs.Ytholddbmnlnkkaa
