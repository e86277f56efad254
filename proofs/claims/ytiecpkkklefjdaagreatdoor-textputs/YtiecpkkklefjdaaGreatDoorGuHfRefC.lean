/-
  What the document's Code answers.
-/
import Derived.Test.YtiecpkkklefjdaaGreatDoorGuHfOwn
import Derived.Test.YtiecpkkklefjdaaGreatDoorGuHfSym
namespace Go.Proofs.YtiecpkkklefjdaaGreatDoor
open Go Go.RowKit

def zC : Array Value := ua (List.replicate 257 0)
structure CoI (w : World) (Lg O n k : Nat) (W : World) : Prop where
  ls : Row W Lg 3 (ia Hf.szL)
  out : Row W O 65 (ua (codP n k))
  lo : Lg < O ∧ w.heap.size ≤ Lg
  below : Below w.heap.size w W
set_option maxRecDepth 20000 in
set_option maxHeartbeats 2000000 in
theorem code_any (w : World) : Calls Tryz.prog 65 #[] w fun e w' => ∃ O, e = .returned (.slice (some ⟨O, 0, none⟩) 257 257) ∧ Row w' O 65 (ua Hf.valL) ∧ Below w.heap.size w w' := by
  go_enter Tryz.func65, Tryz.ntmps65
  go_wp2_with fail
  refine (lengths_any w).mono ?_
  rintro e1 w1 ⟨rfl, hw1⟩
  have rL : Row w1 w.heap.size 3 (ia Hf.szL) := by rw [hw1]; exact Row.new _ _ _
  have b1 : Below w.heap.size w w1 := by rw [hw1]; exact (Below.refl _ w).alloc (Nat.le_refl _) _
  have hz1s : w1.heap.size = w.heap.size + 1 := by rw [hw1]; simp
  have HOZ := veil hz1s
  clear hw1 hz1s
  go_wp2_with (with_reducible (show wpList _ _ _ (⟨_, Op.makeSlice 67 _ _, _, _, _, _⟩ :: _) _ _)
               refine val_run rfl (.slice (some ⟨w1.heap.size, 0, none⟩) 257 257) (show _ = Result.ok (Next.value _) (w1.alloc (.cells zC 65)) by kernel_rfl) ?_)
  have hF0 : CoI w w.heap.size w1.heap.size 1 0 (w1.alloc (.cells zC 65)) := ⟨rL.alloc _, by rw [codP_zero]; exact Row.new _ _ _, ⟨by have := HOZ.out; omega, Nat.le_refl _⟩, b1.alloc b1.size _⟩
  generalize (w1.alloc (.cells zC 65)) = w2 at *
  generalize w1.heap.size = O at *
  have HF0 := veil hF0
  clear hF0 rL b1
  go_loopw [3, 4] (fun x i wr => ∃ n : Nat, 1 ≤ n ∧ n ≤ 31 ∧ i = .int .i64 (n : Int) ∧ x = .int .u32 ((Hf.lim (n - 1) : Nat) : Int) ∧ CoI w w.heap.size O n 0 wr)
    (fun _ i _ => 31 - (intOf i).toNat)
  case atStart => exact ⟨1, by omega, by omega, rfl, by rw [show (1 : Nat) - 1 = 0 from rfl, Hf.lim_zero]; rfl, HF0.out⟩
  case round =>
    clear HF0
    obtain ⟨n, hn1, hn31, rfl, rfl, hF⟩ := hrel
    by_cases hlt : n < 31
    · obtain ⟨w9, rfl⟩ : ∃ x, x = wr := ⟨_, rfl⟩
      have hnx := Hf.first_next (n := n - 1) (by omega)
      rw [show n - 1 + 1 = n by omega] at hnx
      have hfle := Hf.first_le n
      have hfle2 : Hf.first n ≤ 1073741820 := hfle
      have HLIM := veil (show Hf.lim n = Hf.first n + (symP n 257).length by rw [symP_last hlt, Hf.sym_len (by omega)]; rfl)
      have HF := veil hF
      have hmul : 2 * ((Hf.lim (n - 1) : Nat) : Int) = ((Hf.first n : Nat) : Int) := by omega
      have hlmb : 2 * Hf.lim (n - 1) ≤ 1073741820 := by omega
      generalize Hf.lim (n - 1) = LM at *
      generalize hfn : Hf.first n = FN at *
      have HFN := veil hfn
      clear hF hfle hnx hfn
      have hdn : decide ((n : Int) ≤ 30) = true := by simp; omega
      go_wp2_with fail
      go_loopw [3, 5] (fun x i wr => ∃ k : Nat, k ≤ 257 ∧ i = .int .i64 (k : Int) ∧ x = .int .u32 ((FN + (symP n k).length : Nat) : Int) ∧ CoI w w.heap.size O n k wr)
        (fun _ i _ => 257 - (intOf i).toNat)
      case atStart => exact ⟨0, by omega, rfl, rfl, HF.out⟩
      case round =>
        clear HF
        obtain ⟨k, hk, rfl, rfl, hI⟩ := hrel
        have hle := symP_le n k
        by_cases hlk : k < 257
        · have cL := hI.ls.cellI (j := k) (by rw [Hf.sz_len]; exact hlk)
          rw [Hf.gn_sz] at cL
          have hsk := Hf.sz_le hlk
          have HI := veil hI
          by_cases he : Hf.sz k = n
          · have hee : (((Hf.sz k : Nat) : Int) == (n : Int)) = true := by rw [he]; simp
            have cO := hI.out.cellU (j := k) (by rw [codP_length]; exact hlk)
            have fO := hI.out.frozen k
            have HI' := veil (show CoI w w.heap.size O n (k + 1) (wr.setCell ⟨O, k, none⟩ (.int .u32 ((FN + (symP n k).length : Nat) : Int))) from
              ⟨hI.ls.other (a := ⟨O, k, none⟩) (show w.heap.size ≠ O by have := hI.lo; omega) _, by
                have := hI.out.set k (.int .u32 ((FN + (symP n k).length : Nat) : Int))
                rw [ua_set] at this
                rw [codP_next hlk, if_pos he, val_symP hlk, he, HFN.out]
                exact this, hI.lo, hI.below.setCell (p := ⟨O, k, none⟩) (by show w.heap.size ≤ O; have := hI.lo; omega) _⟩)
            have HNX := veil (show (symP n (k + 1)).length = (symP n k).length + 1 by rw [symP_next, if_pos he, List.length_append]; rfl)
            clear hI he
            generalize Hf.sz k = sk at *
            generalize gn (codP n k) k = old at *
            have eq : ((FN : Int) + ((symP n k).length : Int)) = ((FN + (symP n k).length : Nat) : Int) := by omega
            generalize hQ : FN + (symP n k).length = Q at *
            have HQQ := veil hQ
            have hQl : Q ≤ 1073742100 := by omega
            clear hQ
            go_wp2_with fail
            go_roundw
            case rel => exact ⟨k + 1, by omega, by go_num, by rw [HNX.out, ← Nat.add_assoc, HQQ.out]; go_num, HI'.out⟩
            case measure => simp [intOf]; omega
          · have hee : (((Hf.sz k : Nat) : Int) == (n : Int)) = false := by simp; omega
            have HNX := veil (show symP n (k + 1) = symP n k by rw [symP_next, if_neg he, List.append_nil])
            have HI' := veil (show CoI w w.heap.size O n (k + 1) wr from ⟨HI.out.ls, by rw [codP_next hlk, if_neg he]; exact HI.out.out, HI.out.lo, HI.out.below⟩)
            clear hI he
            generalize Hf.sz k = sk at *
            go_wp2_with fail
            go_roundw
            case rel => exact ⟨k + 1, by omega, by go_num, by rw [HNX.out], HI'.out⟩
            case measure => simp [intOf]; omega
        · obtain rfl : k = 257 := by omega
          have hlim : Hf.lim n = FN + (symP n 257).length := HLIM.out
          have HOUT := veil (show CoI w w.heap.size O (n + 1) 0 wr from ⟨hI.ls, by rw [← codP_row]; exact hI.out, hI.lo, hI.below⟩)
          clear hI hlk hk
          go_wp2_with fail
          go_roundw
          case rel => exact ⟨n + 1, by omega, by omega, by go_num, by rw [show n + 1 - 1 = n by omega, hlim], HOUT.out⟩
          case measure => simp [intOf]; omega
    · obtain rfl : n = 31 := by omega
      have HF := veil hF
      clear hF hlt
      go_wp2_with fail
      go_ret
      exact ⟨O, rfl, by rw [← codP_last]; exact HF.out.out, HF.out.below⟩
end Go.Proofs.YtiecpkkklefjdaaGreatDoor
