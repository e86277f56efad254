/-
  The law's alive: answers that the document fixes.
-/
import Derived.Test.YtcfmghnjokmfiabHkVec
import Derived.Test.YtcfmghnjokmfiabHkSame
import Derived.Test.YtcfmghnjokmfiabHkLabel
import Derived.Test.YtcfmghnjokmfiabHkMacF
import Derived.Lib.SlBytesConst
namespace Go.Proofs.Ytcfmghnjokmfiab
open Go Go.RowKit

def nilS : SL := ⟨none, 0, 0, 0, 0, []⟩
theorem nilS_ok (w : World) : nilS.Ok w := ⟨rfl, Nat.le_refl _, fun _ => ⟨rfl, rfl⟩, fun h => absurd h (Nat.lt_irrefl _), fun h => absurd h (Nat.lt_irrefl _), fun _ h => absurd h (Nat.not_lt_zero _)⟩

theorem rowF_ok {w : World} {g n : Nat} {t : TypeId} {b : List By} {fr : Nat × Nat} (h : w.heap[g]? = some (.cells (bs b) t fr)) (hn : b.length = n) : (rowN g n b).Ok w := by
  subst hn
  refine ⟨rfl, Nat.le_refl _, fun e => by simp [rowN] at e, fun _ => rfl, fun _ => (Array.getElem?_eq_some_iff.1 h).1, fun j hj => ?_⟩
  show w.cell? ⟨g, 0 + j, none⟩ = _
  rw [Nat.zero_add, cell_of_row w g j (bs b) t fr h]
  exact bs_get b j hj
theorem mac_jefe : macA jefe what = [91, 220, 193, 70, 191, 96, 117, 78, 106, 4, 36, 38, 8, 149, 117, 199, 90, 0, 63, 8, 157, 39, 57, 131, 157, 236, 88, 185, 100, 236, 56, 67] ∧ macE jefe what = 0 := by
  unfold macA macE
  rw [if_pos (by decide), if_pos (by decide), vec_jefe]
  exact ⟨rfl, rfl⟩
theorem mac_salt : macA salt dcid = keyV ∧ macE salt dcid = 0 := by
  unfold macA macE
  rw [if_pos (by decide), if_pos (by decide), vec_key]
  exact ⟨rfl, rfl⟩

set_option maxRecDepth 20000 in
set_option maxHeartbeats 2000000 in
theorem alive_any (w : World) : Calls Try.prog 4 #[] w fun e w' => e = .returned (.bool true) ∧ Below w.heap.size w w' := by
  have r1 := row_jefe
  have r2 := row_what
  have r3 := row_salt
  have r4 := row_dcid
  have r5 := row_iv
  have hc1 := Lib.run_convert_bytes_const (P := Try.prog) w 22 5 (bs jefe) 4 4 Try.underlying22 Try.underlying5
  obtain ⟨W1, hW1⟩ : ∃ W1, W1 = w.alloc (.cells (bs jefe) 5 ((bs jefe).size, (bs jefe).size + 1)) := ⟨_, rfl⟩
  rw [← hW1] at hc1
  have hc2 := Lib.run_convert_bytes_const (P := Try.prog) W1 22 5 (bs what) 28 28 Try.underlying22 Try.underlying5
  obtain ⟨W2, hW2⟩ : ∃ W2, W2 = W1.alloc (.cells (bs what) 5 ((bs what).size, (bs what).size + 1)) := ⟨_, rfl⟩
  rw [← hW2] at hc2
  have qJ : (rowN w.heap.size 4 jefe).Ok W2 := by
    have h1 : (rowN w.heap.size 4 jefe).Ok W1 := rowF_ok (t := 5) (by rw [hW1]; exact heap_alloc_new w _) rfl
    rw [hW2]
    exact h1.alloc _
  have qW : (rowN W1.heap.size 28 what).Ok W2 := rowF_ok (t := 5) (by rw [hW2]; exact heap_alloc_new W1 _) rfl
  have b1 : Below w.heap.size w W1 := by rw [hW1]; exact (Below.refl _ w).alloc (Nat.le_refl _) _
  have b2 : Below w.heap.size w W2 := by rw [hW2]; exact b1.alloc b1.size _
  clear hW1 hW2 b1
  have HJ := veil qJ
  have HW := veil qW
  have HB2 := veil b2
  clear qJ qW b2
  go_enter Try.func4, Try.ntmps4
  go_wp2_with fail
  refine (macF_any (rowN w.heap.size 4 jefe) (rowN W1.heap.size 28 what) W2 HJ.out HW.out).mono ?_
  rintro e3 w3 ⟨rfl, hb3⟩
  rw [show macA (rowN w.heap.size 4 jefe).b (rowN W1.heap.size 28 what).b = _ from mac_jefe.1, show macE (rowN w.heap.size 4 jefe).b (rowN W1.heap.size 28 what).b = _ from mac_jefe.2]
  have HB3 := veil (HB2.out.trans (hb3.mono HB2.out.size))
  clear hb3 HB2 HJ HW hc1 hc2
  obtain ⟨X, hX⟩ : ∃ X : List By, X = [91, 220, 193, 70, 191, 96, 117, 78, 106, 4, 36, 38, 8, 149, 117, 199, 90, 0, 63, 8, 157, 39, 57, 131, 157, 236, 88, 185, 100, 236, 56, 67] := ⟨_, rfl⟩
  have hXl : X.length = 32 := by rw [hX]; rfl
  have hX0 : v8 (gb X 0) = 91 := by rw [hX]; rfl
  have hX31 : v8 (gb X 31) = 67 := by rw [hX]; rfl
  rw [← hX]
  clear hX
  have hXs : (bs X).size = 32 := by rw [bs_size, hXl]
  go_wp2_with (first
    | (with_reducible (show wpList _ _ _ (⟨_, Op.alloc 32, _, _, _, _⟩ :: _) _ _)
       refine alloc_row rfl 32 rfl (bs z32) (by kernel_rfl) ?_)
    | (with_reducible (show wpList _ _ _ (⟨_, Op.store 32 _ _, _, _, _, _⟩ :: _) _ _)
       refine store_new (w := w3) (by rfl) 32 _ _ (by rfl) w3.heap.size (bs X) (by rfl) (by rfl) 32 (bs z32) (by rfl) 32 (by kernel_rfl) (by rfl) hXs (bs_one _) ?_))
  have rX : Row (((w3.alloc (.cells (bs X) 32)).alloc (.cells (bs salt) 5)).alloc (.cells (bs dcid) 5)) w3.heap.size 32 (bs X) := ((Row.new _ _ _).alloc _).alloc _
  have qS : (rowN (w3.heap.size + 1) 20 salt).Ok (((w3.alloc (.cells (bs X) 32)).alloc (.cells (bs salt) 5)).alloc (.cells (bs dcid) 5)) := rowN_ok ((Row.new1 w3 _ 5 (bs salt)).alloc _) rfl
  have qD : (rowN (w3.heap.size + 1 + 1) 8 dcid).Ok (((w3.alloc (.cells (bs X) 32)).alloc (.cells (bs salt) 5)).alloc (.cells (bs dcid) 5)) := rowN_ok (Row.new2 w3 _ _ 5 (bs dcid)) rfl
  have b4 : Below w.heap.size w (((w3.alloc (.cells (bs X) 32)).alloc (.cells (bs salt) 5)).alloc (.cells (bs dcid) 5)) := ((HB3.out.alloc HB3.out.size _).alloc (by have := HB3.out.size; simp; omega) _).alloc (by have := HB3.out.size; simp; omega) _
  generalize ((w3.alloc (.cells (bs X) 32)).alloc (.cells (bs salt) 5)).alloc (.cells (bs dcid) 5) = W4 at *
  refine (extract_any (rowN (w3.heap.size + 1) 20 salt) (rowN (w3.heap.size + 1 + 1) 8 dcid) W4 qS qD).mono ?_
  rintro e5 w5 ⟨rfl, hb5⟩
  rw [show macA (rowN (w3.heap.size + 1) 20 salt).b (rowN (w3.heap.size + 1 + 1) 8 dcid).b = _ from mac_salt.1, show macE (rowN (w3.heap.size + 1) 20 salt).b (rowN (w3.heap.size + 1 + 1) 8 dcid).b = _ from mac_salt.2]
  have HX5 := veil (rX.below hb5 rX.lt)
  have HB5 := veil (b4.trans (hb5.mono b4.size))
  clear hb5 b4 qS qD rX HB3
  have hK0 : v8 (gb keyV 0) = 125 := rfl
  have hK31 : v8 (gb keyV 31) = 68 := rfl
  have hKs : (bs keyV).size = 32 := rfl
  have hKl : keyV.length = 32 := rfl
  have HC := veil vec_cli
  generalize keyV = Y at *
  go_wp2_with (first
    | (with_reducible (show wpList _ _ _ (⟨_, Op.alloc 32, _, _, _, _⟩ :: _) _ _)
       refine alloc_row rfl 32 rfl (bs z32) (by kernel_rfl) ?_)
    | (with_reducible (show wpList _ _ _ (⟨_, Op.store 32 _ _, _, _, _, _⟩ :: _) _ _)
       refine store_new (w := w5) (by rfl) 32 _ _ (by rfl) w5.heap.size (bs Y) (by rfl) (by rfl) 32 (bs z32) (by rfl) 32 (by kernel_rfl) (by rfl) hKs (bs_one _) ?_))
  have rY : Row (w5.alloc (.cells (bs Y) 32)) w5.heap.size 32 (bs Y) := Row.new _ _ _
  have HX6 := veil (HX5.out.alloc (.cells (bs Y) 32))
  have HB6 := veil (HB5.out.alloc HB5.out.size (.cells (bs Y) 32))
  clear HX5 HB5
  generalize w5.alloc (.cells (bs Y) 32) = W6 at *
  refine (label_ok (rowN w5.heap.size 32 Y) nilS inT 32 W6 (rowN_ok rY hKl) (nilS_ok _) (by decide) (by decide) (by decide) (by show 32 ≤ 1048576; omega)).mono ?_
  rintro e7 w7 ⟨g7, rfl, hown7, hb7⟩
  have hcl : expandL (keyL (rowN w5.heap.size 32 Y).b) (infoL (bOf inT) nilS.b 32) 32 = cliV := HC.out
  rw [hcl] at hown7
  obtain ⟨s7, hv7, hsl7, hsb7, hok7, _⟩ := SL.of_own hown7
  have HX7 := veil (HX6.out.below hb7 HX6.out.lt)
  have HY7 := veil (rY.below hb7 rY.lt)
  have HB7 := veil (HB6.out.trans (hb7.mono HB6.out.size))
  have HS7 := veil hok7
  have HSb7 := veil hsb7
  have HV7 := veil hv7
  clear HX6 rY HB6 hb7 hcl hown7 hok7 hsb7 hv7
  go_wp2_with fail
  have hargs : (.slice (some ⟨g7, 0, none⟩) 32 32 : Value) = .slice s7.a s7.len s7.cap := HV7.out.symm
  rw [hargs]
  refine (label_ok s7 nilS ivT 12 w7 HS7.out (nilS_ok _) (by decide) (by decide) (by decide) (by omega)).mono ?_
  rintro e8 w8 ⟨g8, rfl, hown8, hb8⟩
  have hiv : expandL (keyL s7.b) (infoL (bOf ivT) nilS.b 12) 12 = ivL := by rw [HSb7.out]; exact vec_iv
  rw [hiv] at hown8
  obtain ⟨s8, hv8, hsl8, hsb8, hok8, _⟩ := SL.of_own hown8
  have HX8 := veil (HX7.out.below hb8 HX7.out.lt)
  have HY8 := veil (HY7.out.below hb8 HY7.out.lt)
  have HB8 := veil (HB7.out.trans (hb8.mono HB7.out.size))
  have HS8 := veil hok8
  have HSb8 := veil hsb8
  have HV8 := veil hv8
  clear HX7 HY7 HB7 hb8 hiv hown8 hok8 hsb8 hv8 HS7 HSb7
  go_wp2_with fail
  refine (expand_arg nilS nilS 8161 w8 (by decide)).mono ?_
  rintro e9 w9 ⟨rfl, hb9⟩
  have HX9 := veil (HX8.out.below hb9 HX8.out.lt)
  have HY9 := veil (HY8.out.below hb9 HY8.out.lt)
  have HB9 := veil (HB8.out.trans (hb9.mono HB8.out.size))
  have HS9 := veil (HS8.out.below hb9)
  have x0 := HX9.out.cellB (j := 0) (by rw [hXl]; decide)
  have x31 := HX9.out.cellB (j := 31) (by rw [hXl]; decide)
  have y0 := HY9.out.cellB (j := 0) (by rw [hKl]; decide)
  have y31 := HY9.out.cellB (j := 31) (by rw [hKl]; decide)
  rw [hX0] at x0
  rw [hX31] at x31
  rw [hK0] at y0
  rw [hK31] at y31
  clear HX8 HY8 HB8 hb9 HS8
  go_wp2_with fail
  have bA : Below w9.heap.size w9 (w9.alloc (.cells (bs ivL) 5)) := (Below.refl _ w9).alloc (Nat.le_refl _) _
  have hargs8 : (.slice (some ⟨g8, 0, none⟩) 12 12 : Value) = .slice s8.a s8.len s8.cap := HV8.out.symm
  rw [hargs8]
  have HBA := veil (HB9.out.trans (bA.mono HB9.out.size))
  refine (same_sl s8 (rowN w9.heap.size 12 ivL) _ (HS9.out.below bA) (rowN_ok (Row.new w9 5 (bs ivL)) rfl) HSb8.out (by omega)).mono ?_
  rintro e10 w10 ⟨rfl, hb10⟩
  go_wp2_with fail
  go_ret
  exact ⟨rfl, HBA.out.trans (hb10.mono HBA.out.size)⟩
end Go.Proofs.Ytcfmghnjokmfiab
