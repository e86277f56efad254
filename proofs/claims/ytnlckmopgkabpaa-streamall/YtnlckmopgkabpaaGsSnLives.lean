/-
  The statements' own word lives: the chapter's stream.
-/
import Derived.Test.YtnlckmopgkabpaaGs15
import Derived.Test.YtnlckmopgkabpaaGs6
import Derived.Lib.SlBytesConst
namespace Go.Proofs.Ytnlckmopgkabpaa
open Go Go.RowKit

namespace Sr
open Sd
def litS (g : Nat) (C : List By) : SL := ⟨some ⟨g, 0, none⟩, C.length, C.length, g, 0, C⟩
theorem lit_conv (w : World) (C : List By) (cs : Array Value) (hcs : cs = bs C) : ∃ W, (convert 22 22 (.slice (some ⟨w.heap.size, 0, none⟩) C.length C.length)).run Try.prog (w.alloc (.cells cs 5)) = .ok (.slice (some ⟨w.heap.size, 0, none⟩) C.length C.length) W ∧ Below w.heap.size w W ∧ (litS w.heap.size C).Ok W := by
  subst hcs
  refine ⟨_, Lib.run_convert_bytes_const (P := Try.prog) w 22 5 (bs C) C.length C.length Try.underlying22 Try.underlying5, (Below.refl _ w).alloc (Nat.le_refl _) _, rfl, Nat.le_refl _, (fun e => by cases e), fun _ => rfl, fun _ => by simp [litS], fun j hj => ?_⟩
  have h := cell_of_row (w.alloc (.cells (bs C) 5 ((bs C).size, (bs C).size + 1))) w.heap.size j (bs C) 5 ((bs C).size, (bs C).size + 1) (heap_alloc_new w _)
  show World.cell? _ ⟨w.heap.size, 0 + j, none⟩ = _
  rw [Nat.zero_add, h]
  exact bs_get C j hj
theorem lw_new (w : World) : Calls Try.prog 6 #[.int .u64 4, .int .u64 5] w fun e w' => e = .returned (.tuple #[.pointer (some ⟨w.heap.size, 0, none⟩), .int .i64 0]) ∧ SnA w w' w.heap.size (new 4 5) (fun k => k = w.heap.size) := by
  refine (new_any 4 5 w (by decide) (by decide)).mono ?_
  rintro e w' ⟨h1, h2, h3⟩
  exact ⟨h1, h2, h3, fun k hk => by rw [hk]; exact Nat.le_refl _⟩
section
variable {w W : World} {g : Nat} {s : Snd} {own : Nat → Prop}
theorem lw_write (x : SnA w W g (new 4 5) own) {b : SL} (hb : b.Ok W) (hl : b.len = 8) (hbb : b.b = lvB) : Calls Try.prog 8 #[.pointer (some ⟨g, 0, none⟩), .slice b.a b.len b.cap, .bool true] W fun e w' => e = .returned (.int .i64 0) ∧ ∃ own', SnA w w' g lv0 own' := by
  refine (write_any W g _ own x.sn b hb true).mono ?_
  rintro e w' ⟨h1, own', h2, h3⟩
  have e8 : writeE (new 4 5) b.len = 0 := by rw [hl]; exact lw
  rw [e8] at h1
  rw [hbb] at h2
  exact ⟨h1, own', x.after h2 h3⟩
theorem lw_take (x : SnA w W g s own) (n fr : Nat) {p q : Nat} {d : List By} {fn : Bool} (hn : n ≤ 100) (hfr : fr ≤ 100) (hs : span s n fr = some (p, q)) (hid : s.id = 4) (hd : Sd.cut s.b p q = d) (hf : finB s q = fn) {s' : Snd} (hs' : tell s p q = s') :
    Calls Try.prog 9 #[.pointer (some ⟨g, 0, none⟩), .int .i64 (n : Int), .int .u64 (fr : Int)] W fun e w' => ∃ b own', e = .returned (.tuple #[.agg (frT 4 p fn d b).cells, .bool true]) ∧ SnA w w' g s' own' ∧ FrH w' own' (frT 4 p fn d b) ∧ After own W w' own' := by
  subst hs'
  refine (take_to x.sn (by omega) (by omega) hs hid hd hf).mono ?_
  rintro e w' ⟨b, own', h1, h2, h3, h4⟩
  exact ⟨b, own', h1, x.after h2 h3, h4, h3⟩
theorem lw_none (x : SnA w W g s own) (n fr : Nat) (hn : n ≤ 100) (hfr : fr ≤ 100) (hs : span s n fr = none) :
    Calls Try.prog 9 #[.pointer (some ⟨g, 0, none⟩), .int .i64 (n : Int), .int .u64 (fr : Int)] W fun e w' => e = .returned (.tuple #[.agg fr0, .bool false]) ∧ Below W.heap.size W w' :=
  take_none x.sn (by omega) (by omega) hs
theorem lw_got (x : SnA w W g s own) {p : Nat} {d : List By} {fn : Bool} {b : Nat} (hf : (frT 4 p fn d b).Ok W) (hdl : d.length ≤ 100) (hid : s.id = 4) (hm : Mine s p d fn) {s' : Snd} (hs' : got s p d.length fn = s') :
    Calls Try.prog 12 #[.pointer (some ⟨g, 0, none⟩), .agg (frT 4 p fn d b).cells] W fun e w' => e = .returned (.int .i64 0) ∧ ∃ own', SnA w w' g s' own' ∧ After own W w' own' := by
  subst hs'
  refine (got_to x.sn hf (by show d.length < _; omega) (by rw [its_frT hid]; exact decide_eq_true hm)).mono ?_
  rintro e w' ⟨h1, own', h2, h3⟩
  exact ⟨h1, own', x.after h2 h3, h3⟩
theorem lw_lost (x : SnA w W g s own) {p : Nat} {d : List By} {fn : Bool} {b : Nat} (hf : (frT 4 p fn d b).Ok W) (hdl : d.length ≤ 100) (hid : s.id = 4) (hm : Mine s p d fn) {s' : Snd} (hs' : lost s p d.length fn = s') :
    Calls Try.prog 13 #[.pointer (some ⟨g, 0, none⟩), .agg (frT 4 p fn d b).cells] W fun e w' => e = .returned (.int .i64 0) ∧ ∃ own', SnA w w' g s' own' ∧ After own W w' own' := by
  subst hs'
  refine (lost_to x.sn hf (by show d.length < _; omega) (by rw [its_frT hid]; exact decide_eq_true hm)).mono ?_
  rintro e w' ⟨h1, own', h2, h3⟩
  exact ⟨h1, own', x.after h2 h3, h3⟩
theorem lw_raise (x : SnA w W g lv3 own) : Calls Try.prog 17 #[.pointer (some ⟨g, 0, none⟩), .int .u64 20] W fun e w' => e = .returned (.int .i64 0) ∧ ∃ own', SnA w w' g lv4 own' ∧ After own W w' own' := by
  refine (raise_any W g _ own x.sn 20).mono ?_
  rintro e w' ⟨h1, own', h2, h3⟩
  exact ⟨h1, own', x.after h2 h3, h3⟩
theorem lw_done (x : SnA w W g s own) {d : Bool} (hd : done s = d) : Calls Try.prog 15 #[.pointer (some ⟨g, 0, none⟩)] W fun e w' => e = .returned (.bool d) ∧ Below W.heap.size W w' := by
  subst hd
  obtain ⟨_, _, _, _, _, h1, _⟩ := x.sn
  exact done_any h1
theorem frv_conv {r : Nat} {f : FrM} (x : FrV W own r f) {s : ByteArray} (hs : strOfNums (f.data.b.map v8) = s) : (convert 22 9 (.slice f.data.a f.data.len f.data.cap)).run Try.prog W = .ok (.string s) W := by
  subst hs
  exact (bIn_sl x.hf.ok.data).conv W rfl
end
set_option maxRecDepth 20000 in
set_option maxHeartbeats 2000000 in
theorem lives_any (w : World) : Calls Try.prog 5 #[] w fun e w' => e = .returned (.bool true) ∧ Below w.heap.size w w' := by
  go_enter Try.func5, Try.ntmps5
  go_wp2_with fail
  refine (lw_new w).mono ?_
  rintro e1 w1 ⟨rfl, x1⟩
  obtain ⟨V1, hc1, bv1, lv1'⟩ := lit_conv w1 lvB #[.int .u8 97, .int .u8 98, .int .u8 99, .int .u8 100, .int .u8 101, .int .u8 102, .int .u8 103, .int .u8 104] rfl
  rw [show (lvB : List By).length = 8 from rfl] at hc1
  have X1 := veil (x1.below bv1)
  have LV1 := veil lv1'
  clear bv1 lv1' x1
  go_wp2_with fail
  refine (lw_write X1.out LV1.out rfl rfl).mono ?_
  rintro e2 w2 ⟨rfl, o2, x2⟩
  have X2 := veil x2
  clear x2 X1 LV1 hc1
  go_wp2_with fail
  refine (lw_take X2.out 3 9 (by decide) (by decide) ls0 rfl lc0 lf.1 (s' := lv1) rfl).mono ?_
  rintro e3 w3 ⟨ba, o3, rfl, x3, fa3, a3⟩
  have ha3 := (Below.refl _ w3).alloc (Nat.le_refl _) (.cells (frT 4 0 false [97, 98, 99] ba).cells 37)
  have yVA := FrV.new x3.sn fa3
  have y3 := x3.below ha3
  obtain ⟨q3, hv3⟩ : ∃ v, w3.alloc (.cells #[.int .u8 7, .int .u64 4, .int .u64 0, .int .u64 0, .int .u64 0, .bool false, .slice (some ⟨ba, 0, none⟩) 3 3, .slice none 0 0] 37) = v := ⟨_, rfl⟩
  replace hv3 : w3.alloc (.cells (frT 4 0 false [97, 98, 99] ba).cells 37) = q3 := hv3
  rw [hv3] at yVA y3
  replace hv3 : w3.alloc (.cells #[.int .u8 7, .int .u64 4, .int .u64 0, .int .u64 0, .int .u64 0, .bool false, .slice (some ⟨ba, 0, none⟩) 3 3, .slice none 0 0] 37) = q3 := hv3
  have VA := veil yVA
  have X3 := veil y3
  clear x3 fa3 a3 ha3 y3 yVA X2
  have HV := veil hv3
  clear hv3
  unfold FrM.cells frT
  go_wp2_with fail
  rw [HV.out]
  clear HV
  refine (lw_take X3.out 9 9 (by decide) (by decide) ls1 rfl lc1 lf.2.1 (s' := lv2) rfl).mono ?_
  rintro e4 w4 ⟨bb, o4, rfl, x4, fa4, a4⟩
  have ha4 := (Below.refl _ w4).alloc (Nat.le_refl _) (.cells (frT 4 3 false [100, 101] bb).cells 37)
  have yVA := (VA.out.after a4).below ha4
  have yVB := FrV.new x4.sn fa4
  have y4 := x4.below ha4
  obtain ⟨q4, hv4⟩ : ∃ v, w4.alloc (.cells #[.int .u8 7, .int .u64 4, .int .u64 3, .int .u64 0, .int .u64 0, .bool false, .slice (some ⟨bb, 0, none⟩) 2 2, .slice none 0 0] 37) = v := ⟨_, rfl⟩
  replace hv4 : w4.alloc (.cells (frT 4 3 false [100, 101] bb).cells 37) = q4 := hv4
  rw [hv4] at yVA yVB y4
  replace hv4 : w4.alloc (.cells #[.int .u8 7, .int .u64 4, .int .u64 3, .int .u64 0, .int .u64 0, .bool false, .slice (some ⟨bb, 0, none⟩) 2 2, .slice none 0 0] 37) = q4 := hv4
  have VA := veil yVA
  have VB := veil yVB
  have X4 := veil y4
  clear x4 fa4 a4 ha4 y4 yVA yVB X3
  have HV := veil hv4
  clear hv4
  unfold FrM.cells frT
  go_wp2_with fail
  rw [HV.out]
  clear HV
  refine (lw_none X4.out 9 9 (by decide) (by decide) ls2).mono ?_
  rintro e5 w5 ⟨rfl, hb5⟩
  have hc5 := hb5.alloc hb5.size (.cells #[.int .u8 0, .int .u64 0, .int .u64 0, .int .u64 0, .int .u64 0, .bool false, .slice none 0 0, .slice none 0 0] 37)
  have yVA := VA.out.below hc5
  have yVB := VB.out.below hc5
  have y5 := X4.out.below hc5
  have VA := veil yVA
  have VB := veil yVB
  have X5 := veil y5
  clear hb5 hc5 yVA yVB y5 X4
  unfold fr0
  have ka0 : (w5.alloc (.cells #[.int .u8 0, .int .u64 0, .int .u64 0, .int .u64 0, .int .u64 0, .bool false, .slice none 0 0, .slice none 0 0] 37)).cell? ⟨w3.heap.size, 0, none⟩ = some (.int .u8 7) := VA.out.row.cell 0
  have ka1 : (w5.alloc (.cells #[.int .u8 0, .int .u64 0, .int .u64 0, .int .u64 0, .int .u64 0, .bool false, .slice none 0 0, .slice none 0 0] 37)).cell? ⟨w3.heap.size, 1, none⟩ = some (.int .u64 4) := VA.out.row.cell 1
  have ka2 : (w5.alloc (.cells #[.int .u8 0, .int .u64 0, .int .u64 0, .int .u64 0, .int .u64 0, .bool false, .slice none 0 0, .slice none 0 0] 37)).cell? ⟨w3.heap.size, 2, none⟩ = some (.int .u64 0) := VA.out.row.cell 2
  have ka3 : (w5.alloc (.cells #[.int .u8 0, .int .u64 0, .int .u64 0, .int .u64 0, .int .u64 0, .bool false, .slice none 0 0, .slice none 0 0] 37)).cell? ⟨w3.heap.size, 3, none⟩ = some (.int .u64 0) := VA.out.row.cell 3
  have ka4 : (w5.alloc (.cells #[.int .u8 0, .int .u64 0, .int .u64 0, .int .u64 0, .int .u64 0, .bool false, .slice none 0 0, .slice none 0 0] 37)).cell? ⟨w3.heap.size, 4, none⟩ = some (.int .u64 0) := VA.out.row.cell 4
  have ka5 : (w5.alloc (.cells #[.int .u8 0, .int .u64 0, .int .u64 0, .int .u64 0, .int .u64 0, .bool false, .slice none 0 0, .slice none 0 0] 37)).cell? ⟨w3.heap.size, 5, none⟩ = some (.bool false) := VA.out.row.cell 5
  have ka6 : (w5.alloc (.cells #[.int .u8 0, .int .u64 0, .int .u64 0, .int .u64 0, .int .u64 0, .bool false, .slice none 0 0, .slice none 0 0] 37)).cell? ⟨w3.heap.size, 6, none⟩ = some (.slice (some ⟨ba, 0, none⟩) 3 3) := VA.out.row.cell 6
  have ka7 : (w5.alloc (.cells #[.int .u8 0, .int .u64 0, .int .u64 0, .int .u64 0, .int .u64 0, .bool false, .slice none 0 0, .slice none 0 0] 37)).cell? ⟨w3.heap.size, 7, none⟩ = some (.slice none 0 0) := VA.out.row.cell 7
  have kb2 : (w5.alloc (.cells #[.int .u8 0, .int .u64 0, .int .u64 0, .int .u64 0, .int .u64 0, .bool false, .slice none 0 0, .slice none 0 0] 37)).cell? ⟨w4.heap.size, 2, none⟩ = some (.int .u64 3) := VB.out.row.cell 2
  have kb6 : (w5.alloc (.cells #[.int .u8 0, .int .u64 0, .int .u64 0, .int .u64 0, .int .u64 0, .bool false, .slice none 0 0, .slice none 0 0] 37)).cell? ⟨w4.heap.size, 6, none⟩ = some (.slice (some ⟨bb, 0, none⟩) 2 2) := VB.out.row.cell 6
  have cvA : (convert 22 9 (.slice (some ⟨ba, 0, none⟩) 3 3)).run Try.prog (w5.alloc (.cells #[.int .u8 0, .int .u64 0, .int .u64 0, .int .u64 0, .int .u64 0, .bool false, .slice none 0 0, .slice none 0 0] 37)) = .ok (.string ⟨#[97, 98, 99]⟩) (w5.alloc (.cells #[.int .u8 0, .int .u64 0, .int .u64 0, .int .u64 0, .int .u64 0, .bool false, .slice none 0 0, .slice none 0 0] 37)) := frv_conv VA.out (show strOfNums (([97, 98, 99] : List By).map v8) = _ by decide +kernel)
  have cvB : (convert 22 9 (.slice (some ⟨bb, 0, none⟩) 2 2)).run Try.prog (w5.alloc (.cells #[.int .u8 0, .int .u64 0, .int .u64 0, .int .u64 0, .int .u64 0, .bool false, .slice none 0 0, .slice none 0 0] 37)) = .ok (.string ⟨#[100, 101]⟩) (w5.alloc (.cells #[.int .u8 0, .int .u64 0, .int .u64 0, .int .u64 0, .int .u64 0, .bool false, .slice none 0 0, .slice none 0 0] 37)) := frv_conv VB.out (show strOfNums (([100, 101] : List By).map v8) = _ by decide +kernel)
  go_wp2_with fail
  clear ka0 ka1 ka2 ka3 ka4 ka5 ka6 ka7 kb2 kb6 cvA cvB
  obtain ⟨v5, hv5⟩ : ∃ v, (w5.alloc (.cells #[.int .u8 0, .int .u64 0, .int .u64 0, .int .u64 0, .int .u64 0, .bool false, .slice none 0 0, .slice none 0 0] 37)) = v := ⟨_, rfl⟩
  rw [hv5] at VA VB X5 ⊢
  clear hv5
  refine (lw_lost (p := 0) (d := [97, 98, 99]) (fn := false) (b := ba) X5.out VA.out.hf.ok (by decide) rfl lm2 (s' := lv3) rfl).mono ?_
  rintro e6 w6 ⟨rfl, o6, x6, a6⟩
  have yVA := VA.out.after a6
  have yVB := VB.out.after a6
  have VA := veil yVA
  have VB := veil yVB
  have X6 := veil x6
  clear x6 a6 yVA yVB X5
  go_wp2_with fail
  refine (lw_raise X6.out).mono ?_
  rintro e7 w7 ⟨rfl, o7, x7, a7⟩
  have yVA := VA.out.after a7
  have yVB := VB.out.after a7
  have VA := veil yVA
  have VB := veil yVB
  have X7 := veil x7
  clear x7 a7 yVA yVB X6
  go_wp2_with fail
  refine (lw_take X7.out 9 0 (by decide) (by decide) ls4 rfl lc4 lf.2.2.1 (s' := lv5) rfl).mono ?_
  rintro e8 w8 ⟨bc, o8, rfl, x8, fa8, a8⟩
  have ha8 := (Below.refl _ w8).alloc (Nat.le_refl _) (.cells (frT 4 0 false [97, 98, 99] bc).cells 37)
  have yVA := (VA.out.after a8).below ha8
  have yVB := (VB.out.after a8).below ha8
  have yVC := FrV.new x8.sn fa8
  have y8 := x8.below ha8
  obtain ⟨q8, hv8⟩ : ∃ v, w8.alloc (.cells #[.int .u8 7, .int .u64 4, .int .u64 0, .int .u64 0, .int .u64 0, .bool false, .slice (some ⟨bc, 0, none⟩) 3 3, .slice none 0 0] 37) = v := ⟨_, rfl⟩
  replace hv8 : w8.alloc (.cells (frT 4 0 false [97, 98, 99] bc).cells 37) = q8 := hv8
  rw [hv8] at yVA yVB yVC y8
  replace hv8 : w8.alloc (.cells #[.int .u8 7, .int .u64 4, .int .u64 0, .int .u64 0, .int .u64 0, .bool false, .slice (some ⟨bc, 0, none⟩) 3 3, .slice none 0 0] 37) = q8 := hv8
  have VA := veil yVA
  have VB := veil yVB
  have VC := veil yVC
  have X8 := veil y8
  clear x8 fa8 a8 ha8 y8 yVA yVB yVC X7
  have HV := veil hv8
  clear hv8
  unfold FrM.cells frT
  go_wp2_with fail
  rw [HV.out]
  clear HV
  clear VA
  refine (lw_take X8.out 9 9 (by decide) (by decide) ls5 rfl lc5 lf.2.2.2 (s' := lv6) rfl).mono ?_
  rintro e9 w9 ⟨bd, o9, rfl, x9, fa9, a9⟩
  have ha9 := (Below.refl _ w9).alloc (Nat.le_refl _) (.cells (frT 4 5 true [102, 103, 104] bd).cells 37)
  have yVB := (VB.out.after a9).below ha9
  have yVC := (VC.out.after a9).below ha9
  have yVD := FrV.new x9.sn fa9
  have y9 := x9.below ha9
  have VB := veil yVB
  have VC := veil yVC
  have VD := veil yVD
  have X9 := veil y9
  clear x9 fa9 a9 ha9 y9 yVB yVC yVD X8
  unfold FrM.cells frT
  have kc2 : (w9.alloc (.cells #[.int .u8 7, .int .u64 4, .int .u64 5, .int .u64 0, .int .u64 0, .bool true, .slice (some ⟨bd, 0, none⟩) 3 3, .slice none 0 0] 37)).cell? ⟨w8.heap.size, 2, none⟩ = some (.int .u64 0) := VC.out.row.cell 2
  have kc6 : (w9.alloc (.cells #[.int .u8 7, .int .u64 4, .int .u64 5, .int .u64 0, .int .u64 0, .bool true, .slice (some ⟨bd, 0, none⟩) 3 3, .slice none 0 0] 37)).cell? ⟨w8.heap.size, 6, none⟩ = some (.slice (some ⟨bc, 0, none⟩) 3 3) := VC.out.row.cell 6
  have kd5 : (w9.alloc (.cells #[.int .u8 7, .int .u64 4, .int .u64 5, .int .u64 0, .int .u64 0, .bool true, .slice (some ⟨bd, 0, none⟩) 3 3, .slice none 0 0] 37)).cell? ⟨w9.heap.size, 5, none⟩ = some (.bool true) := VD.out.row.cell 5
  have kd6 : (w9.alloc (.cells #[.int .u8 7, .int .u64 4, .int .u64 5, .int .u64 0, .int .u64 0, .bool true, .slice (some ⟨bd, 0, none⟩) 3 3, .slice none 0 0] 37)).cell? ⟨w9.heap.size, 6, none⟩ = some (.slice (some ⟨bd, 0, none⟩) 3 3) := VD.out.row.cell 6
  have kb0 : (w9.alloc (.cells #[.int .u8 7, .int .u64 4, .int .u64 5, .int .u64 0, .int .u64 0, .bool true, .slice (some ⟨bd, 0, none⟩) 3 3, .slice none 0 0] 37)).cell? ⟨w4.heap.size, 0, none⟩ = some (.int .u8 7) := VB.out.row.cell 0
  have kb1 : (w9.alloc (.cells #[.int .u8 7, .int .u64 4, .int .u64 5, .int .u64 0, .int .u64 0, .bool true, .slice (some ⟨bd, 0, none⟩) 3 3, .slice none 0 0] 37)).cell? ⟨w4.heap.size, 1, none⟩ = some (.int .u64 4) := VB.out.row.cell 1
  have kb2 : (w9.alloc (.cells #[.int .u8 7, .int .u64 4, .int .u64 5, .int .u64 0, .int .u64 0, .bool true, .slice (some ⟨bd, 0, none⟩) 3 3, .slice none 0 0] 37)).cell? ⟨w4.heap.size, 2, none⟩ = some (.int .u64 3) := VB.out.row.cell 2
  have kb3 : (w9.alloc (.cells #[.int .u8 7, .int .u64 4, .int .u64 5, .int .u64 0, .int .u64 0, .bool true, .slice (some ⟨bd, 0, none⟩) 3 3, .slice none 0 0] 37)).cell? ⟨w4.heap.size, 3, none⟩ = some (.int .u64 0) := VB.out.row.cell 3
  have kb4 : (w9.alloc (.cells #[.int .u8 7, .int .u64 4, .int .u64 5, .int .u64 0, .int .u64 0, .bool true, .slice (some ⟨bd, 0, none⟩) 3 3, .slice none 0 0] 37)).cell? ⟨w4.heap.size, 4, none⟩ = some (.int .u64 0) := VB.out.row.cell 4
  have kb5 : (w9.alloc (.cells #[.int .u8 7, .int .u64 4, .int .u64 5, .int .u64 0, .int .u64 0, .bool true, .slice (some ⟨bd, 0, none⟩) 3 3, .slice none 0 0] 37)).cell? ⟨w4.heap.size, 5, none⟩ = some (.bool false) := VB.out.row.cell 5
  have kb6 : (w9.alloc (.cells #[.int .u8 7, .int .u64 4, .int .u64 5, .int .u64 0, .int .u64 0, .bool true, .slice (some ⟨bd, 0, none⟩) 3 3, .slice none 0 0] 37)).cell? ⟨w4.heap.size, 6, none⟩ = some (.slice (some ⟨bb, 0, none⟩) 2 2) := VB.out.row.cell 6
  have kb7 : (w9.alloc (.cells #[.int .u8 7, .int .u64 4, .int .u64 5, .int .u64 0, .int .u64 0, .bool true, .slice (some ⟨bd, 0, none⟩) 3 3, .slice none 0 0] 37)).cell? ⟨w4.heap.size, 7, none⟩ = some (.slice none 0 0) := VB.out.row.cell 7
  have cvD : (convert 22 9 (.slice (some ⟨bd, 0, none⟩) 3 3)).run Try.prog (w9.alloc (.cells #[.int .u8 7, .int .u64 4, .int .u64 5, .int .u64 0, .int .u64 0, .bool true, .slice (some ⟨bd, 0, none⟩) 3 3, .slice none 0 0] 37)) = .ok (.string ⟨#[102, 103, 104]⟩) (w9.alloc (.cells #[.int .u8 7, .int .u64 4, .int .u64 5, .int .u64 0, .int .u64 0, .bool true, .slice (some ⟨bd, 0, none⟩) 3 3, .slice none 0 0] 37)) := frv_conv VD.out (show strOfNums (([102, 103, 104] : List By).map v8) = _ by decide +kernel)
  go_wp2_with fail
  obtain ⟨q9, hv9⟩ : ∃ v, (w9.alloc (.cells #[.int .u8 7, .int .u64 4, .int .u64 5, .int .u64 0, .int .u64 0, .bool true, .slice (some ⟨bd, 0, none⟩) 3 3, .slice none 0 0] 37)) = v := ⟨_, rfl⟩
  replace hv9 : w9.alloc (.cells (frT 4 5 true [102, 103, 104] bd).cells 37) = q9 := hv9
  rw [hv9] at VB VC VD X9
  replace hv9 : w9.alloc (.cells #[.int .u8 7, .int .u64 4, .int .u64 5, .int .u64 0, .int .u64 0, .bool true, .slice (some ⟨bd, 0, none⟩) 3 3, .slice none 0 0] 37) = q9 := hv9
  rw [hv9]
  clear hv9
  clear kc2 kc6 kd5 kd6 cvD kb0 kb1 kb2 kb3 kb4 kb5 kb6 kb7
  refine (lw_got (p := 3) (d := [100, 101]) (fn := false) (b := bb) X9.out VB.out.hf.ok (by decide) rfl lm6 (s' := lv7) rfl).mono ?_
  rintro e10 w10 ⟨rfl, o10, x10, a10⟩
  have yVB := VB.out.after a10
  have yVC := VC.out.after a10
  have yVD := VD.out.after a10
  have VB := veil yVB
  have VC := veil yVC
  have VD := veil yVD
  have X10 := veil x10
  clear x10 a10 yVB yVC yVD X9
  have kc0 : w10.cell? ⟨w8.heap.size, 0, none⟩ = some (.int .u8 7) := VC.out.row.cell 0
  have kc1 : w10.cell? ⟨w8.heap.size, 1, none⟩ = some (.int .u64 4) := VC.out.row.cell 1
  have kc2 : w10.cell? ⟨w8.heap.size, 2, none⟩ = some (.int .u64 0) := VC.out.row.cell 2
  have kc3 : w10.cell? ⟨w8.heap.size, 3, none⟩ = some (.int .u64 0) := VC.out.row.cell 3
  have kc4 : w10.cell? ⟨w8.heap.size, 4, none⟩ = some (.int .u64 0) := VC.out.row.cell 4
  have kc5 : w10.cell? ⟨w8.heap.size, 5, none⟩ = some (.bool false) := VC.out.row.cell 5
  have kc6 : w10.cell? ⟨w8.heap.size, 6, none⟩ = some (.slice (some ⟨bc, 0, none⟩) 3 3) := VC.out.row.cell 6
  have kc7 : w10.cell? ⟨w8.heap.size, 7, none⟩ = some (.slice none 0 0) := VC.out.row.cell 7
  go_wp2_with fail
  clear kc0 kc1 kc2 kc3 kc4 kc5 kc6 kc7
  refine (lw_got (p := 0) (d := [97, 98, 99]) (fn := false) (b := bc) X10.out VC.out.hf.ok (by decide) rfl lm7 (s' := lv8) rfl).mono ?_
  rintro e11 w11 ⟨rfl, o11, x11, a11⟩
  have yVB := VB.out.after a11
  have yVC := VC.out.after a11
  have yVD := VD.out.after a11
  have VB := veil yVB
  have VC := veil yVC
  have VD := veil yVD
  have X11 := veil x11
  clear x11 a11 yVB yVC yVD X10
  go_wp2_with fail
  refine (lw_done X11.out ld8).mono ?_
  rintro e12 w12 ⟨rfl, hb12⟩
  have yVD := VD.out.below hb12
  have y12 := X11.out.below hb12
  have VD := veil yVD
  have X12 := veil y12
  clear hb12 yVD y12 X11 VB VC
  have kd0 : w12.cell? ⟨w9.heap.size, 0, none⟩ = some (.int .u8 7) := VD.out.row.cell 0
  have kd1 : w12.cell? ⟨w9.heap.size, 1, none⟩ = some (.int .u64 4) := VD.out.row.cell 1
  have kd2 : w12.cell? ⟨w9.heap.size, 2, none⟩ = some (.int .u64 5) := VD.out.row.cell 2
  have kd3 : w12.cell? ⟨w9.heap.size, 3, none⟩ = some (.int .u64 0) := VD.out.row.cell 3
  have kd4 : w12.cell? ⟨w9.heap.size, 4, none⟩ = some (.int .u64 0) := VD.out.row.cell 4
  have kd5 : w12.cell? ⟨w9.heap.size, 5, none⟩ = some (.bool true) := VD.out.row.cell 5
  have kd6 : w12.cell? ⟨w9.heap.size, 6, none⟩ = some (.slice (some ⟨bd, 0, none⟩) 3 3) := VD.out.row.cell 6
  have kd7 : w12.cell? ⟨w9.heap.size, 7, none⟩ = some (.slice none 0 0) := VD.out.row.cell 7
  go_wp2_with fail
  clear kd0 kd1 kd2 kd3 kd4 kd5 kd6 kd7
  refine (lw_got (p := 5) (d := [102, 103, 104]) (fn := true) (b := bd) X12.out VD.out.hf.ok (by decide) rfl lm8 (s' := lv9) rfl).mono ?_
  rintro e13 w13 ⟨rfl, o13, x13, a13⟩
  have yVD := VD.out.after a13
  have VD := veil yVD
  have X13 := veil x13
  clear x13 a13 yVD X12
  go_wp2_with fail
  refine (lw_done X13.out ld9).mono ?_
  rintro e14 w14 ⟨rfl, hb14⟩
  have B14 := veil (X13.out.below hb14).bel
  clear hb14 X13 VD
  go_wp2_with fail
  go_ret
  exact ⟨rfl, B14.out⟩
end Sr
end Go.Proofs.Ytnlckmopgkabpaa
