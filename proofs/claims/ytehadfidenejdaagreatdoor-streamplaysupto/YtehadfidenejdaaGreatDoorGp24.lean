/-
  Out of SnLives, SnRst, SnRf.
-/
import Derived.Test.YtehadfidenejdaaGreatDoorGp23
import Derived.Lib.SlBytesConst
import Derived.Test.YtehadfidenejdaaGreatDoorGp16

/-! The statements' own word lives: the chapter's stream. -/
namespace Go.Proofs.YtehadfidenejdaaGreatDoor
open Go Go.RowKit

namespace Sr
open Sd
def litS (g : Nat) (C : List By) : SL := ⟨some ⟨g, 0, none⟩, C.length, C.length, g, 0, C⟩
theorem lit_conv (w : World) (C : List By) (cs : Array Value) (hcs : cs = bs C) : ∃ W, (convert 24 24 (.slice (some ⟨w.heap.size, 0, none⟩) C.length C.length)).run Tryz.prog (w.alloc (.cells cs 5)) = .ok (.slice (some ⟨w.heap.size, 0, none⟩) C.length C.length) W ∧ Below w.heap.size w W ∧ (litS w.heap.size C).Ok W := by
  subst hcs
  refine ⟨_, Lib.run_convert_bytes_const (P := Tryz.prog) w 24 5 (bs C) C.length C.length Tryz.underlying24 Tryz.underlying5, (Below.refl _ w).alloc (Nat.le_refl _) _, rfl, Nat.le_refl _, (fun e => by cases e), fun _ => rfl, fun _ => by simp [litS], fun j hj => ?_⟩
  have h := cell_of_row (w.alloc (.cells (bs C) 5 ((bs C).size, (bs C).size + 1))) w.heap.size j (bs C) 5 ((bs C).size, (bs C).size + 1) (heap_alloc_new w _)
  show World.cell? _ ⟨w.heap.size, 0 + j, none⟩ = _
  rw [Nat.zero_add, h]
  exact bs_get C j hj
theorem lw_new (w : World) : Calls Tryz.prog 5 #[.int .u64 4, .int .u64 5] w fun e w' => e = .returned (.tuple #[.pointer (some ⟨w.heap.size, 0, none⟩), .int .i64 0]) ∧ SnA w w' w.heap.size (new 4 5) (fun k => k = w.heap.size) := by
  refine (new_any 4 5 w (by decide) (by decide)).mono ?_
  rintro e w' ⟨h1, h2, h3⟩
  exact ⟨h1, h2, h3, fun k hk => by rw [hk]; exact Nat.le_refl _⟩
section
variable {w W : World} {g : Nat} {s : Snd} {own : Nat → Prop}
theorem lw_write (x : SnA w W g (new 4 5) own) {b : SL} (hb : b.Ok W) (hl : b.len = 8) (hbb : b.b = lvB) : Calls Tryz.prog 7 #[.pointer (some ⟨g, 0, none⟩), .slice b.a b.len b.cap, .bool true] W fun e w' => e = .returned (.int .i64 0) ∧ ∃ own', SnA w w' g lv0 own' := by
  refine (write_any W g _ own x.sn b hb true).mono ?_
  rintro e w' ⟨h1, own', h2, h3⟩
  have e8 : writeE (new 4 5) b.len = 0 := by rw [hl]; exact lw
  rw [e8] at h1
  rw [hbb] at h2
  exact ⟨h1, own', x.after h2 h3⟩
theorem lw_take (x : SnA w W g s own) (n fr : Nat) {p q : Nat} {d : List By} {fn : Bool} (hn : n ≤ 100) (hfr : fr ≤ 100) (hs : span s n fr = some (p, q)) (hid : s.id = 4) (hd : Sd.cut s.b p q = d) (hf : finB s q = fn) {s' : Snd} (hs' : tell s p q = s') :
    Calls Tryz.prog 15 #[.pointer (some ⟨g, 0, none⟩), .int .i64 (n : Int), .int .u64 (fr : Int)] W fun e w' => ∃ b own', e = .returned (.tuple #[.agg (frT 4 p fn d b).cells, .bool true]) ∧ SnA w w' g s' own' ∧ FrH w' own' (frT 4 p fn d b) ∧ After own W w' own' := by
  subst hs'
  refine (take_to x.sn (by omega) (by omega) hs hid hd hf).mono ?_
  rintro e w' ⟨b, own', h1, h2, h3, h4⟩
  exact ⟨b, own', h1, x.after h2 h3, h4, h3⟩
theorem lw_none (x : SnA w W g s own) (n fr : Nat) (hn : n ≤ 100) (hfr : fr ≤ 100) (hs : span s n fr = none) :
    Calls Tryz.prog 15 #[.pointer (some ⟨g, 0, none⟩), .int .i64 (n : Int), .int .u64 (fr : Int)] W fun e w' => e = .returned (.tuple #[.agg fr0, .bool false]) ∧ Below W.heap.size W w' :=
  take_none x.sn (by omega) (by omega) hs
theorem lw_got (x : SnA w W g s own) {p : Nat} {d : List By} {fn : Bool} {b : Nat} (hf : (frT 4 p fn d b).Ok W) (hdl : d.length ≤ 100) (hid : s.id = 4) (hm : Mine s p d fn) {s' : Snd} (hs' : got s p d.length fn = s') :
    Calls Tryz.prog 19 #[.pointer (some ⟨g, 0, none⟩), .agg (frT 4 p fn d b).cells] W fun e w' => e = .returned (.int .i64 0) ∧ ∃ own', SnA w w' g s' own' ∧ After own W w' own' := by
  subst hs'
  refine (got_to x.sn hf (by show d.length < _; omega) (by rw [its_frT hid]; exact decide_eq_true hm)).mono ?_
  rintro e w' ⟨h1, own', h2, h3⟩
  exact ⟨h1, own', x.after h2 h3, h3⟩
theorem lw_lost (x : SnA w W g s own) {p : Nat} {d : List By} {fn : Bool} {b : Nat} (hf : (frT 4 p fn d b).Ok W) (hdl : d.length ≤ 100) (hid : s.id = 4) (hm : Mine s p d fn) {s' : Snd} (hs' : lost s p d.length fn = s') :
    Calls Tryz.prog 21 #[.pointer (some ⟨g, 0, none⟩), .agg (frT 4 p fn d b).cells] W fun e w' => e = .returned (.int .i64 0) ∧ ∃ own', SnA w w' g s' own' ∧ After own W w' own' := by
  subst hs'
  refine (lost_to x.sn hf (by show d.length < _; omega) (by rw [its_frT hid]; exact decide_eq_true hm)).mono ?_
  rintro e w' ⟨h1, own', h2, h3⟩
  exact ⟨h1, own', x.after h2 h3, h3⟩
theorem lw_raise (x : SnA w W g lv3 own) : Calls Tryz.prog 23 #[.pointer (some ⟨g, 0, none⟩), .int .u64 20] W fun e w' => e = .returned (.int .i64 0) ∧ ∃ own', SnA w w' g lv4 own' ∧ After own W w' own' := by
  refine (raise_any W g _ own x.sn 20).mono ?_
  rintro e w' ⟨h1, own', h2, h3⟩
  exact ⟨h1, own', x.after h2 h3, h3⟩
theorem lw_done (x : SnA w W g s own) {d : Bool} (hd : done s = d) : Calls Tryz.prog 8 #[.pointer (some ⟨g, 0, none⟩)] W fun e w' => e = .returned (.bool d) ∧ Below W.heap.size W w' := by
  subst hd
  obtain ⟨_, _, _, _, _, h1, _⟩ := x.sn
  exact done_any h1
theorem frv_conv {r : Nat} {f : FrM} (x : FrV W own r f) {s : ByteArray} (hs : strOfNums (f.data.b.map v8) = s) : (convert 24 9 (.slice f.data.a f.data.len f.data.cap)).run Tryz.prog W = .ok (.string s) W := by
  subst hs
  exact (bIn_sl x.hf.ok.data).conv W rfl
end
set_option maxRecDepth 20000 in
set_option maxHeartbeats 2000000 in
theorem lives_any (w : World) : Calls Tryz.prog 4 #[] w fun e w' => e = .returned (.bool true) ∧ Below w.heap.size w w' := by
  go_enter Tryz.func4, Tryz.ntmps4
  go_wp2_with fail
  refine (lw_new w).mono ?_
  rintro e1 w1 ⟨rfl, x1⟩
  obtain ⟨V1, hc1, bv1, lv1'⟩ := lit_conv w1 lvB #[.int .u8 97, .int .u8 98, .int .u8 99, .int .u8 100, .int .u8 101, .int .u8 102, .int .u8 103, .int .u8 104] rfl
  rw [show (lvB : List By).length = 8 from rfl] at hc1
  have X1 := veil (x1.below bv1)
  have LV1 := veil lv1'
  clear bv1 lv1' x1
  go_wp2_with fail
  refine (lw_write X1.out LV1.out rfl rfl).mono ?_
  rintro e2 w2 ⟨rfl, o2, x2⟩
  have X2 := veil x2
  clear x2 X1 LV1 hc1
  go_wp2_with fail
  refine (lw_take X2.out 3 9 (by decide) (by decide) ls0 rfl lc0 lf.1 (s' := lv1) rfl).mono ?_
  rintro e3 w3 ⟨ba, o3, rfl, x3, fa3, a3⟩
  have ha3 := (Below.refl _ w3).alloc (Nat.le_refl _) (.cells (frT 4 0 false [97, 98, 99] ba).cells 28)
  have yVA := FrV.new x3.sn fa3
  have y3 := x3.below ha3
  obtain ⟨q3, hv3⟩ : ∃ v, w3.alloc (.cells #[.int .u8 7, .int .u64 4, .int .u64 0, .int .u64 0, .int .u64 0, .bool false, .slice (some ⟨ba, 0, none⟩) 3 3, .slice none 0 0] 28) = v := ⟨_, rfl⟩
  replace hv3 : w3.alloc (.cells (frT 4 0 false [97, 98, 99] ba).cells 28) = q3 := hv3
  rw [hv3] at yVA y3
  replace hv3 : w3.alloc (.cells #[.int .u8 7, .int .u64 4, .int .u64 0, .int .u64 0, .int .u64 0, .bool false, .slice (some ⟨ba, 0, none⟩) 3 3, .slice none 0 0] 28) = q3 := hv3
  have VA := veil yVA
  have X3 := veil y3
  clear x3 fa3 a3 ha3 y3 yVA X2
  have HV := veil hv3
  clear hv3
  unfold FrM.cells frT
  go_wp2_with fail
  rw [HV.out]
  clear HV
  refine (lw_take X3.out 9 9 (by decide) (by decide) ls1 rfl lc1 lf.2.1 (s' := lv2) rfl).mono ?_
  rintro e4 w4 ⟨bb, o4, rfl, x4, fa4, a4⟩
  have ha4 := (Below.refl _ w4).alloc (Nat.le_refl _) (.cells (frT 4 3 false [100, 101] bb).cells 28)
  have yVA := (VA.out.after a4).below ha4
  have yVB := FrV.new x4.sn fa4
  have y4 := x4.below ha4
  obtain ⟨q4, hv4⟩ : ∃ v, w4.alloc (.cells #[.int .u8 7, .int .u64 4, .int .u64 3, .int .u64 0, .int .u64 0, .bool false, .slice (some ⟨bb, 0, none⟩) 2 2, .slice none 0 0] 28) = v := ⟨_, rfl⟩
  replace hv4 : w4.alloc (.cells (frT 4 3 false [100, 101] bb).cells 28) = q4 := hv4
  rw [hv4] at yVA yVB y4
  replace hv4 : w4.alloc (.cells #[.int .u8 7, .int .u64 4, .int .u64 3, .int .u64 0, .int .u64 0, .bool false, .slice (some ⟨bb, 0, none⟩) 2 2, .slice none 0 0] 28) = q4 := hv4
  have VA := veil yVA
  have VB := veil yVB
  have X4 := veil y4
  clear x4 fa4 a4 ha4 y4 yVA yVB X3
  have HV := veil hv4
  clear hv4
  unfold FrM.cells frT
  go_wp2_with fail
  rw [HV.out]
  clear HV
  refine (lw_none X4.out 9 9 (by decide) (by decide) ls2).mono ?_
  rintro e5 w5 ⟨rfl, hb5⟩
  have hc5 := hb5.alloc hb5.size (.cells #[.int .u8 0, .int .u64 0, .int .u64 0, .int .u64 0, .int .u64 0, .bool false, .slice none 0 0, .slice none 0 0] 28)
  have yVA := VA.out.below hc5
  have yVB := VB.out.below hc5
  have y5 := X4.out.below hc5
  have VA := veil yVA
  have VB := veil yVB
  have X5 := veil y5
  clear hb5 hc5 yVA yVB y5 X4
  unfold fr0
  have ka0 : (w5.alloc (.cells #[.int .u8 0, .int .u64 0, .int .u64 0, .int .u64 0, .int .u64 0, .bool false, .slice none 0 0, .slice none 0 0] 28)).cell? ⟨w3.heap.size, 0, none⟩ = some (.int .u8 7) := VA.out.row.cell 0
  have ka1 : (w5.alloc (.cells #[.int .u8 0, .int .u64 0, .int .u64 0, .int .u64 0, .int .u64 0, .bool false, .slice none 0 0, .slice none 0 0] 28)).cell? ⟨w3.heap.size, 1, none⟩ = some (.int .u64 4) := VA.out.row.cell 1
  have ka2 : (w5.alloc (.cells #[.int .u8 0, .int .u64 0, .int .u64 0, .int .u64 0, .int .u64 0, .bool false, .slice none 0 0, .slice none 0 0] 28)).cell? ⟨w3.heap.size, 2, none⟩ = some (.int .u64 0) := VA.out.row.cell 2
  have ka3 : (w5.alloc (.cells #[.int .u8 0, .int .u64 0, .int .u64 0, .int .u64 0, .int .u64 0, .bool false, .slice none 0 0, .slice none 0 0] 28)).cell? ⟨w3.heap.size, 3, none⟩ = some (.int .u64 0) := VA.out.row.cell 3
  have ka4 : (w5.alloc (.cells #[.int .u8 0, .int .u64 0, .int .u64 0, .int .u64 0, .int .u64 0, .bool false, .slice none 0 0, .slice none 0 0] 28)).cell? ⟨w3.heap.size, 4, none⟩ = some (.int .u64 0) := VA.out.row.cell 4
  have ka5 : (w5.alloc (.cells #[.int .u8 0, .int .u64 0, .int .u64 0, .int .u64 0, .int .u64 0, .bool false, .slice none 0 0, .slice none 0 0] 28)).cell? ⟨w3.heap.size, 5, none⟩ = some (.bool false) := VA.out.row.cell 5
  have ka6 : (w5.alloc (.cells #[.int .u8 0, .int .u64 0, .int .u64 0, .int .u64 0, .int .u64 0, .bool false, .slice none 0 0, .slice none 0 0] 28)).cell? ⟨w3.heap.size, 6, none⟩ = some (.slice (some ⟨ba, 0, none⟩) 3 3) := VA.out.row.cell 6
  have ka7 : (w5.alloc (.cells #[.int .u8 0, .int .u64 0, .int .u64 0, .int .u64 0, .int .u64 0, .bool false, .slice none 0 0, .slice none 0 0] 28)).cell? ⟨w3.heap.size, 7, none⟩ = some (.slice none 0 0) := VA.out.row.cell 7
  have kb2 : (w5.alloc (.cells #[.int .u8 0, .int .u64 0, .int .u64 0, .int .u64 0, .int .u64 0, .bool false, .slice none 0 0, .slice none 0 0] 28)).cell? ⟨w4.heap.size, 2, none⟩ = some (.int .u64 3) := VB.out.row.cell 2
  have kb6 : (w5.alloc (.cells #[.int .u8 0, .int .u64 0, .int .u64 0, .int .u64 0, .int .u64 0, .bool false, .slice none 0 0, .slice none 0 0] 28)).cell? ⟨w4.heap.size, 6, none⟩ = some (.slice (some ⟨bb, 0, none⟩) 2 2) := VB.out.row.cell 6
  have cvA : (convert 24 9 (.slice (some ⟨ba, 0, none⟩) 3 3)).run Tryz.prog (w5.alloc (.cells #[.int .u8 0, .int .u64 0, .int .u64 0, .int .u64 0, .int .u64 0, .bool false, .slice none 0 0, .slice none 0 0] 28)) = .ok (.string ⟨#[97, 98, 99]⟩) (w5.alloc (.cells #[.int .u8 0, .int .u64 0, .int .u64 0, .int .u64 0, .int .u64 0, .bool false, .slice none 0 0, .slice none 0 0] 28)) := frv_conv VA.out (show strOfNums (([97, 98, 99] : List By).map v8) = _ by decide +kernel)
  have cvB : (convert 24 9 (.slice (some ⟨bb, 0, none⟩) 2 2)).run Tryz.prog (w5.alloc (.cells #[.int .u8 0, .int .u64 0, .int .u64 0, .int .u64 0, .int .u64 0, .bool false, .slice none 0 0, .slice none 0 0] 28)) = .ok (.string ⟨#[100, 101]⟩) (w5.alloc (.cells #[.int .u8 0, .int .u64 0, .int .u64 0, .int .u64 0, .int .u64 0, .bool false, .slice none 0 0, .slice none 0 0] 28)) := frv_conv VB.out (show strOfNums (([100, 101] : List By).map v8) = _ by decide +kernel)
  go_wp2_with fail
  clear ka0 ka1 ka2 ka3 ka4 ka5 ka6 ka7 kb2 kb6 cvA cvB
  obtain ⟨v5, hv5⟩ : ∃ v, (w5.alloc (.cells #[.int .u8 0, .int .u64 0, .int .u64 0, .int .u64 0, .int .u64 0, .bool false, .slice none 0 0, .slice none 0 0] 28)) = v := ⟨_, rfl⟩
  rw [hv5] at VA VB X5 ⊢
  clear hv5
  refine (lw_lost (p := 0) (d := [97, 98, 99]) (fn := false) (b := ba) X5.out VA.out.hf.ok (by decide) rfl lm2 (s' := lv3) rfl).mono ?_
  rintro e6 w6 ⟨rfl, o6, x6, a6⟩
  have yVA := VA.out.after a6
  have yVB := VB.out.after a6
  have VA := veil yVA
  have VB := veil yVB
  have X6 := veil x6
  clear x6 a6 yVA yVB X5
  go_wp2_with fail
  refine (lw_raise X6.out).mono ?_
  rintro e7 w7 ⟨rfl, o7, x7, a7⟩
  have yVA := VA.out.after a7
  have yVB := VB.out.after a7
  have VA := veil yVA
  have VB := veil yVB
  have X7 := veil x7
  clear x7 a7 yVA yVB X6
  go_wp2_with fail
  refine (lw_take X7.out 9 0 (by decide) (by decide) ls4 rfl lc4 lf.2.2.1 (s' := lv5) rfl).mono ?_
  rintro e8 w8 ⟨bc, o8, rfl, x8, fa8, a8⟩
  have ha8 := (Below.refl _ w8).alloc (Nat.le_refl _) (.cells (frT 4 0 false [97, 98, 99] bc).cells 28)
  have yVA := (VA.out.after a8).below ha8
  have yVB := (VB.out.after a8).below ha8
  have yVC := FrV.new x8.sn fa8
  have y8 := x8.below ha8
  obtain ⟨q8, hv8⟩ : ∃ v, w8.alloc (.cells #[.int .u8 7, .int .u64 4, .int .u64 0, .int .u64 0, .int .u64 0, .bool false, .slice (some ⟨bc, 0, none⟩) 3 3, .slice none 0 0] 28) = v := ⟨_, rfl⟩
  replace hv8 : w8.alloc (.cells (frT 4 0 false [97, 98, 99] bc).cells 28) = q8 := hv8
  rw [hv8] at yVA yVB yVC y8
  replace hv8 : w8.alloc (.cells #[.int .u8 7, .int .u64 4, .int .u64 0, .int .u64 0, .int .u64 0, .bool false, .slice (some ⟨bc, 0, none⟩) 3 3, .slice none 0 0] 28) = q8 := hv8
  have VA := veil yVA
  have VB := veil yVB
  have VC := veil yVC
  have X8 := veil y8
  clear x8 fa8 a8 ha8 y8 yVA yVB yVC X7
  have HV := veil hv8
  clear hv8
  unfold FrM.cells frT
  go_wp2_with fail
  rw [HV.out]
  clear HV
  clear VA
  refine (lw_take X8.out 9 9 (by decide) (by decide) ls5 rfl lc5 lf.2.2.2 (s' := lv6) rfl).mono ?_
  rintro e9 w9 ⟨bd, o9, rfl, x9, fa9, a9⟩
  have ha9 := (Below.refl _ w9).alloc (Nat.le_refl _) (.cells (frT 4 5 true [102, 103, 104] bd).cells 28)
  have yVB := (VB.out.after a9).below ha9
  have yVC := (VC.out.after a9).below ha9
  have yVD := FrV.new x9.sn fa9
  have y9 := x9.below ha9
  have VB := veil yVB
  have VC := veil yVC
  have VD := veil yVD
  have X9 := veil y9
  clear x9 fa9 a9 ha9 y9 yVB yVC yVD X8
  unfold FrM.cells frT
  have kc2 : (w9.alloc (.cells #[.int .u8 7, .int .u64 4, .int .u64 5, .int .u64 0, .int .u64 0, .bool true, .slice (some ⟨bd, 0, none⟩) 3 3, .slice none 0 0] 28)).cell? ⟨w8.heap.size, 2, none⟩ = some (.int .u64 0) := VC.out.row.cell 2
  have kc6 : (w9.alloc (.cells #[.int .u8 7, .int .u64 4, .int .u64 5, .int .u64 0, .int .u64 0, .bool true, .slice (some ⟨bd, 0, none⟩) 3 3, .slice none 0 0] 28)).cell? ⟨w8.heap.size, 6, none⟩ = some (.slice (some ⟨bc, 0, none⟩) 3 3) := VC.out.row.cell 6
  have kd5 : (w9.alloc (.cells #[.int .u8 7, .int .u64 4, .int .u64 5, .int .u64 0, .int .u64 0, .bool true, .slice (some ⟨bd, 0, none⟩) 3 3, .slice none 0 0] 28)).cell? ⟨w9.heap.size, 5, none⟩ = some (.bool true) := VD.out.row.cell 5
  have kd6 : (w9.alloc (.cells #[.int .u8 7, .int .u64 4, .int .u64 5, .int .u64 0, .int .u64 0, .bool true, .slice (some ⟨bd, 0, none⟩) 3 3, .slice none 0 0] 28)).cell? ⟨w9.heap.size, 6, none⟩ = some (.slice (some ⟨bd, 0, none⟩) 3 3) := VD.out.row.cell 6
  have kb0 : (w9.alloc (.cells #[.int .u8 7, .int .u64 4, .int .u64 5, .int .u64 0, .int .u64 0, .bool true, .slice (some ⟨bd, 0, none⟩) 3 3, .slice none 0 0] 28)).cell? ⟨w4.heap.size, 0, none⟩ = some (.int .u8 7) := VB.out.row.cell 0
  have kb1 : (w9.alloc (.cells #[.int .u8 7, .int .u64 4, .int .u64 5, .int .u64 0, .int .u64 0, .bool true, .slice (some ⟨bd, 0, none⟩) 3 3, .slice none 0 0] 28)).cell? ⟨w4.heap.size, 1, none⟩ = some (.int .u64 4) := VB.out.row.cell 1
  have kb2 : (w9.alloc (.cells #[.int .u8 7, .int .u64 4, .int .u64 5, .int .u64 0, .int .u64 0, .bool true, .slice (some ⟨bd, 0, none⟩) 3 3, .slice none 0 0] 28)).cell? ⟨w4.heap.size, 2, none⟩ = some (.int .u64 3) := VB.out.row.cell 2
  have kb3 : (w9.alloc (.cells #[.int .u8 7, .int .u64 4, .int .u64 5, .int .u64 0, .int .u64 0, .bool true, .slice (some ⟨bd, 0, none⟩) 3 3, .slice none 0 0] 28)).cell? ⟨w4.heap.size, 3, none⟩ = some (.int .u64 0) := VB.out.row.cell 3
  have kb4 : (w9.alloc (.cells #[.int .u8 7, .int .u64 4, .int .u64 5, .int .u64 0, .int .u64 0, .bool true, .slice (some ⟨bd, 0, none⟩) 3 3, .slice none 0 0] 28)).cell? ⟨w4.heap.size, 4, none⟩ = some (.int .u64 0) := VB.out.row.cell 4
  have kb5 : (w9.alloc (.cells #[.int .u8 7, .int .u64 4, .int .u64 5, .int .u64 0, .int .u64 0, .bool true, .slice (some ⟨bd, 0, none⟩) 3 3, .slice none 0 0] 28)).cell? ⟨w4.heap.size, 5, none⟩ = some (.bool false) := VB.out.row.cell 5
  have kb6 : (w9.alloc (.cells #[.int .u8 7, .int .u64 4, .int .u64 5, .int .u64 0, .int .u64 0, .bool true, .slice (some ⟨bd, 0, none⟩) 3 3, .slice none 0 0] 28)).cell? ⟨w4.heap.size, 6, none⟩ = some (.slice (some ⟨bb, 0, none⟩) 2 2) := VB.out.row.cell 6
  have kb7 : (w9.alloc (.cells #[.int .u8 7, .int .u64 4, .int .u64 5, .int .u64 0, .int .u64 0, .bool true, .slice (some ⟨bd, 0, none⟩) 3 3, .slice none 0 0] 28)).cell? ⟨w4.heap.size, 7, none⟩ = some (.slice none 0 0) := VB.out.row.cell 7
  have cvD : (convert 24 9 (.slice (some ⟨bd, 0, none⟩) 3 3)).run Tryz.prog (w9.alloc (.cells #[.int .u8 7, .int .u64 4, .int .u64 5, .int .u64 0, .int .u64 0, .bool true, .slice (some ⟨bd, 0, none⟩) 3 3, .slice none 0 0] 28)) = .ok (.string ⟨#[102, 103, 104]⟩) (w9.alloc (.cells #[.int .u8 7, .int .u64 4, .int .u64 5, .int .u64 0, .int .u64 0, .bool true, .slice (some ⟨bd, 0, none⟩) 3 3, .slice none 0 0] 28)) := frv_conv VD.out (show strOfNums (([102, 103, 104] : List By).map v8) = _ by decide +kernel)
  go_wp2_with fail
  obtain ⟨q9, hv9⟩ : ∃ v, (w9.alloc (.cells #[.int .u8 7, .int .u64 4, .int .u64 5, .int .u64 0, .int .u64 0, .bool true, .slice (some ⟨bd, 0, none⟩) 3 3, .slice none 0 0] 28)) = v := ⟨_, rfl⟩
  replace hv9 : w9.alloc (.cells (frT 4 5 true [102, 103, 104] bd).cells 28) = q9 := hv9
  rw [hv9] at VB VC VD X9
  replace hv9 : w9.alloc (.cells #[.int .u8 7, .int .u64 4, .int .u64 5, .int .u64 0, .int .u64 0, .bool true, .slice (some ⟨bd, 0, none⟩) 3 3, .slice none 0 0] 28) = q9 := hv9
  rw [hv9]
  clear hv9
  clear kc2 kc6 kd5 kd6 cvD kb0 kb1 kb2 kb3 kb4 kb5 kb6 kb7
  refine (lw_got (p := 3) (d := [100, 101]) (fn := false) (b := bb) X9.out VB.out.hf.ok (by decide) rfl lm6 (s' := lv7) rfl).mono ?_
  rintro e10 w10 ⟨rfl, o10, x10, a10⟩
  have yVB := VB.out.after a10
  have yVC := VC.out.after a10
  have yVD := VD.out.after a10
  have VB := veil yVB
  have VC := veil yVC
  have VD := veil yVD
  have X10 := veil x10
  clear x10 a10 yVB yVC yVD X9
  have kc0 : w10.cell? ⟨w8.heap.size, 0, none⟩ = some (.int .u8 7) := VC.out.row.cell 0
  have kc1 : w10.cell? ⟨w8.heap.size, 1, none⟩ = some (.int .u64 4) := VC.out.row.cell 1
  have kc2 : w10.cell? ⟨w8.heap.size, 2, none⟩ = some (.int .u64 0) := VC.out.row.cell 2
  have kc3 : w10.cell? ⟨w8.heap.size, 3, none⟩ = some (.int .u64 0) := VC.out.row.cell 3
  have kc4 : w10.cell? ⟨w8.heap.size, 4, none⟩ = some (.int .u64 0) := VC.out.row.cell 4
  have kc5 : w10.cell? ⟨w8.heap.size, 5, none⟩ = some (.bool false) := VC.out.row.cell 5
  have kc6 : w10.cell? ⟨w8.heap.size, 6, none⟩ = some (.slice (some ⟨bc, 0, none⟩) 3 3) := VC.out.row.cell 6
  have kc7 : w10.cell? ⟨w8.heap.size, 7, none⟩ = some (.slice none 0 0) := VC.out.row.cell 7
  go_wp2_with fail
  clear kc0 kc1 kc2 kc3 kc4 kc5 kc6 kc7
  refine (lw_got (p := 0) (d := [97, 98, 99]) (fn := false) (b := bc) X10.out VC.out.hf.ok (by decide) rfl lm7 (s' := lv8) rfl).mono ?_
  rintro e11 w11 ⟨rfl, o11, x11, a11⟩
  have yVB := VB.out.after a11
  have yVC := VC.out.after a11
  have yVD := VD.out.after a11
  have VB := veil yVB
  have VC := veil yVC
  have VD := veil yVD
  have X11 := veil x11
  clear x11 a11 yVB yVC yVD X10
  go_wp2_with fail
  refine (lw_done X11.out ld8).mono ?_
  rintro e12 w12 ⟨rfl, hb12⟩
  have yVD := VD.out.below hb12
  have y12 := X11.out.below hb12
  have VD := veil yVD
  have X12 := veil y12
  clear hb12 yVD y12 X11 VB VC
  have kd0 : w12.cell? ⟨w9.heap.size, 0, none⟩ = some (.int .u8 7) := VD.out.row.cell 0
  have kd1 : w12.cell? ⟨w9.heap.size, 1, none⟩ = some (.int .u64 4) := VD.out.row.cell 1
  have kd2 : w12.cell? ⟨w9.heap.size, 2, none⟩ = some (.int .u64 5) := VD.out.row.cell 2
  have kd3 : w12.cell? ⟨w9.heap.size, 3, none⟩ = some (.int .u64 0) := VD.out.row.cell 3
  have kd4 : w12.cell? ⟨w9.heap.size, 4, none⟩ = some (.int .u64 0) := VD.out.row.cell 4
  have kd5 : w12.cell? ⟨w9.heap.size, 5, none⟩ = some (.bool true) := VD.out.row.cell 5
  have kd6 : w12.cell? ⟨w9.heap.size, 6, none⟩ = some (.slice (some ⟨bd, 0, none⟩) 3 3) := VD.out.row.cell 6
  have kd7 : w12.cell? ⟨w9.heap.size, 7, none⟩ = some (.slice none 0 0) := VD.out.row.cell 7
  go_wp2_with fail
  clear kd0 kd1 kd2 kd3 kd4 kd5 kd6 kd7
  refine (lw_got (p := 5) (d := [102, 103, 104]) (fn := true) (b := bd) X12.out VD.out.hf.ok (by decide) rfl lm8 (s' := lv9) rfl).mono ?_
  rintro e13 w13 ⟨rfl, o13, x13, a13⟩
  have yVD := VD.out.after a13
  have VD := veil yVD
  have X13 := veil x13
  clear x13 a13 yVD X12
  go_wp2_with fail
  refine (lw_done X13.out ld9).mono ?_
  rintro e14 w14 ⟨rfl, hb14⟩
  have B14 := veil (X13.out.below hb14).bel
  clear hb14 X13 VD
  go_wp2_with fail
  go_ret
  exact ⟨rfl, B14.out⟩
end Sr
end Go.Proofs.YtehadfidenejdaaGreatDoor

/-! Reset of the program's sender, and what a sender that is none answers. -/
namespace Go.Proofs.YtehadfidenejdaaGreatDoor
open Go Go.RowKit

namespace Sr
open Sd
theorem write_nil (w : World) (b : Bool) : Calls Tryz.prog 7 #[.pointer none, .slice none 0 0, .bool b] w fun e w' => e = .returned (.int .i64 2) ∧ w' = w := by
  go_enter Tryz.func7, Tryz.ntmps7
  go_wp2_with fail
  refine (there_nil w).mono ?_
  rintro e1 w1 ⟨rfl, rfl⟩
  go_wp2
  go_ret
  exact ⟨rfl, rfl⟩
theorem done_nil (w : World) : Calls Tryz.prog 8 #[.pointer none] w fun e w' => e = .returned (.bool false) ∧ w' = w := by
  go_enter Tryz.func8, Tryz.ntmps8
  go_wp2_with fail
  refine (there_nil w).mono ?_
  rintro e1 w1 ⟨rfl, rfl⟩
  go_wp2
  go_ret
  exact ⟨rfl, rfl⟩
theorem fresh_nil (w : World) : Calls Tryz.prog 9 #[.pointer none] w fun e w' => e = .returned (.int .u64 0) ∧ w' = w := by
  go_enter Tryz.func9, Tryz.ntmps9
  go_wp2_with fail
  refine (there_nil w).mono ?_
  rintro e1 w1 ⟨rfl, rfl⟩
  go_wp2
  go_ret
  exact ⟨rfl, rfl⟩
theorem SnS.done {w : World} {g : Nat} {s : Snd} {own : Nat → Prop} (h : SnS w g s own) : Calls Tryz.prog 8 #[.pointer (some ⟨g, 0, none⟩)] w fun e w' => e = .returned (.bool (Sd.done s)) ∧ Below w.heap.size w w' := by
  obtain ⟨wr, cm, ls, C, L, h1, h2, h3⟩ := h
  exact done_any h1
theorem SnS.fresh {w : World} {g : Nat} {s : Snd} {own : Nat → Prop} (h : SnS w g s own) : Calls Tryz.prog 9 #[.pointer (some ⟨g, 0, none⟩)] w fun e w' => e = .returned (.int .u64 (s.fresh : Int)) ∧ Below w.heap.size w w' := by
  obtain ⟨wr, cm, ls, C, L, h1, h2, h3⟩ := h
  exact fresh_any h1
set_option maxHeartbeats 1000000 in
theorem reset_any {w : World} {g : Nat} {s : Snd} {own : Nat → Prop} (x : SnS w g s own) :
    Calls Tryz.prog 25 #[.pointer (some ⟨g, 0, none⟩)] w fun e w' => ∃ own', SnS w' g (if resetE s = 0 then reset s else s) own' ∧ After own w w' own' ∧ e = .returned (.tuple #[.int .u64 (if resetE s = 0 then s.fresh else 0 : Nat), .int .i64 (resetE s : Nat)]) := by
  have HDN := veil x.done
  have HX := veil x
  obtain ⟨wr, cm, ls, C, L, h1, h2, h3⟩ := x
  have T1 := veil (there_yes h1)
  have c8 := h1.row.cell 8
  by_cases hr : s.reset = true
  · have e : resetE s = 9 := by unfold resetE; rw [if_pos (.inl hr)]
    rw [e]
    unfold snC at c8
    rw [hr] at c8
    clear h1 h2 h3 hr e
    go_enter Tryz.func25, Tryz.ntmps25
    go_wp2_with fail
    refine T1.out.mono ?_
    rintro e1 w1 ⟨rfl, rfl⟩
    go_wp2_with fail
    go_ret2
    exact ⟨own, HX.out, After.same (Below.refl _ _), rfl⟩
  · have hr : s.reset = false := by simpa using hr
    by_cases hd : Sd.done s = true
    · have e : resetE s = 9 := by unfold resetE; rw [if_pos (.inr hd)]
      rw [e]
      rw [hd] at HDN
      unfold snC at c8
      rw [hr] at c8
      clear h1 h2 h3 hr e hd
      go_enter Tryz.func25, Tryz.ntmps25
      go_wp2_with fail
      refine T1.out.mono ?_
      rintro e1 w1 ⟨rfl, rfl⟩
      go_wp2_with fail
      refine HDN.out.mono ?_
      rintro e1 w1 ⟨rfl, hb⟩
      have HB := veil hb
      clear hb
      go_wp2_with fail
      go_ret2
      exact ⟨own, HX.out.below HB.out, After.same HB.out, rfl⟩
    · have e : resetE s = 0 := by unfold resetE; rw [if_neg (by rintro (q | q); rw [hr] at q; cases q; exact hd q)]
      have hd : Sd.done s = false := by simpa using hd
      rw [hd] at HDN
      have HH := veil (show SnOk w g wr cm ls s C L ∧ (∀ k, OwnS g wr cm ls k → own k) ∧ (∀ k, own k → k < w.heap.size) from ⟨h1, h2, h3⟩)
      have HR := veil (reset_rep h1.rep e)
      rw [e, if_pos rfl, if_pos rfl]
      unfold snC at c8
      rw [hr] at c8
      clear h1 h2 h3 hr e hd HX
      go_enter Tryz.func25, Tryz.ntmps25
      go_wp2_with fail
      refine T1.out.mono ?_
      rintro e1 w1 ⟨rfl, rfl⟩
      go_wp2_with fail
      refine HDN.out.mono ?_
      rintro e1 w1 ⟨rfl, hb⟩
      have f8 := (HH.out.1.below hb).row.frozen 8
      have c8' := (HH.out.1.below hb).row.cell 8
      have HS := veil (show SnS (w1.setCell ⟨g, 8, none⟩ (.bool true)) g (reset s) own from ⟨wr, cm, ls, C, L, (HH.out.1.below hb).setNum 8 _ (by unfold snC Sd.reset sn; rfl) rfl HR.out, HH.out.2.1, fun k e => by have := HH.out.2.2 k e; have := hb.size; simp [World.setCell]; omega⟩)
      have HA := veil ((After.same (own := own) hb).trans (after_set (w := w1) (own := own) (HH.out.2.1 g (.inl rfl)) 8 (.bool true)))
      unfold snC at c8'
      clear hb HH HR
      go_wp2_with fail
      refine HS.out.fresh.mono ?_
      rintro e1 w2 ⟨rfl, hb2⟩
      have HS2 := veil (HS.out.below hb2)
      have HA2 := veil (HA.out.trans (After.same hb2))
      clear hb2
      go_wp2_with fail
      go_ret2
      exact ⟨own, HS2.out, HA2.out, rfl⟩
end Sr
end Go.Proofs.YtehadfidenejdaaGreatDoor

/-! The document's sender in memory: made, raised, asked. -/
namespace Go.Proofs.YtehadfidenejdaaGreatDoor
open Go Go.RowKit

namespace Sr
open Sd
/-- How each byte stands. -/
def vh (h : Nat → Nat) : Nat → List Value
  | 0 => []
  | n + 1 => vh h n ++ [.int .i64 (h n : Int)]
theorem vh_length (h : Nat → Nat) : ∀ n, (vh h n).length = n
  | 0 => rfl
  | n + 1 => by unfold vh; rw [List.length_append, vh_length h n]; rfl
theorem vh_get (h : Nat → Nat) : ∀ (n i : Nat), i < n → (vh h n)[i]? = some (.int .i64 (h i : Int))
  | 0, i, hi => absurd hi (Nat.not_lt_zero _)
  | n + 1, i, hi => by
    unfold vh
    rcases Nat.lt_or_ge i n with q | q
    · rw [List.getElem?_append_left (by rw [vh_length]; exact q)]; exact vh_get h n i q
    · obtain rfl : i = n := by omega
      rw [List.getElem?_append_right (by rw [vh_length]; exact Nat.le_refl _), vh_length, Nat.sub_self]; rfl
theorem vh_congr {h h' : Nat → Nat} : ∀ {n : Nat}, (∀ i, i < n → h i = h' i) → vh h n = vh h' n
  | 0, _ => rfl
  | n + 1, e => by unfold vh; rw [vh_congr (n := n) (fun i hi => e i (by omega)), e n (by omega)]
def rfC (bv hv : Value) (s : Snd) : Array Value :=
  #[.int .u64 (s.id : Int), .int .u64 (s.credit : Int), bv, hv, .int .i64 (s.fresh : Int), .bool s.last, .int .i64 (s.fin : Int), .bool s.reset]
structure RfOk (w : World) (h : Nat) (bv hv : Value) (s : Snd) : Prop where
  row : Row w h 75 (rfC bv hv s)
  brow : RowO w 5 1 bv s.b.length (vb s.b)
  hrow : RowO w 3 1 hv s.b.length (vh s.how s.b.length)
  fine : Fine s
def OwnR (h : Nat) (bv hv : Value) (k : Nat) : Prop := k = h ∨ bv.ownBlock = some k ∨ hv.ownBlock = some k
section
variable {w w' : World} {h : Nat} {bv hv : Value} {s s' : Snd} {own own' : Nat → Prop}
theorem RfOk.lt (x : RfOk w h bv hv s) : ∀ k, OwnR h bv hv k → k < w.heap.size := by
  rintro k (rfl | e | e)
  · exact x.row.lt
  · exact x.brow.lt k e
  · exact x.hrow.lt k e
theorem RfOk.same (x : RfOk w h bv hv s) (hk : ∀ k, OwnR h bv hv k → w'.heap[k]? = w.heap[k]?) : RfOk w' h bv hv s :=
  ⟨(hk h (.inl rfl)).trans x.row, x.brow.same (fun k e => hk k (.inr (.inl e))), x.hrow.same (fun k e => hk k (.inr (.inr e))), x.fine⟩
theorem RfOk.below (x : RfOk w h bv hv s) (hb : Below w.heap.size w w') : RfOk w' h bv hv s := x.same (fun k e => hb.block k (x.lt k e))
theorem RfOk.tr (x : RfOk w h bv hv s) : Ty w h 75 := ⟨_, x.row⟩
theorem RfOk.tb (x : RfOk w h bv hv s) {k : Nat} (e : bv.ownBlock = some k) : Ty w k 5 := Ty.row x.brow e
theorem RfOk.th (x : RfOk w h bv hv s) {k : Nat} (e : hv.ownBlock = some k) : Ty w k 3 := Ty.row x.hrow e
theorem RfOk.nb (x : RfOk w h bv hv s) : bv.ownBlock ≠ some h := fun e => (x.tb e).ne x.tr (by decide) rfl
theorem RfOk.nh (x : RfOk w h bv hv s) : hv.ownBlock ≠ some h := fun e => (x.th e).ne x.tr (by decide) rfl
theorem RfOk.bh (x : RfOk w h bv hv s) {k : Nat} (e : bv.ownBlock = some k) : hv.ownBlock ≠ some k := fun e2 => (x.tb e).ne (x.th e2) (by decide) rfl
/-- The document's sender as it stands, and which blocks are its. -/
def RfS (w : World) (h : Nat) (s : Snd) (own : Nat → Prop) : Prop := ∃ bv hv, RfOk w h bv hv s ∧ (∀ k, OwnR h bv hv k → own k) ∧ (∀ k, own k → k < w.heap.size)
theorem RfS.below (x : RfS w h s own) (hb : Below w.heap.size w w') : RfS w' h s own := by
  obtain ⟨bv, hv, h1, h2, h3⟩ := x
  exact ⟨bv, hv, h1.below hb, h2, fun k e => Nat.lt_of_lt_of_le (h3 k e) hb.size⟩
theorem RfS.keep {st : Nat → Prop} (x : RfS w h s own) (hk : KeepP st w w') (hs : ∀ k, own k → ¬ st k) : RfS w' h s own := by
  obtain ⟨bv, hv, h1, h2, h3⟩ := x
  exact ⟨bv, hv, h1.same (fun k e => hk.block k (h1.lt k e) (hs k (h2 k e))), h2, fun k e => Nat.lt_of_lt_of_le (h3 k e) hk.size⟩
/-- A cell of its own is written. -/
theorem RfOk.setNum (x : RfOk w h bv hv s) (j : Nat) (u : Value) (hc : (rfC bv hv s).setIfInBounds j u = rfC bv hv s') (hb : s'.b = s.b) (hh : ∀ i, i < s.b.length → s'.how i = s.how i) (hf : Fine s') : RfOk (w.setCell ⟨h, j, none⟩ u) h bv hv s' :=
  ⟨by rw [← hc]; exact x.row.set j u, by rw [hb]; exact RowO.setG x.brow x.nb j u, by rw [hb, vh_congr hh]; exact RowO.setG x.hrow x.nh j u, hf⟩
theorem refNew_any (id credit : Nat) (w : World) (h1 : id ≤ 4611686018427387903) (h2 : credit ≤ 4611686018427387903) :
    Calls Tryz.prog 6 #[.int .u64 (id : Int), .int .u64 (credit : Int)] w fun e w' => e = .returned (.tuple #[.pointer (some ⟨w.heap.size, 0, none⟩), .int .i64 0]) ∧ RfS w' w.heap.size (new id credit) (fun k => k = w.heap.size) ∧ Below w.heap.size w w' := by
  have n1 : ¬ (4611686018427387903 : Int) < (id : Int) := by omega
  have n2 : ¬ (4611686018427387903 : Int) < (credit : Int) := by omega
  have HB := veil ((Below.refl w.heap.size w).alloc (Nat.le_refl _) (.cells (rfC (.slice none 0 0) (.slice none 0 0) (new id credit)) 75))
  have HS := veil (show RfS (w.alloc (.cells (rfC (.slice none 0 0) (.slice none 0 0) (new id credit)) 75)) w.heap.size (new id credit) (fun k => k = w.heap.size) from
    ⟨_, _, ⟨Row.new _ _ _, RowO.nil _ _ _, RowO.nil _ _ _, new_fine h1 h2⟩, (fun k e => by
      rcases e with e | e | e
      · exact e
      · cases e
      · cases e), (fun k e => by rw [e]; simp)⟩)
  clear h1 h2
  go_enter Tryz.func6, Tryz.ntmps6
  go_wp2
  go_ret2
  exact ⟨rfl, HS.out, HB.out⟩
theorem refNew_no (id credit : Nat) (w : World) (h : 4611686018427387903 < id ∨ 4611686018427387903 < credit) :
    Calls Tryz.prog 6 #[.int .u64 (id : Int), .int .u64 (credit : Int)] w fun e w' => e = .returned (.tuple #[.pointer none, .int .i64 1]) ∧ Below w.heap.size w w' := by
  by_cases c : 4611686018427387903 < id
  · have n1 : (4611686018427387903 : Int) < (id : Int) := by omega
    clear h c
    go_enter Tryz.func6, Tryz.ntmps6
    go_wp2
    go_ret2
    exact ⟨rfl, Below.refl _ _⟩
  · have n1 : ¬ (4611686018427387903 : Int) < (id : Int) := by omega
    have n2 : (4611686018427387903 : Int) < (credit : Int) := by omega
    clear h c
    go_enter Tryz.func6, Tryz.ntmps6
    go_wp2
    go_ret2
    exact ⟨rfl, Below.refl _ _⟩
theorem refRaise_any (x : RfS w h s own) (c : Nat) :
    Calls Tryz.prog 24 #[.pointer (some ⟨h, 0, none⟩), .int .u64 (c : Int)] w fun e w' => e = .returned (.int .i64 (raiseE c : Nat)) ∧ ∃ own', RfS w' h (raise s c) own' ∧ After own w w' own' := by
  obtain ⟨bv, hv, h1, h2, h3⟩ := x
  by_cases hc : 4611686018427387903 < c
  · have HS := veil (show RfS w h (raise s c) own from by unfold raise; rw [if_pos hc]; exact ⟨bv, hv, h1, h2, h3⟩)
    have n1 : (4611686018427387903 : Int) < (c : Int) := by omega
    have n2 : raiseE c = 1 := by unfold raiseE; rw [if_pos hc]
    rw [n2]
    clear h1 h2 h3 hc n2
    go_enter Tryz.func24, Tryz.ntmps24
    go_wp2
    go_ret
    exact ⟨rfl, own, HS.out, After.same (Below.refl _ _)⟩
  · have hr := raise_fine h1.fine c
    have hb : (raise s c).b = s.b := by unfold raise; split <;> rfl
    have hh : (raise s c).how = s.how := by unfold raise; split <;> rfl
    obtain ⟨m, hm⟩ : ∃ m, max s.credit c = m := ⟨_, rfl⟩
    have hcx : (rfC bv hv s).setIfInBounds 1 (.int .u64 (m : Int)) = rfC bv hv (raise s c) := by
      unfold raise
      rw [if_neg hc, ← hm]
      rfl
    have HS := veil (show RfS (w.setCell ⟨h, 1, none⟩ (.int .u64 (m : Int))) h (raise s c) own from ⟨bv, hv, h1.setNum 1 _ hcx hb (fun i _ => by rw [hh]) hr, h2, fun k e => by have := h3 k e; simpa [World.setCell] using this⟩)
    have HA := veil (after_set (w := w) (own := own) (h2 h (.inl rfl)) 1 (.int .u64 (m : Int)))
    have n1 : ¬ (4611686018427387903 : Int) < (c : Int) := by omega
    have n2 : raiseE c = 0 := by unfold raiseE; rw [if_neg hc]
    have n3 : max (s.credit : Int) (c : Int) = (m : Int) := by omega
    have c2 := h1.row.cell 1
    have f2 := h1.row.frozen 1
    rw [n2]
    unfold rfC at c2
    clear h1 h2 h3 hc n2 hr hb hh hcx hm
    go_enter Tryz.func24, Tryz.ntmps24
    go_wp2
    go_ret
    exact ⟨rfl, own, HS.out, HA.out⟩
theorem refFresh_any (x : RfS w h s own) :
    Calls Tryz.prog 29 #[.pointer (some ⟨h, 0, none⟩)] w fun e w' => e = .returned (.int .u64 (s.fresh : Int)) ∧ w' = w := by
  obtain ⟨bv, hv, h1, h2, h3⟩ := x
  have c4 := h1.row.cell 4
  have hl := h1.fine.len
  have hf := h1.fine.fr
  have w1 : IntKind.u64.wrap (s.fresh : Int) = (s.fresh : Int) := by rw [IntKind.wrap_u64]; omega
  unfold rfC at c4
  clear h1 h2 h3 hl hf
  go_enter Tryz.func29, Tryz.ntmps29
  go_wp2
  go_ret
  exact ⟨rfl, rfl⟩
theorem done_true (hr : s.reset = false) (hf : s.fin = 3) (hh : ∀ i, i < s.b.length → s.how i = 3) : done s = true := by
  unfold done
  rw [hr, hf, (allIn_iff s.how s.b.length).2 hh]
  rfl
theorem done_false (hh : s.reset = true ∨ s.fin ≠ 3 ∨ ∃ i, i < s.b.length ∧ s.how i ≠ 3) : done s = false := by
  rw [Bool.eq_false_iff]
  intro hd
  unfold done at hd
  simp only [Bool.and_eq_true, Bool.not_eq_true', beq_iff_eq] at hd
  rcases hh with q | q | ⟨i, q1, q2⟩
  · rw [hd.1.1] at q; cases q
  · exact q hd.1.2
  · exact q2 ((allIn_iff s.how s.b.length).1 hd.2 i q1)
set_option maxHeartbeats 1000000 in
theorem refDone_any (x : RfS w h s own) :
    Calls Tryz.prog 28 #[.pointer (some ⟨h, 0, none⟩)] w fun e w' => e = .returned (.bool (done s)) ∧ w' = w := by
  obtain ⟨bv, hv, h1, h2, h3⟩ := x
  have c3 := h1.row.cell 3
  have c6 := h1.row.cell 6
  have c7 := h1.row.cell 7
  have hln := h1.fine.len
  unfold rfC at c3 c6 c7
  obtain ⟨ha, hc, hve, _, _⟩ := h1.hrow.shape
  obtain ⟨n, hn⟩ : ∃ n, s.b.length = n := ⟨_, rfl⟩
  have hrow := h1.hrow
  rw [hn] at hve hrow hln
  subst hve
  have HR := veil hrow
  have HNN := veil hn
  obtain ⟨D, hD⟩ : ∃ D, done s = D := ⟨_, rfl⟩
  rw [hD]
  have HD := veil hD
  by_cases hr : s.reset = true
  · rw [hr] at c7
    obtain rfl : D = false := by rw [← hD]; exact done_false (.inl hr)
    clear h1 h2 h3 hr hD hrow hn
    go_enter Tryz.func28, Tryz.ntmps28
    go_wp2
    go_ret
    exact ⟨rfl, rfl⟩
  · have hr : s.reset = false := by simpa using hr
    rw [hr] at c7
    by_cases hf : s.fin = 3
    · rw [hf] at c6
      have HRF := veil (show s.reset = false ∧ s.fin = 3 from ⟨hr, hf⟩)
      clear h1 h2 h3 hr hf hD hrow hn
      go_enter Tryz.func28, Tryz.ntmps28
      go_wp2_with fail
      go_loopw [3] (fun iv wr => ∃ k : Nat, k ≤ n ∧ iv = .int .i64 (k : Int) ∧ (∀ i, i < k → s.how i = 3) ∧ w = wr)
        (fun iv _ => n - (intOf iv).toNat)
      case atStart => exact ⟨0, Nat.zero_le _, rfl, fun i hi => absurd hi (Nat.not_lt_zero _), rfl⟩
      case round =>
        obtain ⟨k, hk, rfl, hall, hwr⟩ := hrel
        subst hwr
        by_cases hlt : k < n
        · obtain ⟨hg, ho, rfl, ck⟩ := HR.out.cells k _ (vh_get s.how n k hlt)
          have bI : (k : Int) < (n : Int) := by omega
          by_cases h3 : s.how k = 3
          · have HA := veil (show ∀ i, i < k + 1 → s.how i = 3 from fun i hi => by
              rcases Nat.lt_or_ge i k with q | q
              · exact hall i q
              · obtain rfl : i = k := by omega
                exact h3)
            rw [h3] at ck
            clear hall h3
            go_wp2
            go_roundw
            case rel => exact ⟨k + 1, by omega, by go_num, HA.out, trivial⟩
            case measure => simp [intOf]; omega
          · have n3 : ¬ (s.how k : Int) = 3 := by omega
            have n4 : decide ((s.how k : Int) = 3) = false := by simp; omega
            have n5 : ((s.how k : Int) != 3) = true := by simp; omega
            obtain rfl : D = false := by rw [← HD.out]; exact done_false (.inr (.inr ⟨k, by rw [HNN.out]; exact hlt, h3⟩))
            clear hall h3
            go_wp2
            go_ret
            exact ⟨rfl, rfl⟩
        · obtain rfl : k = n := by omega
          obtain rfl : D = true := by rw [← HD.out]; exact done_true HRF.out.1 HRF.out.2 (fun i hi => hall i (by rw [← HNN.out]; exact hi))
          clear hall
          go_wp2
          go_ret
          exact ⟨rfl, rfl⟩
    · have n3 : ¬ (s.fin : Int) = 3 := by omega
      have n5 : ((s.fin : Int) != 3) = true := by simp; omega
      obtain rfl : D = false := by rw [← hD]; exact done_false (.inr (.inl hf))
      clear h1 h2 h3 hr hf hD hrow hn
      go_enter Tryz.func28, Tryz.ntmps28
      go_wp2
      go_ret
      exact ⟨rfl, rfl⟩
set_option maxHeartbeats 1000000 in
theorem refReset_any (x : RfS w h s own) :
    Calls Tryz.prog 26 #[.pointer (some ⟨h, 0, none⟩)] w fun e w' => ∃ own', RfS w' h (if resetE s = 0 then reset s else s) own' ∧ After own w w' own' ∧ e = .returned (.tuple #[.int .u64 (if resetE s = 0 then s.fresh else 0 : Nat), .int .i64 (resetE s : Nat)]) := by
  have HDN := veil (refDone_any x)
  have HX := veil x
  obtain ⟨bv, hv, h1, h2, h3⟩ := x
  have c4 := h1.row.cell 4
  have c7 := h1.row.cell 7
  have f7 := h1.row.frozen 7
  have hl := h1.fine.len
  have hf := h1.fine.fr
  have w1 : IntKind.u64.wrap (s.fresh : Int) = (s.fresh : Int) := by rw [IntKind.wrap_u64]; omega
  by_cases hr : s.reset = true
  · have e : resetE s = 9 := by unfold resetE; rw [if_pos (.inl hr)]
    rw [e]
    unfold rfC at c4 c7
    rw [hr] at c7
    clear h1 h2 h3 hl hf hr e
    go_enter Tryz.func26, Tryz.ntmps26
    go_wp2_with fail
    go_ret2
    exact ⟨own, HX.out, After.same (Below.refl _ _), rfl⟩
  · have hr : s.reset = false := by simpa using hr
    by_cases hd : done s = true
    · have e : resetE s = 9 := by unfold resetE; rw [if_pos (.inr hd)]
      rw [e]
      rw [hd] at HDN
      unfold rfC at c4 c7
      rw [hr] at c7
      clear h1 h2 h3 hl hf hr e hd
      go_enter Tryz.func26, Tryz.ntmps26
      go_wp2_with fail
      refine HDN.out.mono ?_
      rintro e1 w1 ⟨rfl, rfl⟩
      go_wp2_with fail
      go_ret2
      exact ⟨own, HX.out, After.same (Below.refl _ _), rfl⟩
    · have e : resetE s = 0 := by unfold resetE; rw [if_neg (by rintro (q | q); rw [hr] at q; cases q; exact hd q)]
      have hd : done s = false := by simpa using hd
      rw [hd] at HDN
      rw [e, if_pos rfl, if_pos rfl]
      have HS := veil (show RfS (w.setCell ⟨h, 7, none⟩ (.bool true)) h (reset s) own from ⟨bv, hv, h1.setNum 7 _ (by unfold rfC Sd.reset; rfl) rfl (fun _ _ => rfl) (reset_fine h1.fine), h2, fun k e => by have := h3 k e; simpa [World.setCell] using this⟩)
      have HA := veil (after_set (w := w) (own := own) (h2 h (.inl rfl)) 7 (.bool true))
      have d4 : (w.setCell ⟨h, 7, none⟩ (.bool true)).cell? ⟨h, 4, none⟩ = some (.int .i64 (s.fresh : Int)) := (show Row (w.setCell ⟨h, 7, none⟩ (.bool true)) h _ _ from h1.row.set 7 (.bool true)).cell 4
      unfold rfC at c4 c7
      rw [hr] at c7
      clear h1 h2 h3 hl hf hr e hd
      go_enter Tryz.func26, Tryz.ntmps26
      go_wp2_with fail
      refine HDN.out.mono ?_
      rintro e1 w1 ⟨rfl, rfl⟩
      go_wp2_with fail
      go_ret2
      exact ⟨own, HS.out, HA.out, rfl⟩
end
end Sr
end Go.Proofs.YtehadfidenejdaaGreatDoor
