/-
  Out of PkRead, PkReadS, PkClone, PkOpened.
-/
import Derived.Test.YtbheoldakmcppaaGreatDoorGs22
import Derived.Test.YtbheoldakmcppaaGreatDoorGs13
import Derived.Test.YtbheoldakmcppaaGreatDoorGs24

/-! The reader of packets: what it does where there are bytes enough. -/
namespace Go.Proofs.YtbheoldakmcppaaGreatDoor
open Go Go.RowKit

theorem grownSetP {w w' : World} {g j : Nat} {v : Value} (h : w.grownBy w' (some g)) : w.grownBy (w'.setCell ⟨g, j, none⟩ v) (some g) :=
  ⟨h.os, h.tape, h.output, by simp [World.setCell]; exact h.size, fun k hk hne => (Below.heap_setCell _ _ _ _ (fun e => hne (by rw [e]))).trans (h.block k hk hne)⟩
theorem grownDrewP {w w' : World} {r : Option Nat} (h : w.grownBy w' r) : w.grownBy w'.drew r := ⟨h.os, h.tape, h.output, h.size, h.block⟩
abbrev readC (v : Value) (n : Nat) : Array Value := #[v, .int .i64 (n : Int), .int .i64 0]

set_option maxRecDepth 20000 in
set_option maxHeartbeats 1000000 in
theorem need_ok (gr len cap n sz : Nat) (a : Option Addr) (w : World) (hr : Row w gr 198 (readC (.slice a len cap) n)) (h : n + sz ≤ len) (hl : len ≤ 1048576) :
    Calls Tryz.prog 137 #[.pointer (some ⟨gr, 0, none⟩), .int .u64 (sz : Int)] w fun e w' => e = .returned (.tuple #[]) ∧ Below w.heap.size w w' := by
  have c0 : w.cell? ⟨gr, 0, none⟩ = some (.slice a len cap) := hr.cell 0
  have c1 : w.cell? ⟨gr, 1, none⟩ = some (.int .i64 (n : Int)) := hr.cell 1
  have d0 : w.drew.cell? ⟨gr, 0, none⟩ = some (.slice a len cap) := hr.cell 0
  have d1 : w.drew.cell? ⟨gr, 1, none⟩ = some (.int .i64 (n : Int)) := hr.cell 1
  obtain ⟨L, hL⟩ : ∃ L, len - n = L := ⟨_, rfl⟩
  have hLi : (len : Int) - (n : Int) = (L : Int) := by omega
  have hsz : sz ≤ L := by omega
  have hL2 : L ≤ 1048576 := by omega
  have hw : wrap64 (L : Int) = (L : Int) := by unfold wrap64; omega
  clear hr hL
  go_enter Tryz.func137, Tryz.ntmps137
  go_wp2_with fail
  go_region
  all_goals
    go_wp2_with fail
    go_end0
    exact ⟨rfl, (Below.refl _ w).drew⟩

set_option maxRecDepth 20000 in
set_option maxHeartbeats 1000000 in
theorem ask_ok (gr : Nat) (w : World) :
    Calls Tryz.prog 132 #[.pointer (some ⟨gr, 0, none⟩), .bool true] w fun e w' => e = .returned (.tuple #[]) ∧ w' = w := by
  go_enter Tryz.func132, Tryz.ntmps132
  go_wp2_with fail
  go_end0
  exact ⟨rfl, rfl⟩

set_option maxRecDepth 20000 in
set_option maxHeartbeats 1000000 in
theorem take_ok (gr g len cap n sz : Nat) (w : World) (hr : Row w gr 198 (readC (.slice (some ⟨g, 0, none⟩) len cap) n)) (h : n + sz ≤ len) (hl : len ≤ 1048576) (hlc : len ≤ cap) (hn : n < len) :
    Calls Tryz.prog 133 #[.pointer (some ⟨gr, 0, none⟩), .int .u64 (sz : Int)] w fun e w' => e = .returned (.slice (some ⟨g, n, none⟩) sz (cap - n)) ∧ w.grownBy w' (some gr) ∧ Row w' gr 198 (readC (.slice (some ⟨g, 0, none⟩) len cap) (n + sz)) := by
  have NC := veil (need_ok gr len cap n sz (some ⟨g, 0, none⟩) w hr h hl)
  obtain ⟨m, hm⟩ : ∃ m, n + sz = m := ⟨_, rfl⟩
  have hsum : (n : Int) + (sz : Int) = (m : Int) := by omega
  rw [hm] at h ⊢
  have hnm : n ≤ m := by omega
  have hsub : m - n = sz := by omega
  have hne : ¬ cap = n := by omega
  have hne2 : ¬ n = cap := by omega
  have hmc : m ≤ cap := by omega
  have HR := veil hr
  have HSB := veil hsub
  clear hm hr hsub
  go_enter Tryz.func133, Tryz.ntmps133
  go_wp2_with fail
  refine NC.out.mono ?_
  rintro e1 w1 ⟨rfl, hb1⟩
  have R1 := veil (HR.out.below hb1 HR.out.lt)
  have G1 := veil (show w.grownBy w1 (some gr) from ⟨hb1.os, hb1.tape, hb1.output, hb1.size, fun k hk _ => hb1.block k hk⟩)
  have c1 : w1.cell? ⟨gr, 1, none⟩ = some (.int .i64 (n : Int)) := R1.out.cell 1
  have c2 : w1.cell? ⟨gr, 2, none⟩ = some (.int .i64 0) := R1.out.cell 2
  have f1 : w1.frozen? ⟨gr, 1, none⟩ = false := R1.out.frozen 1
  clear hb1 NC HR
  go_wp2_with fail
  have R2 : Hid (Row (w1.setCell ⟨gr, 1, none⟩ (.int .i64 (m : Int))) gr 198 (readC (.slice (some ⟨g, 0, none⟩) len cap) m)) := R1.out.set 1 _
  have G2 := veil (show w.grownBy (w1.setCell ⟨gr, 1, none⟩ (.int .i64 (m : Int))) (some gr) from grownSetP G1.out)
  clear c1 c2 f1 R1 G1
  generalize w1.setCell ⟨gr, 1, none⟩ (.int .i64 (m : Int)) = w2 at *
  have c0 : w2.cell? ⟨gr, 0, none⟩ = some (.slice (some ⟨g, 0, none⟩) len cap) := R2.out.cell 0
  have c1 : w2.cell? ⟨gr, 1, none⟩ = some (.int .i64 (m : Int)) := R2.out.cell 1
  have d0 : w2.drew.cell? ⟨gr, 0, none⟩ = some (.slice (some ⟨g, 0, none⟩) len cap) := R2.out.cell 0
  have d1 : w2.drew.cell? ⟨gr, 1, none⟩ = some (.int .i64 (m : Int)) := R2.out.cell 1
  go_region
  all_goals
    go_wp2_with fail
    go_ret
    refine ⟨?_, grownDrewP G2.out, R2.out.drew⟩
    rw [← HSB.out]
    rfl
end Go.Proofs.YtbheoldakmcppaaGreatDoor

/-! The reader of packets, at the document's own packet: a header that is not long. -/
namespace Go.Proofs.YtbheoldakmcppaaGreatDoor
open Go Go.RowKit

set_option maxRecDepth 20000 in
set_option maxHeartbeats 1000000 in
theorem one_ok (gr g len cap n : Nat) (x : Int) (w : World) (hr : Row w gr 198 (readC (.slice (some ⟨g, 0, none⟩) len cap) n)) (h : n + 1 ≤ len) (hl : len ≤ 1048576) (hlc : len ≤ cap) (hc : w.cell? ⟨g, n, none⟩ = some (.int .u8 x)) (hg : g < w.heap.size) (hne : g ≠ gr) :
    Calls Tryz.prog 131 #[.pointer (some ⟨gr, 0, none⟩)] w fun e w' => e = .returned (.int .u8 x) ∧ w.grownBy w' (some gr) ∧ Row w' gr 198 (readC (.slice (some ⟨g, 0, none⟩) len cap) (n + 1)) := by
  have TC := veil (take_ok gr g len cap n 1 w hr h hl hlc (by omega))
  have HC := veil hc
  have HG := veil (And.intro hg hne)
  clear hr hc hg hne
  go_enter Tryz.func131, Tryz.ntmps131
  go_wp2_with fail
  refine TC.out.mono ?_
  rintro e1 w1 ⟨rfl, hg1, hr1⟩
  have c2 : w1.cell? ⟨gr, 2, none⟩ = some (.int .i64 0) := hr1.cell 2
  have cx : w1.cell? ⟨g, n, none⟩ = some (.int .u8 x) := (World.cell?_of_block (a := ⟨g, n, none⟩) (hg1.block g HG.out.1 (fun e => HG.out.2 (Option.some.inj e)))).trans HC.out
  have G1 := veil hg1
  have R1 := veil hr1
  clear hg1 hr1 TC
  go_wp2_with fail
  go_ret
  exact ⟨rfl, G1.out, R1.out⟩

abbrev foundC (a b c : Value) (n : Int) : Array Value := #[a, b, c, .int .i64 n]
abbrev found0 : Array Value := foundC (.slice none 0 0) (.slice none 0 0) (.slice none 0 0) 0
/-- Between two steps of packet.read. -/
structure RdW (g cap n : Nat) (w W : World) : Prop where
  bel : Below w.heap.size w W
  rf : Row W w.heap.size 175 found0
  rr : Row W (w.heap.size + 1) 198 (readC (.slice (some ⟨g, 0, none⟩) 21 cap) n)
theorem RdW.grown {g cap n m : Nat} {w W W' : World} (h : RdW g cap n w W) (hg : W.grownBy W' (some (w.heap.size + 1))) (hr : Row W' (w.heap.size + 1) 198 (readC (.slice (some ⟨g, 0, none⟩) 21 cap) m)) : RdW g cap m w W' :=
  ⟨h.bel.grown hg h.bel.size (fun q e => by injection e with e; omega), (hg.block _ h.rf.lt (fun e => by injection e with e; omega)).trans h.rf, hr⟩
theorem RdW.below {g cap n : Nat} {w W W' : World} (h : RdW g cap n w W) (hb : Below W.heap.size W W') : RdW g cap n w W' :=
  ⟨h.bel.trans (hb.mono h.bel.size), h.rf.below hb h.rf.lt, h.rr.below hb h.rr.lt⟩
/-- What is found of the document's packet. -/
abbrev foundV (g cap : Nat) : Array Value := foundC (.slice (some ⟨g, 0, none⟩) 21 cap) (.slice (some ⟨g, 1, none⟩) 0 (cap - 1)) (.slice none 0 0) 1

set_option maxRecDepth 20000 in
set_option maxHeartbeats 2000000 in
theorem read_v13 (g cap : Nat) (w : World) (hcap : 21 ≤ cap) (hc : w.cell? ⟨g, 0, none⟩ = some (.int .u8 76)) (hg : g < w.heap.size) :
    Calls Tryz.prog 111 #[.slice (some ⟨g, 0, none⟩) 21 cap, .int .i64 0] w fun e w' => e = .returned (.tuple #[.agg (foundV g cap), .int .i64 0]) ∧ Below w.heap.size w w' := by
  have HC := veil hc
  have HG := veil hg
  have HCAP := veil hcap
  clear hc hg hcap
  go_enter Tryz.func111, Tryz.ntmps111
  go_wp2_with (first
    | (with_reducible (show wpList _ _ _ (⟨_, Op.alloc 175, _, _, _, _⟩ :: _) _ _)
       refine alloc_row rfl 175 rfl (foundC (.slice none 0 0) (.slice none 0 0) (.slice none 0 0) 0) (by kernel_rfl) ?_)
    | (with_reducible (show wpList _ _ _ (⟨_, Op.alloc 198, _, _, _, _⟩ :: _) _ _)
       refine alloc_row rfl 198 rfl (readC (.slice none 0 0) 0) (by kernel_rfl) ?_)
    | (with_reducible (show wpList _ _ _ (⟨_, Op.store 198 _ _, _, _, _, _⟩ :: _) _ _)
       refine store_new (w := w.alloc (.cells (foundC (.slice none 0 0) (.slice none 0 0) (.slice none 0 0) 0) 175)) (by rfl) 198 _ _ (by rfl) _ _ (by rfl) (by rfl) 198 (readC (.slice none 0 0) 0) (by rfl) 3 (by kernel_rfl) (by rfl) (by rfl) (by rfl) ?_))
  have s2 : RdW g cap 0 w ((w.alloc (.cells found0 175)).alloc (.cells (readC (.slice (some ⟨g, 0, none⟩) 21 cap) 0) 198)) := by
    refine ⟨((Below.refl _ w).alloc (Nat.le_refl _) _).alloc (by simp) _, (Row.new _ _ _).alloc _, ?_⟩
    have e : (w.alloc (.cells found0 175)).heap.size = w.heap.size + 1 := by simp
    rw [← e]
    exact Row.new _ _ _
  have S2 := veil s2
  clear s2
  refine (one_ok (w.heap.size + 1) g 21 cap 0 76 _ S2.out.rr (by decide) (by decide) HCAP.out ((S2.out.bel.cell (p := ⟨g, 0, none⟩) HG.out).trans HC.out) (Nat.lt_of_lt_of_le HG.out S2.out.bel.size) (by have := HG.out; omega)).mono ?_
  rintro e3 w3 ⟨rfl, hg3, hr3⟩
  have S3 := veil (S2.out.grown hg3 hr3)
  clear hg3 hr3 S2
  go_wp2_with fail
  refine (ask_ok _ _).mono ?_
  rintro e4 w4 ⟨rfl, hw4⟩
  obtain rfl : w4 = w3 := hw4
  go_wp2_with fail
  refine (ask_ok _ _).mono ?_
  rintro e5 w5 ⟨rfl, hw5⟩
  obtain rfl : w5 = w4 := hw5
  have S6 := veil (S3.out.below ((Below.refl _ w5).alloc (Nat.le_refl _) (.cells found0 175)))
  have R6 : Hid (Row (w5.alloc (.cells found0 175)) w5.heap.size 175 found0) := Row.new _ _ _
  have Z5 := veil S3.out.rr.lt
  go_wp2_with (first
    | (with_reducible (show wpList _ _ _ (⟨_, Op.alloc 175, _, _, _, _⟩ :: _) _ _)
       refine alloc_row rfl 175 rfl found0 (by kernel_rfl) ?_))
  obtain ⟨G9, hG9⟩ : ∃ G, w5.heap.size = G := ⟨_, rfl⟩
  rw [hG9] at R6 Z5
  rw [hG9]
  generalize w5.alloc (.cells found0 175) = w6 at *
  clear hG9 S3
  refine (take_ok (w.heap.size + 1) g 21 cap 1 0 _ S6.out.rr (by decide) (by decide) HCAP.out (by decide)).mono ?_
  rintro e7 w7 ⟨rfl, hg7, hr7⟩
  have S7 := veil (S6.out.grown hg7 hr7)
  have R7 : Hid (Row w7 G9 175 found0) := (hg7.block _ R6.out.lt (fun e => by injection e with e; have := Z5.out; omega)).trans R6.out
  have hc1 : w7.cell? ⟨G9, 1, none⟩ = some (.slice none 0 0) := R7.out.cell 1
  have hf1 : w7.frozen? ⟨G9, 1, none⟩ = false := R7.out.frozen 1
  clear hg7 hr7 S6 R6
  go_wp2_with fail
  have S8 : Hid (RdW g cap 1 w (w7.setCell ⟨G9, 1, none⟩ (.slice (some ⟨g, 1, none⟩) 0 (cap - 1)))) := by
    have hz := Z5.out
    exact ⟨S7.out.bel.setCell (p := ⟨G9, 1, none⟩) (by show w.heap.size ≤ G9; omega) _, S7.out.rf.other (by show w.heap.size ≠ G9; omega) _, S7.out.rr.other (by show w.heap.size + 1 ≠ G9; omega) _⟩
  have R8 : Hid (Row (w7.setCell ⟨G9, 1, none⟩ (.slice (some ⟨g, 1, none⟩) 0 (cap - 1))) G9 175 (foundC (.slice none 0 0) (.slice (some ⟨g, 1, none⟩) 0 (cap - 1)) (.slice none 0 0) 0)) := R7.out.set 1 _
  generalize w7.setCell ⟨G9, 1, none⟩ (.slice (some ⟨g, 1, none⟩) 0 (cap - 1)) = w8 at *
  clear hc1 hf1 S7 R7
  refine (need_ok (w.heap.size + 1) 21 cap 1 20 _ _ S8.out.rr (by decide) (by decide)).mono ?_
  rintro e9 w9 ⟨rfl, hb9⟩
  have S9 := veil (S8.out.below hb9)
  have R9 := veil (R8.out.below hb9 R8.out.lt)
  clear hb9 S8 R8
  obtain ⟨gr, hgr⟩ : ∃ gr, w.heap.size + 1 = gr := ⟨_, rfl⟩
  obtain ⟨gf, hgf⟩ : ∃ gf, w.heap.size = gf := ⟨_, rfl⟩
  have b0 : w9.cell? ⟨gr, 0, none⟩ = some (.slice (some ⟨g, 0, none⟩) 21 cap) := by rw [← hgr]; exact S9.out.rr.cell 0
  have b1 : w9.cell? ⟨gr, 1, none⟩ = some (.int .i64 1) := by rw [← hgr]; exact S9.out.rr.cell 1
  have b2 : w9.cell? ⟨gr, 2, none⟩ = some (.int .i64 0) := by rw [← hgr]; exact S9.out.rr.cell 2
  have q0 : w9.cell? ⟨G9, 0, none⟩ = some (.slice none 0 0) := R9.out.cell 0
  have q1 : w9.cell? ⟨G9, 3, none⟩ = some (.int .i64 0) := R9.out.cell 3
  have qf0 : w9.frozen? ⟨G9, 0, none⟩ = false := R9.out.frozen 0
  have qf3 : w9.frozen? ⟨G9, 3, none⟩ = false := R9.out.frozen 3
  have hne : gr ≠ G9 := by have := Z5.out; omega
  rw [hgr]
  have HGR := veil hgr
  clear hgr hgf
  go_wp2_with fail
  go_region
  have R10 : Hid (Row ((w9.setCell ⟨G9, 0, none⟩ (.slice (some ⟨g, 0, none⟩) 21 cap)).setCell ⟨G9, 3, none⟩ (.int .i64 1)).drew G9 175 (foundV g cap)) := (((R9.out.set 0 _).set 3 _).drew)
  have S10 : Hid (RdW g cap 1 w ((w9.setCell ⟨G9, 0, none⟩ (.slice (some ⟨g, 0, none⟩) 21 cap)).setCell ⟨G9, 3, none⟩ (.int .i64 1)).drew) := by
    have hz := Z5.out
    exact ⟨((S9.out.bel.setCell (p := ⟨G9, 0, none⟩) (by show w.heap.size ≤ G9; omega) _).setCell (p := ⟨G9, 3, none⟩) (by show w.heap.size ≤ G9; omega) _).drew, (((S9.out.rf.other (by show w.heap.size ≠ G9; omega) _).other (by show w.heap.size ≠ G9; omega) _)).drew, (((S9.out.rr.other (by show w.heap.size + 1 ≠ G9; omega) _).other (by show w.heap.size + 1 ≠ G9; omega) _)).drew⟩
  clear b0 b1 b2 q0 q1 qf0 qf3 S9 R9
  generalize ((w9.setCell ⟨G9, 0, none⟩ (.slice (some ⟨g, 0, none⟩) 21 cap)).setCell ⟨G9, 3, none⟩ (.int .i64 1)).drew = w10 at *
  have hz5 := Z5.out
  obtain ⟨gf, hgf⟩ : ∃ gf, w.heap.size = gf := ⟨_, rfl⟩
  have b2 : w10.cell? ⟨gr, 2, none⟩ = some (.int .i64 0) := by rw [← HGR.out]; exact S10.out.rr.cell 2
  have p0 : w10.cell? ⟨G9, 0, none⟩ = some (.slice (some ⟨g, 0, none⟩) 21 cap) := R10.out.cell 0
  have p1 : w10.cell? ⟨G9, 1, none⟩ = some (.slice (some ⟨g, 1, none⟩) 0 (cap - 1)) := R10.out.cell 1
  have p2 : w10.cell? ⟨G9, 2, none⟩ = some (.slice none 0 0) := R10.out.cell 2
  have p3 : w10.cell? ⟨G9, 3, none⟩ = some (.int .i64 1) := R10.out.cell 3
  have q0 : w10.cell? ⟨gf, 0, none⟩ = some (.slice none 0 0) := by rw [← hgf]; exact S10.out.rf.cell 0
  have q1 : w10.cell? ⟨gf, 1, none⟩ = some (.slice none 0 0) := by rw [← hgf]; exact S10.out.rf.cell 1
  have q2 : w10.cell? ⟨gf, 2, none⟩ = some (.slice none 0 0) := by rw [← hgf]; exact S10.out.rf.cell 2
  have q3 : w10.cell? ⟨gf, 3, none⟩ = some (.int .i64 0) := by rw [← hgf]; exact S10.out.rf.cell 3
  have f0 : w10.frozen? ⟨gf, 0, none⟩ = false := by rw [← hgf]; exact S10.out.rf.frozen 0
  have f1 : w10.frozen? ⟨gf, 1, none⟩ = false := by rw [← hgf]; exact S10.out.rf.frozen 1
  have f2 : w10.frozen? ⟨gf, 2, none⟩ = false := by rw [← hgf]; exact S10.out.rf.frozen 2
  have f3 : w10.frozen? ⟨gf, 3, none⟩ = false := by rw [← hgf]; exact S10.out.rf.frozen 3
  have hn1 : gf ≠ G9 := by omega
  have hn2 : gr ≠ gf := by have := HGR.out; omega
  rw [hgf]
  have HGF := veil hgf
  clear hgf hz5
  go_wp2_with fail
  go_region
  have R11 : Hid (Row ((((w10.setCell ⟨gf, 0, none⟩ (.slice (some ⟨g, 0, none⟩) 21 cap)).setCell ⟨gf, 1, none⟩ (.slice (some ⟨g, 1, none⟩) 0 (cap - 1))).setCell ⟨gf, 2, none⟩ (.slice none 0 0)).setCell ⟨gf, 3, none⟩ (.int .i64 1)).drew gf 175 (foundV g cap)) := by
    rw [← HGF.out]
    exact ((((S10.out.rf.set 0 _).set 1 _).set 2 _).set 3 _).drew
  have B11 : Hid (Below w.heap.size w ((((w10.setCell ⟨gf, 0, none⟩ (.slice (some ⟨g, 0, none⟩) 21 cap)).setCell ⟨gf, 1, none⟩ (.slice (some ⟨g, 1, none⟩) 0 (cap - 1))).setCell ⟨gf, 2, none⟩ (.slice none 0 0)).setCell ⟨gf, 3, none⟩ (.int .i64 1)).drew) := by
    rw [← HGF.out]
    exact ((((S10.out.bel.setCell (p := ⟨w.heap.size, 0, none⟩) (Nat.le_refl _) _).setCell (p := ⟨w.heap.size, 1, none⟩) (Nat.le_refl _) _).setCell (p := ⟨w.heap.size, 2, none⟩) (Nat.le_refl _) _).setCell (p := ⟨w.heap.size, 3, none⟩) (Nat.le_refl _) _).drew
  clear b2 p0 p1 p2 p3 q0 q1 q2 q3 f0 f1 f2 f3 S10 R10
  generalize ((((w10.setCell ⟨gf, 0, none⟩ (.slice (some ⟨g, 0, none⟩) 21 cap)).setCell ⟨gf, 1, none⟩ (.slice (some ⟨g, 1, none⟩) 0 (cap - 1))).setCell ⟨gf, 2, none⟩ (.slice none 0 0)).setCell ⟨gf, 3, none⟩ (.int .i64 1)).drew = w11 at *
  go_wp2_with fail
  exact bodyPost_ret (result_keys rfl _ _ gf _ _ R11.out 4 _ _ rfl rfl Tryz.underlying175 (by kernel_rfl) rfl) rfl ⟨rfl, B11.out⟩
end Go.Proofs.YtbheoldakmcppaaGreatDoor

/-! bytes.Clone; what packet.numberOf and packet.opened answer. -/
namespace Go.Proofs.YtbheoldakmcppaaGreatDoor
open Go Go.RowKit

set_option maxRecDepth 20000 in
theorem some_nil (ad : Addr) (n c : Nat) (w : World) : Sem.run Tryz.prog (binOp BinOp.eql 22 (Value.slice (some ad) n c) (Value.slice none 0 0)) w = .ok (.bool false) w := by kernel_rfl
set_option maxRecDepth 20000 in
theorem nil_nil (w : World) : Sem.run Tryz.prog (binOp BinOp.eql 22 (Value.slice none 0 0) (Value.slice none 0 0)) w = .ok (.bool true) w := by kernel_rfl
set_option maxRecDepth 20000 in
set_option maxHeartbeats 1000000 in
theorem clone_nil (w : World) : Calls Tryz.prog 116 #[.slice none 0 0] w fun e w' => e = .returned (.slice none 0 0) ∧ w' = w := by
  have hnn := nil_nil w
  go_enter Tryz.func116, Tryz.ntmps116
  go_wp2_with fail
  go_ret
  exact ⟨rfl, rfl⟩
set_option maxRecDepth 20000 in
set_option maxHeartbeats 1000000 in
theorem clone_some (q : SL) (ad : Addr) (w : World) (hq : q.Ok w) (ha : q.a = some ad) (hl : q.len ≤ 1048576) :
    Calls Tryz.prog 116 #[.slice (some ad) q.len q.cap] w fun e w' => ∃ v, e = .returned v ∧ w'.ownsRow w.heap.size 5 1 v q.len (vb q.b) ∧ Below w.heap.size w w' := by
  obtain ⟨i0, hi, hz0, hz1, hz2⟩ := info_parts (P := Tryz.prog) (e := 5) (z := .int .u8 0) (size := 1) (bytes := 1) (by kernel_rfl)
  have O1 : Hid ((w.alloc (.cells #[] 5)).ownsRow w.heap.size 5 1 (.slice (some ⟨w.heap.size, 0, none⟩) 0 0) 0 (vb [])) := own_litB w [] (by unfold maxLen; simp)
  have B1 := veil ((Below.refl w.heap.size w).alloc (Nat.le_refl _) (.cells #[] 5))
  have Q1 := veil (hq.alloc (.cells #[] 5))
  have HA := veil ha
  have hnn := some_nil ad q.len q.cap w
  clear hq ha
  go_enter Tryz.func116, Tryz.ntmps116
  go_wp2_with (first
    | (with_reducible (show wpList _ _ _ (⟨some 7, Op.call _, _, _, _, _⟩ :: _) _ _)
       refine append_sl rfl _ _ 22 rfl w.heap.size i0 Tryz.underlying22 hi hz0 hz1 hz2 _ 0 _ rfl O1.out q Q1.out (by rw [HA.out]; rfl) (by omega) B1.out.size ?_
       intro v3 w3 own3 grow3))
  have B3 := veil (B1.out.grown grow3 B1.out.size (fun q e => (O1.out.lt q e).1))
  rw [Nat.zero_add, List.nil_append] at own3
  have O3 := veil own3
  clear own3 grow3
  go_wp2_with fail
  go_ret
  exact ⟨_, rfl, O3.out, B3.out⟩

set_option maxRecDepth 20000 in
set_option maxHeartbeats 1000000 in
/-- The bytes 00 bf f4. -/
theorem number_v13 (g off cap : Nat) (w : World) (h0 : w.cell? ⟨g, off, none⟩ = some (.int .u8 0)) (h1 : w.cell? ⟨g, off + 1, none⟩ = some (.int .u8 191)) (h2 : w.cell? ⟨g, off + 2, none⟩ = some (.int .u8 244)) :
    Calls Tryz.prog 114 #[.slice (some ⟨g, off, none⟩) 3 cap] w fun e w' => e = .returned (.int .u64 49140) ∧ w' = w := by
  go_enter Tryz.func114, Tryz.ntmps114
  go_wp2_with fail
  refine wp_loop_rounds 4 ?_
  rw [rounds_succ]
  go_wp2_with fail
  rw [rounds_succ]
  go_wp2_with fail
  rw [rounds_succ]
  go_wp2_with fail
  rw [rounds_succ]
  go_wp2_with fail
  go_ret
  exact ⟨rfl, rfl⟩
end Go.Proofs.YtbheoldakmcppaaGreatDoor

/-! What packet.opened answers where the tag is right. -/
namespace Go.Proofs.YtbheoldakmcppaaGreatDoor
open Go Go.RowKit

set_option maxRecDepth 20000 in
set_option maxHeartbeats 400000 in
theorem opened_ok (s b : SL) (num : Nat) (k : KS) (w : World) (hg : Glob w) (hs : s.Ok w) (hb : b.Ok w) (hk : k.Ok w) (hiv : k.iv.len = 12) (hnum : num ≤ 4611686018427387903) (hsl : s.len ≤ 1048576) (hE : openE k.key.b (nonceL k.iv.b num) s.b b.b = 0) :
    Calls Tryz.prog 115 #[.slice s.a s.len s.cap, .slice b.a b.len b.cap, .int .u64 (num : Int), .agg k.cells] w fun e w' => ∃ a c, e = .returned (.tuple #[.slice a (openO k.key.b (nonceL k.iv.b num) s.b b.b).length c, .int .i64 0]) ∧ w'.ownsRow w.heap.size 5 1 (.slice a (openO k.key.b (nonceL k.iv.b num) s.b b.b).length c) (openO k.key.b (nonceL k.iv.b num) s.b b.b).length (vb (openO k.key.b (nonceL k.iv.b num) s.b b.b)) ∧ Below w.heap.size w w' := by
  have b0 : Below w.heap.size w (w.alloc (.cells k.cells 27)) := (Below.refl _ w).alloc (Nat.le_refl _) _
  have r0 : Row (w.alloc (.cells k.cells 27)) w.heap.size 27 k.cells := Row.new _ _ _
  have k1 := KS.c1 r0
  have B0 := veil b0
  have R0 := veil r0
  have HS := veil (hs.below b0)
  have HB := veil (hb.below b0)
  have HK := veil (hk.below b0)
  have HG := veil (hg.below b0 (Nat.le_refl _))
  have HE := veil hE
  have HSL := veil hsl
  have HIV := veil hiv
  have HNUM := veil hnum
  clear b0 r0 hs hb hk hg hE hsl hiv hnum
  go_enter Tryz.func115, Tryz.ntmps115
  go_wp2_with fail
  obtain ⟨G, hG⟩ : ∃ G, w.heap.size = G := ⟨_, rfl⟩
  generalize hw0 : w.alloc (.cells k.cells 27) = w0 at *
  refine (nonce_any k.iv num w0 HK.out.iv HIV.out HNUM.out).mono ?_
  rintro e1 w1 ⟨gn, rfl, _, rN, hb1⟩
  have B1 := veil (B0.out.trans (hb1.mono B0.out.size))
  have k0 := KS.c0 (R0.out.below hb1 R0.out.lt)
  have QN := veil (rowN_ok (n := 12) rN (nonceL_length _ _))
  have HS1 := veil (HS.out.below hb1)
  have HB1 := veil (HB.out.below hb1)
  have HK1 := veil (HK.out.below hb1)
  have HG1 := veil (HG.out.below hb1 (Nat.le_refl _))
  clear k1 rN hb1 HS HB HK HG R0 B0 hw0 hG
  go_wp2_with fail
  refine (open_any k.key (rowN gn 12 (nonceL k.iv.b num)) s b w1 HG1.out HK1.out.key QN.out HS1.out HB1.out (by have := HSL.out; omega)).mono ?_
  rintro e2 w2 ⟨a2, c2, rfl, own2, hb2⟩
  simp only [rowN] at own2 ⊢
  rw [HE.out]
  have B2 := veil (B1.out.trans (hb2.mono B1.out.size))
  have O2 := veil (own_low own2 B1.out.size)
  clear own2 hb2 k0
  go_wp2_with fail
  go_ret2
  exact ⟨_, _, rfl, O2.out, B2.out⟩
end Go.Proofs.YtbheoldakmcppaaGreatDoor
