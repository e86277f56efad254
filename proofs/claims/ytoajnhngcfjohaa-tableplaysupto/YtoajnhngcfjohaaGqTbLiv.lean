/-
  The chapter's table is there.
-/
import Derived.Test.YtoajnhngcfjohaaGqTbFnd
import Derived.Test.YtoajnhngcfjohaaGqTbGet
namespace Go.Proofs.Ytoajnhngcfjohaa
open Go Go.RowKit

namespace Tb
def lf1 : Fd := (⟨#[97]⟩, ⟨#[98]⟩)
def lf2 : Fd := (⟨#[99]⟩, ⟨#[100]⟩)
def lf3 : Fd := (⟨#[101]⟩, ⟨#[102]⟩)
def lfG : Fd := (⟨#[58, 109, 101, 116, 104, 111, 100]⟩, ⟨#[71, 69, 84]⟩)
def lfP : Fd := (⟨#[58, 109, 101, 116, 104, 111, 100]⟩, ⟨#[80, 85, 84]⟩)
theorem live_17 : fixI 17 = lfG := by kernel_rfl
theorem live_f17 (w : World) : Calls Try.prog 7 #[.int .i64 17] w fun e w' => e = .returned (.tuple #[.agg #[.string ⟨#[58, 109, 101, 116, 104, 111, 100]⟩, .string ⟨#[71, 69, 84]⟩], .bool true]) ∧ Below w.heap.size w w' := by
  have := tab_fix 17 w
  rw [live_17] at this
  exact this
theorem live_99 : fixI 99 = fd0 := by kernel_rfl
theorem live_f99 (w : World) : Calls Try.prog 7 #[.int .i64 99] w fun e w' => e = .returned (.tuple #[.agg #[.string ⟨#[]⟩, .string ⟨#[]⟩], .bool false]) ∧ Below w.heap.size w w' := by
  have := tab_fix 99 w
  rw [live_99] at this
  exact this
theorem live_P : firstI (hasF lfP) fixL 0 = 21 ∧ firstI (hasN lfP) fixL 0 = 15 := ⟨by kernel_rfl, by kernel_rfl⟩
theorem live_find (w : World) : Calls Try.prog 9 #[.agg lfP.cells] w fun e w' => e = .returned (.tuple #[.int .i64 21, .int .i64 15]) ∧ Below w.heap.size w w' := by
  have := tab_find lfP w
  rw [live_P.1, live_P.2] at this
  exact this
def lt0 : Tab := ⟨70, 0, []⟩
def lt1 : Tab := ⟨70, 0, [lf1]⟩
def lt2 : Tab := ⟨70, 0, [lf1, lf2]⟩
def lt3 : Tab := ⟨70, 1, [lf2, lf3]⟩
theorem live_1 : lt0.addE lf1 = 0 ∧ lt0.add lf1 = lt1 := ⟨by kernel_rfl, by kernel_rfl⟩
theorem live_2 : lt1.addE lf2 = 0 ∧ lt1.add lf2 = lt2 := ⟨by kernel_rfl, by kernel_rfl⟩
theorem live_3 : lt2.addE lf3 = 0 ∧ lt2.add lf3 = lt3 := ⟨by kernel_rfl, by kernel_rfl⟩
theorem live_s : size lt2.l = 68 := by kernel_rfl
theorem live_g : getF lt3 0 = fd0 ∧ getE lt3 0 = 10 ∧ getF lt3 1 = lf2 ∧ getE lt3 1 = 0 := ⟨by kernel_rfl, by kernel_rfl, by kernel_rfl, by kernel_rfl⟩
section
variable {w : World} {h : Nat} {A : List Fd} {p q : Nat}
theorem live_a1 (x : PtOk w h lt0 A p q) : Calls Try.prog 15 #[.pointer (some ⟨h, 0, none⟩), .agg #[.string ⟨#[97]⟩, .string ⟨#[98]⟩]] w fun e w' => e = .returned (.int .i64 0) ∧ ∃ A' p' q', PtOk w' h lt1 A' p' q' ∧ KeepP (fun k => k = h) w w' := by
  have := tab_add x lf1 (by decide) (by decide)
  rw [live_1.1, live_1.2] at this
  exact this
theorem live_a2 (x : PtOk w h lt1 A p q) : Calls Try.prog 15 #[.pointer (some ⟨h, 0, none⟩), .agg #[.string ⟨#[99]⟩, .string ⟨#[100]⟩]] w fun e w' => e = .returned (.int .i64 0) ∧ ∃ A' p' q', PtOk w' h lt2 A' p' q' ∧ KeepP (fun k => k = h) w w' := by
  have := tab_add x lf2 (by decide) (by decide)
  rw [live_2.1, live_2.2] at this
  exact this
theorem live_a3 (x : PtOk w h lt2 A p q) : Calls Try.prog 15 #[.pointer (some ⟨h, 0, none⟩), .agg #[.string ⟨#[101]⟩, .string ⟨#[102]⟩]] w fun e w' => e = .returned (.int .i64 0) ∧ ∃ A' p' q', PtOk w' h lt3 A' p' q' ∧ KeepP (fun k => k = h) w w' := by
  have := tab_add x lf3 (by decide) (by decide)
  rw [live_3.1, live_3.2] at this
  exact this
theorem live_sz (x : PtOk w h lt2 A p q) : Calls Try.prog 19 #[.pointer (some ⟨h, 0, none⟩)] w fun e w' => e = .returned (.int .i64 68) ∧ w' = w := by
  have := tab_size x
  rw [live_s] at this
  exact this
theorem live_g0 (x : PtOk w h lt3 A p q) : Calls Try.prog 14 #[.pointer (some ⟨h, 0, none⟩), .int .u64 0] w fun e w' => e = .returned (.tuple #[.agg #[.string ⟨#[]⟩, .string ⟨#[]⟩], .int .i64 10]) ∧ Below w.heap.size w w' := by
  have := tab_get x 0 (by decide)
  rw [live_g.1, live_g.2.1] at this
  exact this
theorem live_g1 (x : PtOk w h lt3 A p q) : Calls Try.prog 14 #[.pointer (some ⟨h, 0, none⟩), .int .u64 1] w fun e w' => e = .returned (.tuple #[.agg #[.string ⟨#[99]⟩, .string ⟨#[100]⟩], .int .i64 0]) ∧ Below w.heap.size w w' := by
  have := tab_get x 1 (by decide)
  rw [live_g.2.2.1, live_g.2.2.2] at this
  exact this
theorem live_c (x : PtOk w h lt3 A p q) : Calls Try.prog 17 #[.pointer (some ⟨h, 0, none⟩)] w fun e w' => e = .returned (.int .u64 3) ∧ ∃ m, w' = w.drewN m := tab_came x
theorem live_go (x : PtOk w h lt3 A p q) : Calls Try.prog 18 #[.pointer (some ⟨h, 0, none⟩)] w fun e w' => e = .returned (.int .u64 1) ∧ w' = w := tab_gone x
end
set_option maxRecDepth 100000 in
set_option maxHeartbeats 4000000 in
theorem lives_any (w : World) : Calls Try.prog 11 #[] w fun e w' => e = .returned (.bool true) ∧ Below w.heap.size w w' := by
  go_enter Try.func11, Try.ntmps11
  go_upto_region 2 with (go_at_call 7; refine (live_f17 _).mono ?_; rintro e1 w1 ⟨rfl, hb1⟩)
  have HB := veil (hb1.alloc hb1.size (.cells #[.string ⟨#[58, 109, 101, 116, 104, 111, 100]⟩, .string ⟨#[71, 69, 84]⟩] 23))
  have HA := veil (Row.new w1 23 #[.string ⟨#[58, 109, 101, 116, 104, 111, 100]⟩, .string ⟨#[71, 69, 84]⟩])
  clear hb1
  generalize w1.heap.size = b1 at *
  generalize w1.alloc (.cells #[.string ⟨#[58, 109, 101, 116, 104, 111, 100]⟩, .string ⟨#[71, 69, 84]⟩] 23) = w2 at *
  go_upto_region 3 with (go_at_call 7; refine (live_f99 _).mono ?_; rintro e1 w1 ⟨rfl, hb1⟩)
  have HB := veil (HB.out.trans ((hb1.alloc hb1.size (.cells #[.string ⟨#[]⟩, .string ⟨#[]⟩] 23)).mono HB.out.size))
  have HA := veil (Row.below HA.out (hb1.alloc hb1.size (.cells #[.string ⟨#[]⟩, .string ⟨#[]⟩] 23)) (Row.lt HA.out))
  clear hb1
  generalize w1.heap.size = b2 at *
  generalize w1.alloc (.cells #[.string ⟨#[]⟩, .string ⟨#[]⟩] 23) = w2 at *
  go_upto_region 5 with first
    | (go_at_call 9; refine (live_find _).mono ?_; rintro e1 w1 ⟨rfl, hb1⟩)
    | (go_at_call 12; refine (tab_new 70 (by decide) _).mono ?_; rintro e1 w3 ⟨rfl, hO, hb3⟩)
  have HA := veil (Row.below HA.out (hb1.trans (hb3.mono hb1.size)) (Row.lt HA.out))
  have hle : w.heap.size ≤ w1.heap.size := Nat.le_trans HB.out.size hb1.size
  have HB := veil (HB.out.trans ((hb1.trans (hb3.mono hb1.size)).mono HB.out.size))
  clear hb1 hb3
  generalize w1.heap.size = h at *
  have x0 : w3.cell? ⟨b1, 0, none⟩ = some (.string ⟨#[58, 109, 101, 116, 104, 111, 100]⟩) := HA.out.cell 0
  have x1 : w3.cell? ⟨b1, 1, none⟩ = some (.string ⟨#[71, 69, 84]⟩) := HA.out.cell 1
  go_upto_region 7 with fail
  clear x0 x1
  have HO := veil hO
  clear hO
  go_upto_region 9 with first
    | (go_at_call 15; with_reducible refine (live_a1 HO.out).mono ?_; rintro e1 w4 ⟨rfl, A4, p4, q4, hO4, hK4⟩)
    | (go_at_call 15; with_reducible refine (live_a2 hO4).mono ?_; rintro e1 w5 ⟨rfl, A5, p5, q5, hO5, hK5⟩)
    | (go_at_call 19; refine (live_sz hO5).mono ?_; rintro e1 w5 ⟨rfl, rfl⟩)
    | (go_at_call 15; with_reducible refine (live_a3 hO5).mono ?_; rintro e1 w6 ⟨rfl, A6, p6, q6, hO6, hK6⟩)
  have HB6 := veil (HB.out.trans (((hK4.trans hK5).trans hK6).below (B := w.heap.size) (by rintro k rfl; exact hle) HB.out.size))
  have HO6 := veil hO6
  clear hO4 hO5 hO6 hK4 hK5 hK6
  go_upto_region 10 with (go_at_call 14; refine (live_g0 HO6.out).mono ?_; rintro e1 w7 ⟨rfl, hb7⟩)
  have HB7 := veil (HB6.out.trans ((hb7.alloc hb7.size (.cells #[.string ⟨#[]⟩, .string ⟨#[]⟩] 23)).mono HB6.out.size))
  have HO7 := veil (HO6.out.below (hb7.alloc hb7.size (.cells #[.string ⟨#[]⟩, .string ⟨#[]⟩] 23)))
  clear hb7
  generalize w7.heap.size = b7 at *
  generalize w7.alloc (.cells #[.string ⟨#[]⟩, .string ⟨#[]⟩] 23) = w8 at *
  go_upto_region 11 with (go_at_call 14; refine (live_g1 HO7.out).mono ?_; rintro e1 w9 ⟨rfl, hb9⟩)
  have HB9 := veil (HB7.out.trans ((hb9.alloc hb9.size (.cells #[.string ⟨#[99]⟩, .string ⟨#[100]⟩] 23)).mono HB7.out.size))
  have HO9 := veil (HO7.out.below (hb9.alloc hb9.size (.cells #[.string ⟨#[99]⟩, .string ⟨#[100]⟩] 23)))
  have HR9 := veil (Row.new w9 23 #[.string ⟨#[99]⟩, .string ⟨#[100]⟩])
  clear hb9
  generalize w9.heap.size = b9 at *
  generalize w9.alloc (.cells #[.string ⟨#[99]⟩, .string ⟨#[100]⟩] 23) = w10 at *
  have x0 : w10.cell? ⟨b9, 0, none⟩ = some (.string ⟨#[99]⟩) := HR9.out.cell 0
  go_wp2_with first
    | (go_at_call 17; refine (live_c HO9.out).mono ?_; rintro e1 w11 ⟨rfl, m11, rfl⟩)
    | (go_at_call 18; refine (live_go (HO9.out.below (below_drewN (Below.refl _ _) _))).mono ?_; rintro e1 w12 ⟨rfl, rfl⟩)
  go_ret
  exact ⟨rfl, below_drewN HB9.out _⟩
end Tb
end Go.Proofs.Ytoajnhngcfjohaa
