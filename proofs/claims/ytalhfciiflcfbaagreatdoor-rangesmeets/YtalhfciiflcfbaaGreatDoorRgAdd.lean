/-
  What ranges.Add, Cut, Meet and Has answer.
-/
import Derived.Test.YtalhfciiflcfbaaGreatDoorRgComb
import Derived.Test.YtalhfciiflcfbaaGreatDoorRgLaws
namespace Go.Proofs.YtalhfciiflcfbaaGreatDoor
open Go Go.RowKit Go.Shelf

theorem AnsR.low {B B' : Nat} {w : World} {o : RL} (h : AnsR B w o) (hB : B' ≤ B) : AnsR B' w o := ⟨h.ok, own_low2 h.own hB⟩
theorem AnsR.below {B : Nat} {w w' : World} {o : RL} (h : AnsR B w o) (hb : Below w.heap.size w w') : AnsR B w' o := ⟨h.ok.below hb, own_below2 h.own hb⟩
/-- A list of one range, spelled. -/
theorem one_rl (x y : Nat) (w : World) (hx : x < 18446744073709551616) (hy : y < 18446744073709551616) : RL.Ok ((w.alloc (.cells #[.int .u64 (x : Int), .int .u64 (y : Int)] 25)).alloc (.cells #[.int .u64 (x : Int), .int .u64 (y : Int)] 25)) ⟨some ⟨w.heap.size + 1, 0, none⟩, 1, 1, w.heap.size + 1, 0, [(x, y)]⟩ := by
  have r : Row ((w.alloc (.cells #[.int .u64 (x : Int), .int .u64 (y : Int)] 25)).alloc (.cells #[.int .u64 (x : Int), .int .u64 (y : Int)] 25)) (w.heap.size + 1) 25 #[.int .u64 (x : Int), .int .u64 (y : Int)] := Row.new1 _ _ _ _
  refine ⟨rfl, Nat.le_refl _, (fun e => by cases e), fun _ => rfl, fun _ => r.lt, fun j hj => ?_, fun j => ?_⟩
  · obtain rfl : j = 0 := by simp only at hj; omega
    exact ⟨r.cell 0, r.cell 1⟩
  · match j with
    | 0 => exact ⟨hx, hy⟩
    | j + 1 => simp [gr]

set_option maxRecDepth 20000 in
set_option maxHeartbeats 1000000 in
theorem takes_add : Takes 24 Rg.orB := fun x y w => by
  have r0 : Row (w.alloc (.cells #[.bool x, .bool y] 57)) w.heap.size 57 #[.bool x, .bool y] := Row.new _ _ _
  have c0 := r0.cell 0
  have c1 := r0.cell 1
  have HB := veil (show Below w.heap.size w (w.alloc (.cells #[.bool x, .bool y] 57)) from (Below.refl _ w).alloc (Nat.le_refl _) _)
  clear r0
  cases x <;> cases y <;>
    (go_enter Tryz.func24, Tryz.ntmps24
     go_wp2
     go_ret
     exact ⟨rfl, HB.out⟩)

set_option maxRecDepth 20000 in
set_option maxHeartbeats 1000000 in
theorem takes_cut : Takes 25 Rg.butB := fun x y w => by
  have r0 : Row (w.alloc (.cells #[.bool x, .bool y] 57)) w.heap.size 57 #[.bool x, .bool y] := Row.new _ _ _
  have c0 := r0.cell 0
  have c1 := r0.cell 1
  have HB := veil (show Below w.heap.size w (w.alloc (.cells #[.bool x, .bool y] 57)) from (Below.refl _ w).alloc (Nat.le_refl _) _)
  clear r0
  cases x <;> cases y <;>
    (go_enter Tryz.func25, Tryz.ntmps25
     go_wp2
     go_ret
     exact ⟨rfl, HB.out⟩)

set_option maxRecDepth 20000 in
set_option maxHeartbeats 1000000 in
theorem takes_meet : Takes 66 Rg.andB := fun x y w => by
  have r0 : Row (w.alloc (.cells #[.bool x, .bool y] 57)) w.heap.size 57 #[.bool x, .bool y] := Row.new _ _ _
  have c0 := r0.cell 0
  have c1 := r0.cell 1
  have HB := veil (show Below w.heap.size w (w.alloc (.cells #[.bool x, .bool y] 57)) from (Below.refl _ w).alloc (Nat.le_refl _) _)
  clear r0
  cases x <;> cases y <;>
    (go_enter Tryz.func66, Tryz.ntmps66
     go_wp2
     go_ret
     exact ⟨rfl, HB.out⟩)

set_option maxRecDepth 20000 in
set_option maxHeartbeats 1000000 in
theorem rg_add (s : RL) (x y : Nat) (w : World) (hs : s.Ok w) (hx : x < 18446744073709551616) (hy : y < 18446744073709551616) :
    Calls Tryz.prog 7 #[.slice s.a s.len s.cap, .agg #[.int .u64 (x : Int), .int .u64 (y : Int)]] w fun e w' => ∃ (o : RL) (E : Int), e = .returned (.tuple #[.slice o.a o.len o.cap, .int .i64 E]) ∧ Rg.Comb Rg.orB s.l [(x, y)] o.l E ∧ AnsR w.heap.size w' o ∧ Below w.heap.size w w' := by
  have HS := veil hs
  have HO := veil (one_rl x y w hx hy)
  clear hs
  go_enter Tryz.func7, Tryz.ntmps7
  go_wp2_with fail
  have b0 : Below w.heap.size w ((w.alloc (.cells #[.int .u64 (x : Int), .int .u64 (y : Int)] 25)).alloc (.cells #[.int .u64 (x : Int), .int .u64 (y : Int)] 25)) := ((Below.refl _ w).alloc (Nat.le_refl _) _).alloc (by simp) _
  refine (comb_any Rg.orB rfl 24 takes_add (enters_of Tryz.func24 (by kernel_rfl) rfl) s ⟨some ⟨w.heap.size + 1, 0, none⟩, 1, 1, w.heap.size + 1, 0, [(x, y)]⟩ _ (HS.out.below b0) HO.out).mono ?_
  rintro e w' ⟨o, E, rfl, hc, ha, hb⟩
  have HC := veil hc
  have HA := veil (ha.low (show w.heap.size ≤ _ from b0.size))
  have HB := veil (b0.trans (hb.mono b0.size))
  clear hc ha hb b0
  go_wp2
  go_ret2
  exact ⟨o, E, rfl, HC.out, HA.out, HB.out⟩

set_option maxRecDepth 20000 in
set_option maxHeartbeats 1000000 in
theorem rg_cut (s : RL) (x y : Nat) (w : World) (hs : s.Ok w) (hx : x < 18446744073709551616) (hy : y < 18446744073709551616) :
    Calls Tryz.prog 8 #[.slice s.a s.len s.cap, .agg #[.int .u64 (x : Int), .int .u64 (y : Int)]] w fun e w' => ∃ (o : RL) (E : Int), e = .returned (.tuple #[.slice o.a o.len o.cap, .int .i64 E]) ∧ Rg.Comb Rg.butB s.l [(x, y)] o.l E ∧ AnsR w.heap.size w' o ∧ Below w.heap.size w w' := by
  have HS := veil hs
  have HO := veil (one_rl x y w hx hy)
  clear hs
  go_enter Tryz.func8, Tryz.ntmps8
  go_wp2_with fail
  have b0 : Below w.heap.size w ((w.alloc (.cells #[.int .u64 (x : Int), .int .u64 (y : Int)] 25)).alloc (.cells #[.int .u64 (x : Int), .int .u64 (y : Int)] 25)) := ((Below.refl _ w).alloc (Nat.le_refl _) _).alloc (by simp) _
  refine (comb_any Rg.butB rfl 25 takes_cut (enters_of Tryz.func25 (by kernel_rfl) rfl) s ⟨some ⟨w.heap.size + 1, 0, none⟩, 1, 1, w.heap.size + 1, 0, [(x, y)]⟩ _ (HS.out.below b0) HO.out).mono ?_
  rintro e w' ⟨o, E, rfl, hc, ha, hb⟩
  have HC := veil hc
  have HA := veil (ha.low (show w.heap.size ≤ _ from b0.size))
  have HB := veil (b0.trans (hb.mono b0.size))
  clear hc ha hb b0
  go_wp2
  go_ret2
  exact ⟨o, E, rfl, HC.out, HA.out, HB.out⟩

set_option maxRecDepth 20000 in
set_option maxHeartbeats 1000000 in
theorem rg_meet (s t : RL) (w : World) (hs : s.Ok w) (ht : t.Ok w) :
    Calls Tryz.prog 17 #[.slice s.a s.len s.cap, .slice t.a t.len t.cap] w fun e w' => ∃ (o : RL) (E : Int), e = .returned (.tuple #[.slice o.a o.len o.cap, .int .i64 E]) ∧ Rg.Comb Rg.andB s.l t.l o.l E ∧ AnsR w.heap.size w' o ∧ Below w.heap.size w w' := by
  have HS := veil hs
  have HT := veil ht
  clear hs ht
  go_enter Tryz.func17, Tryz.ntmps17
  go_wp2_with fail
  refine (comb_any Rg.andB rfl 66 takes_meet (enters_of Tryz.func66 (by kernel_rfl) rfl) s t w HS.out HT.out).mono ?_
  rintro e w' ⟨o, E, rfl, hc, ha, hb⟩
  have HC := veil hc
  have HA := veil ha
  have HB := veil hb
  clear hc ha hb
  go_wp2
  go_ret2
  exact ⟨o, E, rfl, HC.out, HA.out, HB.out⟩

end Go.Proofs.YtalhfciiflcfbaaGreatDoor
