/-
  What the document's Check and Has answer (out of RgRefC, RgRefH, for seats without the sets' own functions).
-/
import Derived.Test.YtohoieleakieeaaGreatDoorGl6
import Derived.Test.YtohoieleakieeaaGreatDoorGlLgTool
import Derived.Test.YtohoieleakieeaaGreatDoorGl23
namespace Go.Proofs.YtohoieleakieeaaGreatDoor
open Go Go.RowKit Go.Shelf

set_option maxRecDepth 20000 in
set_option maxHeartbeats 1000000 in
theorem ref_may8 (x y : Nat) (w : World) :
    Calls Tryz.prog 95 #[.agg #[.int .u64 (x : Int), .int .u64 (y : Int)]] w fun e w' => e = .returned (.bool (decide (x ≤ y) && decide (y ≤ 4611686018427387903))) ∧ Below w.heap.size w w' := by
  have r0 : Row (w.alloc (.cells #[.int .u64 (x : Int), .int .u64 (y : Int)] 63)) w.heap.size 63 #[.int .u64 (x : Int), .int .u64 (y : Int)] := Row.new _ _ _
  have c0 := r0.cell 0
  have c1 := r0.cell 1
  have HB := veil (show Below w.heap.size w (w.alloc (.cells #[.int .u64 (x : Int), .int .u64 (y : Int)] 63)) from (Below.refl _ w).alloc (Nat.le_refl _) _)
  clear r0
  by_cases h1 : x ≤ y
  · have f1 : decide ((x : Int) ≤ (y : Int)) = true := by simp; omega
    by_cases h2 : y ≤ 4611686018427387903
    · have f2 : decide ((y : Int) ≤ 4611686018427387903) = true := by simp; omega
      rw [decide_eq_true h1, decide_eq_true h2]
      clear h1 h2
      generalize (x : Int) = p at *
      generalize (y : Int) = q at *
      go_enter Tryz.func95, Tryz.ntmps95
      go_wp2
      go_ret
      exact ⟨rfl, HB.out⟩
    · have f2 : decide ((y : Int) ≤ 4611686018427387903) = false := by simp; omega
      rw [decide_eq_true h1, decide_eq_false h2]
      clear h1 h2
      generalize (x : Int) = p at *
      generalize (y : Int) = q at *
      go_enter Tryz.func95, Tryz.ntmps95
      go_wp2
      go_ret
      exact ⟨rfl, HB.out⟩
  · have f1 : decide ((x : Int) ≤ (y : Int)) = false := by simp; omega
    rw [decide_eq_false h1]
    clear h1
    generalize (x : Int) = p at *
    generalize (y : Int) = q at *
    go_enter Tryz.func95, Tryz.ntmps95
    go_wp2
    go_ret
    exact ⟨rfl, HB.out⟩

def depC8 : Nat → List Nat
  | 2 => [0, 1]
  | 3 => [2]
  | 4 => [3]
  | 5 => [4]
  | 6 => [5]
  | 7 => [6]
  | 8 => [6, 7]
  | 9 => [6, 8]
  | 10 => [9]
  | 11 => [9]
  | 12 => [9, 10, 11]
  | 13 => [9, 12]
  | 14 => [9, 13]
  | 15 => [9]
  | 16 => [9]
  | 17 => [9, 16]
  | 18 => [9, 15, 17]
  | 19 => [9, 18]
  | 20 => [9, 19]
  | 21 => [9, 20]
  | 22 => [9, 14, 21]
  | 23 => [6, 9, 22]
  | 24 => [6, 23]
  | _ => []
def valCA (g off len cap k y z : Nat) : Nat → Value
  | 0 => .slice (some ⟨g, off, none⟩) len cap
  | 1 => .int .i64 (k : Int)
  | 2 => .pointer (some ⟨g, off + k * 2, none⟩)
  | 3 => .agg #[.int .u64 (y : Int), .int .u64 (z : Int)]
  | 4 => .bool false
  | 5 => .bool true
  | 6 => .bool true
  | 7 => undef
  | 8 => undef
  | 9 => undef
  | 10 => undef
  | 11 => undef
  | 12 => undef
  | 13 => undef
  | 14 => undef
  | 15 => undef
  | 16 => undef
  | 17 => undef
  | 18 => undef
  | 19 => undef
  | 20 => undef
  | 21 => undef
  | 22 => undef
  | 23 => undef
  | _ => .bool true
def valCB (g off len cap k y z : Nat) : Nat → Value
  | 0 => .slice (some ⟨g, off, none⟩) len cap
  | 1 => .int .i64 (k : Int)
  | 2 => .pointer (some ⟨g, off + k * 2, none⟩)
  | 3 => .agg #[.int .u64 (y : Int), .int .u64 (z : Int)]
  | 4 => .bool true
  | 5 => .bool false
  | 6 => .bool false
  | 7 => .int .i64 (k : Int)
  | 8 => .bool false
  | 9 => .bool false
  | 10 => undef
  | 11 => undef
  | 12 => undef
  | 13 => undef
  | 14 => undef
  | 15 => undef
  | 16 => undef
  | 17 => undef
  | 18 => undef
  | 19 => undef
  | 20 => undef
  | 21 => undef
  | 22 => undef
  | 23 => .bool false
  | _ => .bool false
def valCC (g off len cap k y z : Nat) (p : Nat) (lq : Bool) : Nat → Value
  | 0 => .slice (some ⟨g, off, none⟩) len cap
  | 1 => .int .i64 (k : Int)
  | 2 => .pointer (some ⟨g, off + k * 2, none⟩)
  | 3 => .agg #[.int .u64 (y : Int), .int .u64 (z : Int)]
  | 4 => .bool true
  | 5 => .bool false
  | 6 => .bool false
  | 7 => .int .i64 (k : Int)
  | 8 => .bool true
  | 9 => .bool true
  | 10 => .slice (some ⟨g, off, none⟩) len cap
  | 11 => .int .i64 (k : Int)
  | 12 => .pointer (some ⟨g, off + k * 2, none⟩)
  | 13 => .pointer (some ⟨g, off + k * 2, none⟩)
  | 14 => .int .u64 (y : Int)
  | 15 => .slice (some ⟨g, off, none⟩) len cap
  | 16 => .int .i64 (k : Int)
  | 17 => .int .i64 ((k - 1 : Nat) : Int)
  | 18 => .pointer (some ⟨g, off + (k - 1) * 2, none⟩)
  | 19 => .pointer (some ⟨g, off + (k - 1) * 2 + 1, none⟩)
  | 20 => .int .u64 (p : Int)
  | 21 => .int .u64 ((p + 1 : Nat) : Int)
  | 22 => .bool lq
  | 23 => .bool lq
  | _ => .bool lq

set_option maxRecDepth 20000 in
set_option maxHeartbeats 4000000 in
theorem ref_check8 (s : RL) (w : World) (hs : s.Ok w) :
    Calls Tryz.prog 34 #[.slice s.a s.len s.cap] w fun e w' => (e = .returned (.bool true) ∧ Rg.setOk s.l ∨ e = .returned (.bool false) ∧ ¬ Rg.setOk s.l) ∧ Below w.heap.size w w' := by
  obtain ⟨a, len, cap, g, off, l⟩ := s
  have hll : l.length = len := hs.hb
  by_cases h64 : 64 < len
  · have e64 : decide ((len : Int) > 64) = true := by simp; omega
    have e64' : decide ((64 : Int) < (len : Int)) = true := by simp; omega
    have e64n : decide (64 < len) = true := by simp; omega
    have HH := veil (show ¬ Rg.setOk l from fun h => by have := h.1; omega)
    clear hs hll h64
    go_enter Tryz.func34, Tryz.ntmps34
    go_wp2_with fail
    go_ret
    exact ⟨.inr ⟨rfl, HH.out⟩, Below.refl _ _⟩
  have e64 : decide ((64 : Int) < (len : Int)) = false := by simp; omega
  have e64n : decide (64 < len) = false := by simp; omega
  have HP := veil hs
  have HL := veil hll
  have hl64 : len ≤ 64 := by omega
  clear hs hll h64
  refine (callsIn_wide (n := 4)).1 ?_
  refine callsIn_of_wp Tryz.func34 rfl trivial ?_ rfl
  simp only [Tryz.ntmps34, List.size_toArray, List.length_cons, List.length_nil, Nat.reduceAdd, Nat.reduceSub, Array.replicate_succ, Array.replicate_zero, List.push_toArray, List.append_toArray, List.nil_append, List.cons_append]
  gi_wp2_with fail
  gi_loopw [3] (fun i wr => ∃ k : Nat, k ≤ len ∧ i = .int .i64 k ∧ setTo l k ∧ Below w.heap.size w wr)
    (fun i _ => len - (intOf i).toNat)
  case atStart => exact ⟨0, Nat.zero_le _, rfl, fun j hj => absurd hj (Nat.not_lt_zero _), Below.refl _ _⟩
  case round =>
    obtain ⟨k, hk, rfl, hto, hbel⟩ := hrel
    have HB := veil hbel
    have HTO := veil hto
    clear hto hbel
    by_cases hlt : k < len
    · have hdk : decide ((k : Int) < (len : Int)) = true := by simp; omega
      have hdkn : decide (k < len) = true := by simp; omega
      have e1 : a = some ⟨g, off, none⟩ := HP.out.at_ (show 0 < len by omega)
      subst e1
      obtain ⟨y, hy⟩ : ∃ y, y = (gr l k).1 := ⟨_, rfl⟩
      obtain ⟨z, hz⟩ : ∃ z, z = (gr l k).2 := ⟨_, rfl⟩
      have HY := veil hy
      have HZ := veil hz
      have sm := HP.out.small k
      simp only at sm
      rw [← hy, ← hz] at sm
      have HNO := veil (setOk_no (l := l) (k := k) (by have := HL.out; omega))
      rw [← hy, ← hz] at HNO
      clear hy hz
      gi_wp2_with fail
      cases hmb : (decide (y ≤ z) && decide (z ≤ 4611686018427387903))
      · have HMB := veil hmb
        have HH := veil (HNO.out fun h => by rw [decide_eq_true h.1, decide_eq_true h.2.1] at hmb; cases hmb)
        clear hmb
        refine wpIn_region_any (by kernel_rfl) ?_
        refine anyIn_vals2 (w0 := wr) (valCA g off len cap k y z) [13, 14, 15, 16, 17, 18, 19, 20, 21, 22, 23, 24, 25, 26, 27, 28, 29, 30, 31, 32, 33, 34, 35, 36, 37] depC8 (by kernel_rfl) rfl (by decide) ((Below.refl _ _).drew) ?step3 ?done3
        case step3 =>
          intro x W ii d hW hdi hdep
          have bW := HB.out.trans (hW.mono HB.out.size)
          have hcc := (HP.out.below bW).cell k hlt
          simp only at hcc
          rw [← HY.out, ← HZ.out] at hcc
          have hrg : W.rangeAt g (off + k * 2) (#[.int .u64 (y : Int), .int .u64 (z : Int)] : Array Value).toList := by
            intro q v hv
            match q, hv with
            | 0, hv => rw [← Option.some.inj hv]; exact hcc.1
            | 1, hv => rw [← Option.some.inj hv]; exact hcc.2
            | _ + 2, hv => simp at hv
          have hc1 := hcc.1
          match ii, hdi, hdep with
          | 0, hdi, _ =>
            obtain rfl := Option.some.inj hdi
            exact OI_value rfl rfl (about_none (by intro c h; cases h)) (by intro c h; cases h) (.slice (some ⟨g, off, none⟩) len cap) W (by kernel_rfl) ⟨rfl, Below.refl _ _⟩
          | 1, hdi, _ =>
            obtain rfl := Option.some.inj hdi
            exact OI_value rfl rfl (about_none (by intro c h; cases h)) (by intro c h; cases h) (.int .i64 (k : Int)) W (by kernel_rfl) ⟨rfl, Below.refl _ _⟩
          | 2, hdi, hdep =>
            obtain rfl := Option.some.inj hdi
            rw [updV_self (hdep 0 (by simp [depC8])), updV_self (show updV x 0 _ 1 = _ from hdep 1 (by simp [depC8]))]
            exact OI_value rfl rfl (about_none (by intro c h; cases h)) (by intro c h; cases h) (.pointer (some ⟨g, off + k * 2, none⟩)) W (run_atR 24 63 2 _ _ g off len cap k rfl (by kernel_rfl) (by kernel_rfl) Tryz.underlying24 (by kernel_rfl) hlt W) ⟨rfl, Below.refl _ _⟩
          | 3, hdi, hdep =>
            obtain rfl := Option.some.inj hdi
            rw [updV_self (hdep 2 (by simp [depC8]))]
            exact OI_value rfl rfl (about_none (by intro c h; cases h)) (by intro c h; cases h) (.agg #[.int .u64 (y : Int), .int .u64 (z : Int)]) W (run_midR 63 _ g (off + k * 2) #[.int .u64 (y : Int), .int .u64 (z : Int)] _ rfl (by kernel_rfl) Tryz.underlying63 rfl (by kernel_rfl) W hrg) ⟨rfl, Below.refl _ _⟩
          | 4, hdi, hdep =>
            obtain rfl := Option.some.inj hdi
            rw [updV_self (hdep 3 (by simp [depC8]))]
            refine OI_call rfl rfl (by intro c h; cases h) 95 #[.agg #[.int .u64 (y : Int), .int .u64 (z : Int)]] (fun _ _ => trivial) (by kernel_rfl) (by decide) ?_
            have T := ref_may8 y z W
            rw [HMB.out] at T
            refine (callsIn_wide.2 T).mono ?_
            rintro e w' ⟨rfl, hb'⟩
            exact ⟨_, rfl, rfl, hb'⟩
          | 5, hdi, hdep =>
            obtain rfl := Option.some.inj hdi
            rw [updV_self (hdep 4 (by simp [depC8]))]
            exact OI_value rfl rfl (about_none (by intro c h; cases h)) (by intro c h; cases h) (.bool true) W (by kernel_rfl) ⟨rfl, Below.refl _ _⟩
          | 6, hdi, hdep =>
            obtain rfl := Option.some.inj hdi
            rw [updV_self (hdep 5 (by simp [depC8]))]
            exact OI_value rfl rfl (about_none (by intro c h; cases h)) (by intro c h; cases h) (.bool true) W (by kernel_rfl) ⟨rfl, Below.refl _ _⟩
          | 7, hdi, hdep =>
            obtain rfl := Option.some.inj hdi
            rw [updV_self (hdep 6 (by simp [depC8]))]
            with_reducible refine OI_off2 ?_ ?_ ?_ ?_
            · decide
            · kernel_rfl
            · exact fun _ _ => trivial
            · exact ⟨rfl, Below.refl _ _⟩
          | 8, hdi, hdep =>
            obtain rfl := Option.some.inj hdi
            rw [updV_self (hdep 6 (by simp [depC8])), updV_self (show updV x 6 _ 7 = _ from hdep 7 (by simp [depC8]))]
            with_reducible refine OI_off2 ?_ ?_ ?_ ?_
            · decide
            · kernel_rfl
            · exact fun _ _ => trivial
            · exact ⟨rfl, Below.refl _ _⟩
          | 9, hdi, hdep =>
            obtain rfl := Option.some.inj hdi
            rw [updV_self (hdep 6 (by simp [depC8])), updV_self (show updV x 6 _ 8 = _ from hdep 8 (by simp [depC8]))]
            with_reducible refine OI_off2 ?_ ?_ ?_ ?_
            · decide
            · kernel_rfl
            · exact fun _ _ => trivial
            · exact ⟨rfl, Below.refl _ _⟩
          | 10, hdi, hdep =>
            obtain rfl := Option.some.inj hdi
            rw [updV_self (hdep 9 (by simp [depC8]))]
            with_reducible refine OI_off2 ?_ ?_ ?_ ?_
            · decide
            · kernel_rfl
            · exact fun _ _ => trivial
            · exact ⟨rfl, Below.refl _ _⟩
          | 11, hdi, hdep =>
            obtain rfl := Option.some.inj hdi
            rw [updV_self (hdep 9 (by simp [depC8]))]
            with_reducible refine OI_off2 ?_ ?_ ?_ ?_
            · decide
            · kernel_rfl
            · exact fun _ _ => trivial
            · exact ⟨rfl, Below.refl _ _⟩
          | 12, hdi, hdep =>
            obtain rfl := Option.some.inj hdi
            rw [updV_self (hdep 9 (by simp [depC8])), updV_self (show updV x 9 _ 10 = _ from hdep 10 (by simp [depC8])), updV_self (show updV (updV x 9 _) 10 _ 11 = _ from hdep 11 (by simp [depC8]))]
            with_reducible refine OI_off2 ?_ ?_ ?_ ?_
            · decide
            · kernel_rfl
            · exact fun _ _ => trivial
            · exact ⟨rfl, Below.refl _ _⟩
          | 13, hdi, hdep =>
            obtain rfl := Option.some.inj hdi
            rw [updV_self (hdep 9 (by simp [depC8])), updV_self (show updV x 9 _ 12 = _ from hdep 12 (by simp [depC8]))]
            with_reducible refine OI_off2 ?_ ?_ ?_ ?_
            · decide
            · kernel_rfl
            · exact fun _ _ => trivial
            · exact ⟨rfl, Below.refl _ _⟩
          | 14, hdi, hdep =>
            obtain rfl := Option.some.inj hdi
            rw [updV_self (hdep 9 (by simp [depC8])), updV_self (show updV x 9 _ 13 = _ from hdep 13 (by simp [depC8]))]
            with_reducible refine OI_off2 ?_ ?_ ?_ ?_
            · decide
            · kernel_rfl
            · exact fun _ _ => trivial
            · exact ⟨rfl, Below.refl _ _⟩
          | 15, hdi, hdep =>
            obtain rfl := Option.some.inj hdi
            rw [updV_self (hdep 9 (by simp [depC8]))]
            with_reducible refine OI_off2 ?_ ?_ ?_ ?_
            · decide
            · kernel_rfl
            · exact fun _ _ => trivial
            · exact ⟨rfl, Below.refl _ _⟩
          | 16, hdi, hdep =>
            obtain rfl := Option.some.inj hdi
            rw [updV_self (hdep 9 (by simp [depC8]))]
            with_reducible refine OI_off2 ?_ ?_ ?_ ?_
            · decide
            · kernel_rfl
            · exact fun _ _ => trivial
            · exact ⟨rfl, Below.refl _ _⟩
          | 17, hdi, hdep =>
            obtain rfl := Option.some.inj hdi
            rw [updV_self (hdep 9 (by simp [depC8])), updV_self (show updV x 9 _ 16 = _ from hdep 16 (by simp [depC8]))]
            with_reducible refine OI_off2 ?_ ?_ ?_ ?_
            · decide
            · kernel_rfl
            · exact fun _ _ => trivial
            · exact ⟨rfl, Below.refl _ _⟩
          | 18, hdi, hdep =>
            obtain rfl := Option.some.inj hdi
            rw [updV_self (hdep 9 (by simp [depC8])), updV_self (show updV x 9 _ 15 = _ from hdep 15 (by simp [depC8])), updV_self (show updV (updV x 9 _) 15 _ 17 = _ from hdep 17 (by simp [depC8]))]
            with_reducible refine OI_off2 ?_ ?_ ?_ ?_
            · decide
            · kernel_rfl
            · exact fun _ _ => trivial
            · exact ⟨rfl, Below.refl _ _⟩
          | 19, hdi, hdep =>
            obtain rfl := Option.some.inj hdi
            rw [updV_self (hdep 9 (by simp [depC8])), updV_self (show updV x 9 _ 18 = _ from hdep 18 (by simp [depC8]))]
            with_reducible refine OI_off2 ?_ ?_ ?_ ?_
            · decide
            · kernel_rfl
            · exact fun _ _ => trivial
            · exact ⟨rfl, Below.refl _ _⟩
          | 20, hdi, hdep =>
            obtain rfl := Option.some.inj hdi
            rw [updV_self (hdep 9 (by simp [depC8])), updV_self (show updV x 9 _ 19 = _ from hdep 19 (by simp [depC8]))]
            with_reducible refine OI_off2 ?_ ?_ ?_ ?_
            · decide
            · kernel_rfl
            · exact fun _ _ => trivial
            · exact ⟨rfl, Below.refl _ _⟩
          | 21, hdi, hdep =>
            obtain rfl := Option.some.inj hdi
            rw [updV_self (hdep 9 (by simp [depC8])), updV_self (show updV x 9 _ 20 = _ from hdep 20 (by simp [depC8]))]
            with_reducible refine OI_off2 ?_ ?_ ?_ ?_
            · decide
            · kernel_rfl
            · exact fun _ _ => trivial
            · exact ⟨rfl, Below.refl _ _⟩
          | 22, hdi, hdep =>
            obtain rfl := Option.some.inj hdi
            rw [updV_self (hdep 9 (by simp [depC8])), updV_self (show updV x 9 _ 14 = _ from hdep 14 (by simp [depC8])), updV_self (show updV (updV x 9 _) 14 _ 21 = _ from hdep 21 (by simp [depC8]))]
            with_reducible refine OI_off2 ?_ ?_ ?_ ?_
            · decide
            · kernel_rfl
            · exact fun _ _ => trivial
            · exact ⟨rfl, Below.refl _ _⟩
          | 23, hdi, hdep =>
            obtain rfl := Option.some.inj hdi
            rw [updV_self (hdep 6 (by simp [depC8])), updV_self (show updV x 6 _ 9 = _ from hdep 9 (by simp [depC8])), updV_self (show updV (updV x 6 _) 9 _ 22 = _ from hdep 22 (by simp [depC8]))]
            with_reducible refine OI_off2 ?_ ?_ ?_ ?_
            · decide
            · kernel_rfl
            · exact fun _ _ => trivial
            · exact ⟨rfl, Below.refl _ _⟩
          | 24, hdi, hdep =>
            obtain rfl := Option.some.inj hdi
            rw [updV_self (hdep 6 (by simp [depC8])), updV_self (show updV x 6 _ 23 = _ from hdep 23 (by simp [depC8]))]
            exact OI_value rfl rfl (about_none (by intro c h; cases h)) (by intro c h; cases h) (.bool true) W (by kernel_rfl) ⟨rfl, Below.refl _ _⟩
          | _ + 25, hdi, _ => simp at hdi
        case done3 =>
          intro W hW
          have HBW := veil (HB.out.trans (hW.mono HB.out.size))
          simp only [putsV, valCA, Act.put, List.setIfInBounds_toArray, List.set_cons_succ, List.set_cons_zero, Nat.reduceAdd]
          gi_wp2_with fail
          go_ret
          exact ⟨.inr ⟨rfl, HH.out⟩, HBW.out⟩
      · have HMB := veil hmb
        simp only [Bool.and_eq_true, decide_eq_true_eq] at hmb
        by_cases hk0 : k = 0
        · have HS := veil (setTo_succ HTO.out (by rw [← HY.out, ← HZ.out]; exact hmb.1) (by rw [← HZ.out]; exact hmb.2) (fun h => by omega))
          clear hmb
          refine wpIn_region_any (by kernel_rfl) ?_
          refine anyIn_vals2 (w0 := wr) (valCB g off len cap k y z) [13, 14, 15, 16, 17, 18, 19, 20, 21, 22, 23, 24, 25, 26, 27, 28, 29, 30, 31, 32, 33, 34, 35, 36, 37] depC8 (by kernel_rfl) rfl (by decide) ((Below.refl _ _).drew) ?step3 ?done3
          case step3 =>
            intro x W ii d hW hdi hdep
            have bW := HB.out.trans (hW.mono HB.out.size)
            have hcc := (HP.out.below bW).cell k hlt
            simp only at hcc
            rw [← HY.out, ← HZ.out] at hcc
            have hrg : W.rangeAt g (off + k * 2) (#[.int .u64 (y : Int), .int .u64 (z : Int)] : Array Value).toList := by
              intro q v hv
              match q, hv with
              | 0, hv => rw [← Option.some.inj hv]; exact hcc.1
              | 1, hv => rw [← Option.some.inj hv]; exact hcc.2
              | _ + 2, hv => simp at hv
            have hc1 := hcc.1
            match ii, hdi, hdep with
            | 0, hdi, _ =>
              obtain rfl := Option.some.inj hdi
              exact OI_value rfl rfl (about_none (by intro c h; cases h)) (by intro c h; cases h) (.slice (some ⟨g, off, none⟩) len cap) W (by kernel_rfl) ⟨rfl, Below.refl _ _⟩
            | 1, hdi, _ =>
              obtain rfl := Option.some.inj hdi
              exact OI_value rfl rfl (about_none (by intro c h; cases h)) (by intro c h; cases h) (.int .i64 (k : Int)) W (by kernel_rfl) ⟨rfl, Below.refl _ _⟩
            | 2, hdi, hdep =>
              obtain rfl := Option.some.inj hdi
              rw [updV_self (hdep 0 (by simp [depC8])), updV_self (show updV x 0 _ 1 = _ from hdep 1 (by simp [depC8]))]
              exact OI_value rfl rfl (about_none (by intro c h; cases h)) (by intro c h; cases h) (.pointer (some ⟨g, off + k * 2, none⟩)) W (run_atR 24 63 2 _ _ g off len cap k rfl (by kernel_rfl) (by kernel_rfl) Tryz.underlying24 (by kernel_rfl) hlt W) ⟨rfl, Below.refl _ _⟩
            | 3, hdi, hdep =>
              obtain rfl := Option.some.inj hdi
              rw [updV_self (hdep 2 (by simp [depC8]))]
              exact OI_value rfl rfl (about_none (by intro c h; cases h)) (by intro c h; cases h) (.agg #[.int .u64 (y : Int), .int .u64 (z : Int)]) W (run_midR 63 _ g (off + k * 2) #[.int .u64 (y : Int), .int .u64 (z : Int)] _ rfl (by kernel_rfl) Tryz.underlying63 rfl (by kernel_rfl) W hrg) ⟨rfl, Below.refl _ _⟩
            | 4, hdi, hdep =>
              obtain rfl := Option.some.inj hdi
              rw [updV_self (hdep 3 (by simp [depC8]))]
              refine OI_call rfl rfl (by intro c h; cases h) 95 #[.agg #[.int .u64 (y : Int), .int .u64 (z : Int)]] (fun _ _ => trivial) (by kernel_rfl) (by decide) ?_
              have T := ref_may8 y z W
              rw [HMB.out] at T
              refine (callsIn_wide.2 T).mono ?_
              rintro e w' ⟨rfl, hb'⟩
              exact ⟨_, rfl, rfl, hb'⟩
            | 5, hdi, hdep =>
              obtain rfl := Option.some.inj hdi
              rw [updV_self (hdep 4 (by simp [depC8]))]
              exact OI_value rfl rfl (about_none (by intro c h; cases h)) (by intro c h; cases h) (.bool false) W (by kernel_rfl) ⟨rfl, Below.refl _ _⟩
            | 6, hdi, hdep =>
              obtain rfl := Option.some.inj hdi
              rw [updV_self (hdep 5 (by simp [depC8]))]
              exact OI_value rfl rfl (about_none (by intro c h; cases h)) (by intro c h; cases h) (.bool false) W (by kernel_rfl) ⟨rfl, Below.refl _ _⟩
            | 7, hdi, hdep =>
              obtain rfl := Option.some.inj hdi
              rw [updV_self (hdep 6 (by simp [depC8]))]
              with_reducible refine OI_value2 ?_ ?_ ?_ ?_ (.int .i64 (k : Int)) W ?_ ?_
              · decide
              · kernel_rfl
              · exact about_none (by intro c h; cases h)
              · intro c h; cases h
              · kernel_rfl
              · exact ⟨rfl, Below.refl _ _⟩
            | 8, hdi, hdep =>
              obtain rfl := Option.some.inj hdi
              rw [updV_self (hdep 6 (by simp [depC8])), updV_self (show updV x 6 _ 7 = _ from hdep 7 (by simp [depC8]))]
              with_reducible refine OI_value2 ?_ ?_ ?_ ?_ (.bool false) W ?_ ?_
              · decide
              · kernel_rfl
              · exact about_none (by intro c h; cases h)
              · intro c h; cases h
              · exact run_gtrI 3 3 _ _ k 0 false (by rw [hk0]; rfl) rfl (by kernel_rfl) (by kernel_rfl) W
              · exact ⟨rfl, Below.refl _ _⟩
            | 9, hdi, hdep =>
              obtain rfl := Option.some.inj hdi
              rw [updV_self (hdep 6 (by simp [depC8])), updV_self (show updV x 6 _ 8 = _ from hdep 8 (by simp [depC8]))]
              with_reducible refine OI_value2 ?_ ?_ ?_ ?_ (.bool false) W ?_ ?_
              · decide
              · kernel_rfl
              · exact about_none (by intro c h; cases h)
              · intro c h; cases h
              · kernel_rfl
              · exact ⟨rfl, Below.refl _ _⟩
            | 10, hdi, hdep =>
              obtain rfl := Option.some.inj hdi
              rw [updV_self (hdep 9 (by simp [depC8]))]
              with_reducible refine OI_off2 ?_ ?_ ?_ ?_
              · decide
              · kernel_rfl
              · exact fun _ _ => trivial
              · exact ⟨rfl, Below.refl _ _⟩
            | 11, hdi, hdep =>
              obtain rfl := Option.some.inj hdi
              rw [updV_self (hdep 9 (by simp [depC8]))]
              with_reducible refine OI_off2 ?_ ?_ ?_ ?_
              · decide
              · kernel_rfl
              · exact fun _ _ => trivial
              · exact ⟨rfl, Below.refl _ _⟩
            | 12, hdi, hdep =>
              obtain rfl := Option.some.inj hdi
              rw [updV_self (hdep 9 (by simp [depC8])), updV_self (show updV x 9 _ 10 = _ from hdep 10 (by simp [depC8])), updV_self (show updV (updV x 9 _) 10 _ 11 = _ from hdep 11 (by simp [depC8]))]
              with_reducible refine OI_off2 ?_ ?_ ?_ ?_
              · decide
              · kernel_rfl
              · exact fun _ _ => trivial
              · exact ⟨rfl, Below.refl _ _⟩
            | 13, hdi, hdep =>
              obtain rfl := Option.some.inj hdi
              rw [updV_self (hdep 9 (by simp [depC8])), updV_self (show updV x 9 _ 12 = _ from hdep 12 (by simp [depC8]))]
              with_reducible refine OI_off2 ?_ ?_ ?_ ?_
              · decide
              · kernel_rfl
              · exact fun _ _ => trivial
              · exact ⟨rfl, Below.refl _ _⟩
            | 14, hdi, hdep =>
              obtain rfl := Option.some.inj hdi
              rw [updV_self (hdep 9 (by simp [depC8])), updV_self (show updV x 9 _ 13 = _ from hdep 13 (by simp [depC8]))]
              with_reducible refine OI_off2 ?_ ?_ ?_ ?_
              · decide
              · kernel_rfl
              · exact fun _ _ => trivial
              · exact ⟨rfl, Below.refl _ _⟩
            | 15, hdi, hdep =>
              obtain rfl := Option.some.inj hdi
              rw [updV_self (hdep 9 (by simp [depC8]))]
              with_reducible refine OI_off2 ?_ ?_ ?_ ?_
              · decide
              · kernel_rfl
              · exact fun _ _ => trivial
              · exact ⟨rfl, Below.refl _ _⟩
            | 16, hdi, hdep =>
              obtain rfl := Option.some.inj hdi
              rw [updV_self (hdep 9 (by simp [depC8]))]
              with_reducible refine OI_off2 ?_ ?_ ?_ ?_
              · decide
              · kernel_rfl
              · exact fun _ _ => trivial
              · exact ⟨rfl, Below.refl _ _⟩
            | 17, hdi, hdep =>
              obtain rfl := Option.some.inj hdi
              rw [updV_self (hdep 9 (by simp [depC8])), updV_self (show updV x 9 _ 16 = _ from hdep 16 (by simp [depC8]))]
              with_reducible refine OI_off2 ?_ ?_ ?_ ?_
              · decide
              · kernel_rfl
              · exact fun _ _ => trivial
              · exact ⟨rfl, Below.refl _ _⟩
            | 18, hdi, hdep =>
              obtain rfl := Option.some.inj hdi
              rw [updV_self (hdep 9 (by simp [depC8])), updV_self (show updV x 9 _ 15 = _ from hdep 15 (by simp [depC8])), updV_self (show updV (updV x 9 _) 15 _ 17 = _ from hdep 17 (by simp [depC8]))]
              with_reducible refine OI_off2 ?_ ?_ ?_ ?_
              · decide
              · kernel_rfl
              · exact fun _ _ => trivial
              · exact ⟨rfl, Below.refl _ _⟩
            | 19, hdi, hdep =>
              obtain rfl := Option.some.inj hdi
              rw [updV_self (hdep 9 (by simp [depC8])), updV_self (show updV x 9 _ 18 = _ from hdep 18 (by simp [depC8]))]
              with_reducible refine OI_off2 ?_ ?_ ?_ ?_
              · decide
              · kernel_rfl
              · exact fun _ _ => trivial
              · exact ⟨rfl, Below.refl _ _⟩
            | 20, hdi, hdep =>
              obtain rfl := Option.some.inj hdi
              rw [updV_self (hdep 9 (by simp [depC8])), updV_self (show updV x 9 _ 19 = _ from hdep 19 (by simp [depC8]))]
              with_reducible refine OI_off2 ?_ ?_ ?_ ?_
              · decide
              · kernel_rfl
              · exact fun _ _ => trivial
              · exact ⟨rfl, Below.refl _ _⟩
            | 21, hdi, hdep =>
              obtain rfl := Option.some.inj hdi
              rw [updV_self (hdep 9 (by simp [depC8])), updV_self (show updV x 9 _ 20 = _ from hdep 20 (by simp [depC8]))]
              with_reducible refine OI_off2 ?_ ?_ ?_ ?_
              · decide
              · kernel_rfl
              · exact fun _ _ => trivial
              · exact ⟨rfl, Below.refl _ _⟩
            | 22, hdi, hdep =>
              obtain rfl := Option.some.inj hdi
              rw [updV_self (hdep 9 (by simp [depC8])), updV_self (show updV x 9 _ 14 = _ from hdep 14 (by simp [depC8])), updV_self (show updV (updV x 9 _) 14 _ 21 = _ from hdep 21 (by simp [depC8]))]
              with_reducible refine OI_off2 ?_ ?_ ?_ ?_
              · decide
              · kernel_rfl
              · exact fun _ _ => trivial
              · exact ⟨rfl, Below.refl _ _⟩
            | 23, hdi, hdep =>
              obtain rfl := Option.some.inj hdi
              rw [updV_self (hdep 6 (by simp [depC8])), updV_self (show updV x 6 _ 9 = _ from hdep 9 (by simp [depC8])), updV_self (show updV (updV x 6 _) 9 _ 22 = _ from hdep 22 (by simp [depC8]))]
              with_reducible refine OI_value2 ?_ ?_ ?_ ?_ (.bool false) W ?_ ?_
              · decide
              · kernel_rfl
              · exact about_none (by intro c h; cases h)
              · intro c h; cases h
              · kernel_rfl
              · exact ⟨rfl, Below.refl _ _⟩
            | 24, hdi, hdep =>
              obtain rfl := Option.some.inj hdi
              rw [updV_self (hdep 6 (by simp [depC8])), updV_self (show updV x 6 _ 23 = _ from hdep 23 (by simp [depC8]))]
              exact OI_value rfl rfl (about_none (by intro c h; cases h)) (by intro c h; cases h) (.bool false) W (by kernel_rfl) ⟨rfl, Below.refl _ _⟩
            | _ + 25, hdi, _ => simp at hdi
          case done3 =>
            intro W hW
            have HBW := veil (HB.out.trans (hW.mono HB.out.size))
            simp only [putsV, valCB, Act.put, List.setIfInBounds_toArray, List.set_cons_succ, List.set_cons_zero, Nat.reduceAdd]
            gi_wp2_with fail
            go_roundw
            case rel => exact ⟨k + 1, by omega, by go_num, HS.out, HBW.out⟩
            case measure => simp only [intOf]; omega
        · obtain ⟨p, hp⟩ : ∃ p, p = (gr l (k - 1)).2 := ⟨_, rfl⟩
          have HPP := veil hp
          have hpm : p ≤ 4611686018427387903 := by rw [hp]; exact (HTO.out (k - 1) (by omega)).2.1
          rw [← hp] at HNO
          obtain ⟨lq, hlq⟩ : ∃ lq, lq = decide (y ≤ p + 1) := ⟨_, rfl⟩
          have HLQ := veil hlq
          have HKB := veil hk0
          cases lq
          · have hgt := of_decide_eq_false hlq.symm
            have HS := veil (setTo_succ HTO.out (by rw [← HY.out, ← HZ.out]; exact hmb.1) (by rw [← HZ.out]; exact hmb.2) (fun h => by rw [← HPP.out, ← HY.out]; omega))
            clear hmb hgt hlq hp
            refine wpIn_region_any (by kernel_rfl) ?_
            refine anyIn_vals2 (w0 := wr) (valCC g off len cap k y z p false) [13, 14, 15, 16, 17, 18, 19, 20, 21, 22, 23, 24, 25, 26, 27, 28, 29, 30, 31, 32, 33, 34, 35, 36, 37] depC8 (by kernel_rfl) rfl (by decide) ((Below.refl _ _).drew) ?step3 ?done3
            case step3 =>
              intro x W ii d hW hdi hdep
              have bW := HB.out.trans (hW.mono HB.out.size)
              have hcc := (HP.out.below bW).cell k hlt
              simp only at hcc
              rw [← HY.out, ← HZ.out] at hcc
              have hrg : W.rangeAt g (off + k * 2) (#[.int .u64 (y : Int), .int .u64 (z : Int)] : Array Value).toList := by
                intro q v hv
                match q, hv with
                | 0, hv => rw [← Option.some.inj hv]; exact hcc.1
                | 1, hv => rw [← Option.some.inj hv]; exact hcc.2
                | _ + 2, hv => simp at hv
              have hc1 := hcc.1
              have hcd := (HP.out.below bW).cell (k - 1) (show k - 1 < len by omega)
              simp only at hcd
              rw [← HPP.out] at hcd
              have hc2 := hcd.2
              match ii, hdi, hdep with
              | 0, hdi, _ =>
                obtain rfl := Option.some.inj hdi
                exact OI_value rfl rfl (about_none (by intro c h; cases h)) (by intro c h; cases h) (.slice (some ⟨g, off, none⟩) len cap) W (by kernel_rfl) ⟨rfl, Below.refl _ _⟩
              | 1, hdi, _ =>
                obtain rfl := Option.some.inj hdi
                exact OI_value rfl rfl (about_none (by intro c h; cases h)) (by intro c h; cases h) (.int .i64 (k : Int)) W (by kernel_rfl) ⟨rfl, Below.refl _ _⟩
              | 2, hdi, hdep =>
                obtain rfl := Option.some.inj hdi
                rw [updV_self (hdep 0 (by simp [depC8])), updV_self (show updV x 0 _ 1 = _ from hdep 1 (by simp [depC8]))]
                exact OI_value rfl rfl (about_none (by intro c h; cases h)) (by intro c h; cases h) (.pointer (some ⟨g, off + k * 2, none⟩)) W (run_atR 24 63 2 _ _ g off len cap k rfl (by kernel_rfl) (by kernel_rfl) Tryz.underlying24 (by kernel_rfl) hlt W) ⟨rfl, Below.refl _ _⟩
              | 3, hdi, hdep =>
                obtain rfl := Option.some.inj hdi
                rw [updV_self (hdep 2 (by simp [depC8]))]
                exact OI_value rfl rfl (about_none (by intro c h; cases h)) (by intro c h; cases h) (.agg #[.int .u64 (y : Int), .int .u64 (z : Int)]) W (run_midR 63 _ g (off + k * 2) #[.int .u64 (y : Int), .int .u64 (z : Int)] _ rfl (by kernel_rfl) Tryz.underlying63 rfl (by kernel_rfl) W hrg) ⟨rfl, Below.refl _ _⟩
              | 4, hdi, hdep =>
                obtain rfl := Option.some.inj hdi
                rw [updV_self (hdep 3 (by simp [depC8]))]
                refine OI_call rfl rfl (by intro c h; cases h) 95 #[.agg #[.int .u64 (y : Int), .int .u64 (z : Int)]] (fun _ _ => trivial) (by kernel_rfl) (by decide) ?_
                have T := ref_may8 y z W
                rw [HMB.out] at T
                refine (callsIn_wide.2 T).mono ?_
                rintro e w' ⟨rfl, hb'⟩
                exact ⟨_, rfl, rfl, hb'⟩
              | 5, hdi, hdep =>
                obtain rfl := Option.some.inj hdi
                rw [updV_self (hdep 4 (by simp [depC8]))]
                exact OI_value rfl rfl (about_none (by intro c h; cases h)) (by intro c h; cases h) (.bool false) W (by kernel_rfl) ⟨rfl, Below.refl _ _⟩
              | 6, hdi, hdep =>
                obtain rfl := Option.some.inj hdi
                rw [updV_self (hdep 5 (by simp [depC8]))]
                exact OI_value rfl rfl (about_none (by intro c h; cases h)) (by intro c h; cases h) (.bool false) W (by kernel_rfl) ⟨rfl, Below.refl _ _⟩
              | 7, hdi, hdep =>
                obtain rfl := Option.some.inj hdi
                rw [updV_self (hdep 6 (by simp [depC8]))]
                with_reducible refine OI_value2 ?_ ?_ ?_ ?_ (.int .i64 (k : Int)) W ?_ ?_
                · decide
                · kernel_rfl
                · exact about_none (by intro c h; cases h)
                · intro c h; cases h
                · kernel_rfl
                · exact ⟨rfl, Below.refl _ _⟩
              | 8, hdi, hdep =>
                obtain rfl := Option.some.inj hdi
                rw [updV_self (hdep 6 (by simp [depC8])), updV_self (show updV x 6 _ 7 = _ from hdep 7 (by simp [depC8]))]
                with_reducible refine OI_value2 ?_ ?_ ?_ ?_ (.bool true) W ?_ ?_
                · decide
                · kernel_rfl
                · exact about_none (by intro c h; cases h)
                · intro c h; cases h
                · exact run_gtrI 3 3 _ _ k 0 true (by simp; omega) rfl (by kernel_rfl) (by kernel_rfl) W
                · exact ⟨rfl, Below.refl _ _⟩
              | 9, hdi, hdep =>
                obtain rfl := Option.some.inj hdi
                rw [updV_self (hdep 6 (by simp [depC8])), updV_self (show updV x 6 _ 8 = _ from hdep 8 (by simp [depC8]))]
                with_reducible refine OI_value2 ?_ ?_ ?_ ?_ (.bool true) W ?_ ?_
                · decide
                · kernel_rfl
                · exact about_none (by intro c h; cases h)
                · intro c h; cases h
                · kernel_rfl
                · exact ⟨rfl, Below.refl _ _⟩
              | 10, hdi, hdep =>
                obtain rfl := Option.some.inj hdi
                rw [updV_self (hdep 9 (by simp [depC8]))]
                with_reducible refine OI_value2 ?_ ?_ ?_ ?_ (.slice (some ⟨g, off, none⟩) len cap) W ?_ ?_
                · decide
                · kernel_rfl
                · exact about_none (by intro c h; cases h)
                · intro c h; cases h
                · kernel_rfl
                · exact ⟨rfl, Below.refl _ _⟩
              | 11, hdi, hdep =>
                obtain rfl := Option.some.inj hdi
                rw [updV_self (hdep 9 (by simp [depC8]))]
                with_reducible refine OI_value2 ?_ ?_ ?_ ?_ (.int .i64 (k : Int)) W ?_ ?_
                · decide
                · kernel_rfl
                · exact about_none (by intro c h; cases h)
                · intro c h; cases h
                · kernel_rfl
                · exact ⟨rfl, Below.refl _ _⟩
              | 12, hdi, hdep =>
                obtain rfl := Option.some.inj hdi
                rw [updV_self (hdep 9 (by simp [depC8])), updV_self (show updV x 9 _ 10 = _ from hdep 10 (by simp [depC8])), updV_self (show updV (updV x 9 _) 10 _ 11 = _ from hdep 11 (by simp [depC8]))]
                with_reducible refine OI_value2 ?_ ?_ ?_ ?_ (.pointer (some ⟨g, off + k * 2, none⟩)) W ?_ ?_
                · decide
                · kernel_rfl
                · exact about_none (by intro c h; cases h)
                · intro c h; cases h
                · exact run_atR 24 63 2 _ _ g off len cap k rfl (by kernel_rfl) (by kernel_rfl) Tryz.underlying24 (by kernel_rfl) hlt W
                · exact ⟨rfl, Below.refl _ _⟩
              | 13, hdi, hdep =>
                obtain rfl := Option.some.inj hdi
                rw [updV_self (hdep 9 (by simp [depC8])), updV_self (show updV x 9 _ 12 = _ from hdep 12 (by simp [depC8]))]
                with_reducible refine OI_value2 ?_ ?_ ?_ ?_ (.pointer (some ⟨g, off + k * 2, none⟩)) W ?_ ?_
                · decide
                · kernel_rfl
                · exact about_none (by intro c h; cases h)
                · intro c h; cases h
                · kernel_rfl
                · exact ⟨rfl, Below.refl _ _⟩
              | 14, hdi, hdep =>
                obtain rfl := Option.some.inj hdi
                rw [updV_self (hdep 9 (by simp [depC8])), updV_self (show updV x 9 _ 13 = _ from hdep 13 (by simp [depC8]))]
                with_reducible refine OI_value2 ?_ ?_ ?_ ?_ (.int .u64 (y : Int)) W ?_ ?_
                · decide
                · kernel_rfl
                · exact about_none (by intro c h; cases h)
                · intro c h; cases h
                · exact lgRun_cell 23 _ ⟨g, off + k * 2, none⟩ _ _ rfl (by kernel_rfl) Tryz.underlying23 rfl W hc1
                · exact ⟨rfl, Below.refl _ _⟩
              | 15, hdi, hdep =>
                obtain rfl := Option.some.inj hdi
                rw [updV_self (hdep 9 (by simp [depC8]))]
                with_reducible refine OI_value2 ?_ ?_ ?_ ?_ (.slice (some ⟨g, off, none⟩) len cap) W ?_ ?_
                · decide
                · kernel_rfl
                · exact about_none (by intro c h; cases h)
                · intro c h; cases h
                · kernel_rfl
                · exact ⟨rfl, Below.refl _ _⟩
              | 16, hdi, hdep =>
                obtain rfl := Option.some.inj hdi
                rw [updV_self (hdep 9 (by simp [depC8]))]
                with_reducible refine OI_value2 ?_ ?_ ?_ ?_ (.int .i64 (k : Int)) W ?_ ?_
                · decide
                · kernel_rfl
                · exact about_none (by intro c h; cases h)
                · intro c h; cases h
                · kernel_rfl
                · exact ⟨rfl, Below.refl _ _⟩
              | 17, hdi, hdep =>
                obtain rfl := Option.some.inj hdi
                rw [updV_self (hdep 9 (by simp [depC8])), updV_self (show updV x 9 _ 16 = _ from hdep 16 (by simp [depC8]))]
                with_reducible refine OI_value2 ?_ ?_ ?_ ?_ (.int .i64 ((k - 1 : Nat) : Int)) W ?_ ?_
                · decide
                · kernel_rfl
                · exact about_none (by intro c h; cases h)
                · intro c h; cases h
                · exact run_subI 3 3 _ _ k 1 (k - 1) (by omega) (by omega) rfl (by kernel_rfl) (by kernel_rfl) W
                · exact ⟨rfl, Below.refl _ _⟩
              | 18, hdi, hdep =>
                obtain rfl := Option.some.inj hdi
                rw [updV_self (hdep 9 (by simp [depC8])), updV_self (show updV x 9 _ 15 = _ from hdep 15 (by simp [depC8])), updV_self (show updV (updV x 9 _) 15 _ 17 = _ from hdep 17 (by simp [depC8]))]
                with_reducible refine OI_value2 ?_ ?_ ?_ ?_ (.pointer (some ⟨g, off + (k - 1) * 2, none⟩)) W ?_ ?_
                · decide
                · kernel_rfl
                · exact about_none (by intro c h; cases h)
                · intro c h; cases h
                · exact run_atR 24 63 2 _ _ g off len cap (k - 1) rfl (by kernel_rfl) (by kernel_rfl) Tryz.underlying24 (by kernel_rfl) (by omega) W
                · exact ⟨rfl, Below.refl _ _⟩
              | 19, hdi, hdep =>
                obtain rfl := Option.some.inj hdi
                rw [updV_self (hdep 9 (by simp [depC8])), updV_self (show updV x 9 _ 18 = _ from hdep 18 (by simp [depC8]))]
                with_reducible refine OI_value2 ?_ ?_ ?_ ?_ (.pointer (some ⟨g, off + (k - 1) * 2 + 1, none⟩)) W ?_ ?_
                · decide
                · kernel_rfl
                · exact about_none (by intro c h; cases h)
                · intro c h; cases h
                · kernel_rfl
                · exact ⟨rfl, Below.refl _ _⟩
              | 20, hdi, hdep =>
                obtain rfl := Option.some.inj hdi
                rw [updV_self (hdep 9 (by simp [depC8])), updV_self (show updV x 9 _ 19 = _ from hdep 19 (by simp [depC8]))]
                with_reducible refine OI_value2 ?_ ?_ ?_ ?_ (.int .u64 (p : Int)) W ?_ ?_
                · decide
                · kernel_rfl
                · exact about_none (by intro c h; cases h)
                · intro c h; cases h
                · exact lgRun_cell 23 _ ⟨g, off + (k - 1) * 2 + 1, none⟩ _ _ rfl (by kernel_rfl) Tryz.underlying23 rfl W hc2
                · exact ⟨rfl, Below.refl _ _⟩
              | 21, hdi, hdep =>
                obtain rfl := Option.some.inj hdi
                rw [updV_self (hdep 9 (by simp [depC8])), updV_self (show updV x 9 _ 20 = _ from hdep 20 (by simp [depC8]))]
                with_reducible refine OI_value2 ?_ ?_ ?_ ?_ (.int .u64 ((p + 1 : Nat) : Int)) W ?_ ?_
                · decide
                · kernel_rfl
                · exact about_none (by intro c h; cases h)
                · intro c h; cases h
                · exact run_addU 23 23 _ _ p 1 (p + 1) rfl (by omega) rfl (by kernel_rfl) (by kernel_rfl) W
                · exact ⟨rfl, Below.refl _ _⟩
              | 22, hdi, hdep =>
                obtain rfl := Option.some.inj hdi
                rw [updV_self (hdep 9 (by simp [depC8])), updV_self (show updV x 9 _ 14 = _ from hdep 14 (by simp [depC8])), updV_self (show updV (updV x 9 _) 14 _ 21 = _ from hdep 21 (by simp [depC8]))]
                with_reducible refine OI_value2 ?_ ?_ ?_ ?_ (.bool false) W ?_ ?_
                · decide
                · kernel_rfl
                · exact about_none (by intro c h; cases h)
                · intro c h; cases h
                · exact run_leqU 23 23 _ _ y (p + 1) false HLQ.out rfl (by kernel_rfl) (by kernel_rfl) W
                · exact ⟨rfl, Below.refl _ _⟩
              | 23, hdi, hdep =>
                obtain rfl := Option.some.inj hdi
                rw [updV_self (hdep 6 (by simp [depC8])), updV_self (show updV x 6 _ 9 = _ from hdep 9 (by simp [depC8])), updV_self (show updV (updV x 6 _) 9 _ 22 = _ from hdep 22 (by simp [depC8]))]
                with_reducible refine OI_value2 ?_ ?_ ?_ ?_ (.bool false) W ?_ ?_
                · decide
                · kernel_rfl
                · exact about_none (by intro c h; cases h)
                · intro c h; cases h
                · kernel_rfl
                · exact ⟨rfl, Below.refl _ _⟩
              | 24, hdi, hdep =>
                obtain rfl := Option.some.inj hdi
                rw [updV_self (hdep 6 (by simp [depC8])), updV_self (show updV x 6 _ 23 = _ from hdep 23 (by simp [depC8]))]
                exact OI_value rfl rfl (about_none (by intro c h; cases h)) (by intro c h; cases h) (.bool false) W (by kernel_rfl) ⟨rfl, Below.refl _ _⟩
              | _ + 25, hdi, _ => simp at hdi
            case done3 =>
              intro W hW
              have HBW := veil (HB.out.trans (hW.mono HB.out.size))
              simp only [putsV, valCC, Act.put, List.setIfInBounds_toArray, List.set_cons_succ, List.set_cons_zero, Nat.reduceAdd]
              gi_wp2_with fail
              go_roundw
              case rel => exact ⟨k + 1, by omega, by go_num, HS.out, HBW.out⟩
              case measure => simp only [intOf]; omega
          · have hle := of_decide_eq_true hlq.symm
            have HH := veil (HNO.out fun h => by have := h.2.2 (by omega); omega)
            clear hmb hle hlq hp
            refine wpIn_region_any (by kernel_rfl) ?_
            refine anyIn_vals2 (w0 := wr) (valCC g off len cap k y z p true) [13, 14, 15, 16, 17, 18, 19, 20, 21, 22, 23, 24, 25, 26, 27, 28, 29, 30, 31, 32, 33, 34, 35, 36, 37] depC8 (by kernel_rfl) rfl (by decide) ((Below.refl _ _).drew) ?step3 ?done3
            case step3 =>
              intro x W ii d hW hdi hdep
              have bW := HB.out.trans (hW.mono HB.out.size)
              have hcc := (HP.out.below bW).cell k hlt
              simp only at hcc
              rw [← HY.out, ← HZ.out] at hcc
              have hrg : W.rangeAt g (off + k * 2) (#[.int .u64 (y : Int), .int .u64 (z : Int)] : Array Value).toList := by
                intro q v hv
                match q, hv with
                | 0, hv => rw [← Option.some.inj hv]; exact hcc.1
                | 1, hv => rw [← Option.some.inj hv]; exact hcc.2
                | _ + 2, hv => simp at hv
              have hc1 := hcc.1
              have hcd := (HP.out.below bW).cell (k - 1) (show k - 1 < len by omega)
              simp only at hcd
              rw [← HPP.out] at hcd
              have hc2 := hcd.2
              match ii, hdi, hdep with
              | 0, hdi, _ =>
                obtain rfl := Option.some.inj hdi
                exact OI_value rfl rfl (about_none (by intro c h; cases h)) (by intro c h; cases h) (.slice (some ⟨g, off, none⟩) len cap) W (by kernel_rfl) ⟨rfl, Below.refl _ _⟩
              | 1, hdi, _ =>
                obtain rfl := Option.some.inj hdi
                exact OI_value rfl rfl (about_none (by intro c h; cases h)) (by intro c h; cases h) (.int .i64 (k : Int)) W (by kernel_rfl) ⟨rfl, Below.refl _ _⟩
              | 2, hdi, hdep =>
                obtain rfl := Option.some.inj hdi
                rw [updV_self (hdep 0 (by simp [depC8])), updV_self (show updV x 0 _ 1 = _ from hdep 1 (by simp [depC8]))]
                exact OI_value rfl rfl (about_none (by intro c h; cases h)) (by intro c h; cases h) (.pointer (some ⟨g, off + k * 2, none⟩)) W (run_atR 24 63 2 _ _ g off len cap k rfl (by kernel_rfl) (by kernel_rfl) Tryz.underlying24 (by kernel_rfl) hlt W) ⟨rfl, Below.refl _ _⟩
              | 3, hdi, hdep =>
                obtain rfl := Option.some.inj hdi
                rw [updV_self (hdep 2 (by simp [depC8]))]
                exact OI_value rfl rfl (about_none (by intro c h; cases h)) (by intro c h; cases h) (.agg #[.int .u64 (y : Int), .int .u64 (z : Int)]) W (run_midR 63 _ g (off + k * 2) #[.int .u64 (y : Int), .int .u64 (z : Int)] _ rfl (by kernel_rfl) Tryz.underlying63 rfl (by kernel_rfl) W hrg) ⟨rfl, Below.refl _ _⟩
              | 4, hdi, hdep =>
                obtain rfl := Option.some.inj hdi
                rw [updV_self (hdep 3 (by simp [depC8]))]
                refine OI_call rfl rfl (by intro c h; cases h) 95 #[.agg #[.int .u64 (y : Int), .int .u64 (z : Int)]] (fun _ _ => trivial) (by kernel_rfl) (by decide) ?_
                have T := ref_may8 y z W
                rw [HMB.out] at T
                refine (callsIn_wide.2 T).mono ?_
                rintro e w' ⟨rfl, hb'⟩
                exact ⟨_, rfl, rfl, hb'⟩
              | 5, hdi, hdep =>
                obtain rfl := Option.some.inj hdi
                rw [updV_self (hdep 4 (by simp [depC8]))]
                exact OI_value rfl rfl (about_none (by intro c h; cases h)) (by intro c h; cases h) (.bool false) W (by kernel_rfl) ⟨rfl, Below.refl _ _⟩
              | 6, hdi, hdep =>
                obtain rfl := Option.some.inj hdi
                rw [updV_self (hdep 5 (by simp [depC8]))]
                exact OI_value rfl rfl (about_none (by intro c h; cases h)) (by intro c h; cases h) (.bool false) W (by kernel_rfl) ⟨rfl, Below.refl _ _⟩
              | 7, hdi, hdep =>
                obtain rfl := Option.some.inj hdi
                rw [updV_self (hdep 6 (by simp [depC8]))]
                with_reducible refine OI_value2 ?_ ?_ ?_ ?_ (.int .i64 (k : Int)) W ?_ ?_
                · decide
                · kernel_rfl
                · exact about_none (by intro c h; cases h)
                · intro c h; cases h
                · kernel_rfl
                · exact ⟨rfl, Below.refl _ _⟩
              | 8, hdi, hdep =>
                obtain rfl := Option.some.inj hdi
                rw [updV_self (hdep 6 (by simp [depC8])), updV_self (show updV x 6 _ 7 = _ from hdep 7 (by simp [depC8]))]
                with_reducible refine OI_value2 ?_ ?_ ?_ ?_ (.bool true) W ?_ ?_
                · decide
                · kernel_rfl
                · exact about_none (by intro c h; cases h)
                · intro c h; cases h
                · exact run_gtrI 3 3 _ _ k 0 true (by simp; omega) rfl (by kernel_rfl) (by kernel_rfl) W
                · exact ⟨rfl, Below.refl _ _⟩
              | 9, hdi, hdep =>
                obtain rfl := Option.some.inj hdi
                rw [updV_self (hdep 6 (by simp [depC8])), updV_self (show updV x 6 _ 8 = _ from hdep 8 (by simp [depC8]))]
                with_reducible refine OI_value2 ?_ ?_ ?_ ?_ (.bool true) W ?_ ?_
                · decide
                · kernel_rfl
                · exact about_none (by intro c h; cases h)
                · intro c h; cases h
                · kernel_rfl
                · exact ⟨rfl, Below.refl _ _⟩
              | 10, hdi, hdep =>
                obtain rfl := Option.some.inj hdi
                rw [updV_self (hdep 9 (by simp [depC8]))]
                with_reducible refine OI_value2 ?_ ?_ ?_ ?_ (.slice (some ⟨g, off, none⟩) len cap) W ?_ ?_
                · decide
                · kernel_rfl
                · exact about_none (by intro c h; cases h)
                · intro c h; cases h
                · kernel_rfl
                · exact ⟨rfl, Below.refl _ _⟩
              | 11, hdi, hdep =>
                obtain rfl := Option.some.inj hdi
                rw [updV_self (hdep 9 (by simp [depC8]))]
                with_reducible refine OI_value2 ?_ ?_ ?_ ?_ (.int .i64 (k : Int)) W ?_ ?_
                · decide
                · kernel_rfl
                · exact about_none (by intro c h; cases h)
                · intro c h; cases h
                · kernel_rfl
                · exact ⟨rfl, Below.refl _ _⟩
              | 12, hdi, hdep =>
                obtain rfl := Option.some.inj hdi
                rw [updV_self (hdep 9 (by simp [depC8])), updV_self (show updV x 9 _ 10 = _ from hdep 10 (by simp [depC8])), updV_self (show updV (updV x 9 _) 10 _ 11 = _ from hdep 11 (by simp [depC8]))]
                with_reducible refine OI_value2 ?_ ?_ ?_ ?_ (.pointer (some ⟨g, off + k * 2, none⟩)) W ?_ ?_
                · decide
                · kernel_rfl
                · exact about_none (by intro c h; cases h)
                · intro c h; cases h
                · exact run_atR 24 63 2 _ _ g off len cap k rfl (by kernel_rfl) (by kernel_rfl) Tryz.underlying24 (by kernel_rfl) hlt W
                · exact ⟨rfl, Below.refl _ _⟩
              | 13, hdi, hdep =>
                obtain rfl := Option.some.inj hdi
                rw [updV_self (hdep 9 (by simp [depC8])), updV_self (show updV x 9 _ 12 = _ from hdep 12 (by simp [depC8]))]
                with_reducible refine OI_value2 ?_ ?_ ?_ ?_ (.pointer (some ⟨g, off + k * 2, none⟩)) W ?_ ?_
                · decide
                · kernel_rfl
                · exact about_none (by intro c h; cases h)
                · intro c h; cases h
                · kernel_rfl
                · exact ⟨rfl, Below.refl _ _⟩
              | 14, hdi, hdep =>
                obtain rfl := Option.some.inj hdi
                rw [updV_self (hdep 9 (by simp [depC8])), updV_self (show updV x 9 _ 13 = _ from hdep 13 (by simp [depC8]))]
                with_reducible refine OI_value2 ?_ ?_ ?_ ?_ (.int .u64 (y : Int)) W ?_ ?_
                · decide
                · kernel_rfl
                · exact about_none (by intro c h; cases h)
                · intro c h; cases h
                · exact lgRun_cell 23 _ ⟨g, off + k * 2, none⟩ _ _ rfl (by kernel_rfl) Tryz.underlying23 rfl W hc1
                · exact ⟨rfl, Below.refl _ _⟩
              | 15, hdi, hdep =>
                obtain rfl := Option.some.inj hdi
                rw [updV_self (hdep 9 (by simp [depC8]))]
                with_reducible refine OI_value2 ?_ ?_ ?_ ?_ (.slice (some ⟨g, off, none⟩) len cap) W ?_ ?_
                · decide
                · kernel_rfl
                · exact about_none (by intro c h; cases h)
                · intro c h; cases h
                · kernel_rfl
                · exact ⟨rfl, Below.refl _ _⟩
              | 16, hdi, hdep =>
                obtain rfl := Option.some.inj hdi
                rw [updV_self (hdep 9 (by simp [depC8]))]
                with_reducible refine OI_value2 ?_ ?_ ?_ ?_ (.int .i64 (k : Int)) W ?_ ?_
                · decide
                · kernel_rfl
                · exact about_none (by intro c h; cases h)
                · intro c h; cases h
                · kernel_rfl
                · exact ⟨rfl, Below.refl _ _⟩
              | 17, hdi, hdep =>
                obtain rfl := Option.some.inj hdi
                rw [updV_self (hdep 9 (by simp [depC8])), updV_self (show updV x 9 _ 16 = _ from hdep 16 (by simp [depC8]))]
                with_reducible refine OI_value2 ?_ ?_ ?_ ?_ (.int .i64 ((k - 1 : Nat) : Int)) W ?_ ?_
                · decide
                · kernel_rfl
                · exact about_none (by intro c h; cases h)
                · intro c h; cases h
                · exact run_subI 3 3 _ _ k 1 (k - 1) (by omega) (by omega) rfl (by kernel_rfl) (by kernel_rfl) W
                · exact ⟨rfl, Below.refl _ _⟩
              | 18, hdi, hdep =>
                obtain rfl := Option.some.inj hdi
                rw [updV_self (hdep 9 (by simp [depC8])), updV_self (show updV x 9 _ 15 = _ from hdep 15 (by simp [depC8])), updV_self (show updV (updV x 9 _) 15 _ 17 = _ from hdep 17 (by simp [depC8]))]
                with_reducible refine OI_value2 ?_ ?_ ?_ ?_ (.pointer (some ⟨g, off + (k - 1) * 2, none⟩)) W ?_ ?_
                · decide
                · kernel_rfl
                · exact about_none (by intro c h; cases h)
                · intro c h; cases h
                · exact run_atR 24 63 2 _ _ g off len cap (k - 1) rfl (by kernel_rfl) (by kernel_rfl) Tryz.underlying24 (by kernel_rfl) (by omega) W
                · exact ⟨rfl, Below.refl _ _⟩
              | 19, hdi, hdep =>
                obtain rfl := Option.some.inj hdi
                rw [updV_self (hdep 9 (by simp [depC8])), updV_self (show updV x 9 _ 18 = _ from hdep 18 (by simp [depC8]))]
                with_reducible refine OI_value2 ?_ ?_ ?_ ?_ (.pointer (some ⟨g, off + (k - 1) * 2 + 1, none⟩)) W ?_ ?_
                · decide
                · kernel_rfl
                · exact about_none (by intro c h; cases h)
                · intro c h; cases h
                · kernel_rfl
                · exact ⟨rfl, Below.refl _ _⟩
              | 20, hdi, hdep =>
                obtain rfl := Option.some.inj hdi
                rw [updV_self (hdep 9 (by simp [depC8])), updV_self (show updV x 9 _ 19 = _ from hdep 19 (by simp [depC8]))]
                with_reducible refine OI_value2 ?_ ?_ ?_ ?_ (.int .u64 (p : Int)) W ?_ ?_
                · decide
                · kernel_rfl
                · exact about_none (by intro c h; cases h)
                · intro c h; cases h
                · exact lgRun_cell 23 _ ⟨g, off + (k - 1) * 2 + 1, none⟩ _ _ rfl (by kernel_rfl) Tryz.underlying23 rfl W hc2
                · exact ⟨rfl, Below.refl _ _⟩
              | 21, hdi, hdep =>
                obtain rfl := Option.some.inj hdi
                rw [updV_self (hdep 9 (by simp [depC8])), updV_self (show updV x 9 _ 20 = _ from hdep 20 (by simp [depC8]))]
                with_reducible refine OI_value2 ?_ ?_ ?_ ?_ (.int .u64 ((p + 1 : Nat) : Int)) W ?_ ?_
                · decide
                · kernel_rfl
                · exact about_none (by intro c h; cases h)
                · intro c h; cases h
                · exact run_addU 23 23 _ _ p 1 (p + 1) rfl (by omega) rfl (by kernel_rfl) (by kernel_rfl) W
                · exact ⟨rfl, Below.refl _ _⟩
              | 22, hdi, hdep =>
                obtain rfl := Option.some.inj hdi
                rw [updV_self (hdep 9 (by simp [depC8])), updV_self (show updV x 9 _ 14 = _ from hdep 14 (by simp [depC8])), updV_self (show updV (updV x 9 _) 14 _ 21 = _ from hdep 21 (by simp [depC8]))]
                with_reducible refine OI_value2 ?_ ?_ ?_ ?_ (.bool true) W ?_ ?_
                · decide
                · kernel_rfl
                · exact about_none (by intro c h; cases h)
                · intro c h; cases h
                · exact run_leqU 23 23 _ _ y (p + 1) true HLQ.out rfl (by kernel_rfl) (by kernel_rfl) W
                · exact ⟨rfl, Below.refl _ _⟩
              | 23, hdi, hdep =>
                obtain rfl := Option.some.inj hdi
                rw [updV_self (hdep 6 (by simp [depC8])), updV_self (show updV x 6 _ 9 = _ from hdep 9 (by simp [depC8])), updV_self (show updV (updV x 6 _) 9 _ 22 = _ from hdep 22 (by simp [depC8]))]
                with_reducible refine OI_value2 ?_ ?_ ?_ ?_ (.bool true) W ?_ ?_
                · decide
                · kernel_rfl
                · exact about_none (by intro c h; cases h)
                · intro c h; cases h
                · kernel_rfl
                · exact ⟨rfl, Below.refl _ _⟩
              | 24, hdi, hdep =>
                obtain rfl := Option.some.inj hdi
                rw [updV_self (hdep 6 (by simp [depC8])), updV_self (show updV x 6 _ 23 = _ from hdep 23 (by simp [depC8]))]
                exact OI_value rfl rfl (about_none (by intro c h; cases h)) (by intro c h; cases h) (.bool true) W (by kernel_rfl) ⟨rfl, Below.refl _ _⟩
              | _ + 25, hdi, _ => simp at hdi
            case done3 =>
              intro W hW
              have HBW := veil (HB.out.trans (hW.mono HB.out.size))
              simp only [putsV, valCC, Act.put, List.setIfInBounds_toArray, List.set_cons_succ, List.set_cons_zero, Nat.reduceAdd]
              gi_wp2_with fail
              go_ret
              exact ⟨.inr ⟨rfl, HH.out⟩, HBW.out⟩
    · obtain rfl : len = k := by omega
      have hdk : decide ((len : Int) < (len : Int)) = false := by simp
      have hdkn : decide (len < len) = false := by simp
      have HH := veil (show Rg.setOk l from ⟨by have := HL.out; omega, setTo_L l (by rw [HL.out]; exact HTO.out)⟩)
      gi_wp2_with fail
      go_ret
      exact ⟨.inl ⟨rfl, HH.out⟩, HB.out⟩
set_option maxRecDepth 20000 in
set_option maxHeartbeats 1000000 in
theorem ref_has8 (s : RL) (n : Nat) (w : World) (hs : s.Ok w) (hl : s.len ≤ 1048576) :
    Calls Tryz.prog 35 #[.slice s.a s.len s.cap, .int .u64 (n : Int)] w fun e w' => e = .returned (.bool (Rg.hasL s.l n)) ∧ Below w.heap.size w w' := by
  obtain ⟨a, len, cap, g, off, l⟩ := s
  have hll : l.length = len := hs.hb
  simp only at hl
  have HP := veil hs
  have HL := veil hll
  clear hs hll
  go_enter Tryz.func35, Tryz.ntmps35
  go_wp2_with fail
  go_loopw [5] (fun i wr => ∃ k : Nat, k ≤ len ∧ i = .int .i64 k ∧ (∀ j, j < k → ¬ ((gr l j).1 ≤ n ∧ n ≤ (gr l j).2)) ∧ Below w.heap.size w wr)
    (fun i _ => len - (intOf i).toNat)
  case atStart => exact ⟨0, Nat.zero_le _, rfl, fun j hj => absurd hj (Nat.not_lt_zero _), Below.refl _ _⟩
  case round =>
    obtain ⟨k, hk, rfl, hto, hbel⟩ := hrel
    by_cases hlt : k < len
    · have e1 : a = some ⟨g, off, none⟩ := HP.out.at_ (show 0 < len by omega)
      subst e1
      obtain ⟨c1, c2⟩ := (HP.out.below hbel).cell k hlt
      simp only at c1 c2
      have HTO := veil hto
      have HLt := veil hlt
      have HBa := veil hbel
      clear hto hbel
      by_cases h1 : (gr l k).1 ≤ n
      · have f1 : decide (((gr l k).1 : Int) ≤ (n : Int)) = true := by simp; omega
        by_cases h2 : n ≤ (gr l k).2
        · have f2 : decide ((n : Int) ≤ ((gr l k).2 : Int)) = true := by simp; omega
          have HH := veil (has_yes (l := l) (k := k) (by rw [HL.out]; exact hlt) h1 h2)
          clear h1 h2 HTO
          generalize ((gr l k).1 : Int) = y at *
          generalize ((gr l k).2 : Int) = z at *
          go_wp2
          go_ret
          exact ⟨by rw [HH.out]; rfl, HBa.out⟩
        · have f2 : decide ((n : Int) ≤ ((gr l k).2 : Int)) = false := by simp; omega
          have HS := veil (show ∀ j, j < k + 1 → ¬ ((gr l j).1 ≤ n ∧ n ≤ (gr l j).2) from fun j hj => by
            rcases Nat.lt_or_ge j k with e | e
            · exact HTO.out j e
            · obtain rfl : j = k := by omega
              exact fun h => h2 h.2)
          clear h1 h2 HTO
          generalize ((gr l k).1 : Int) = y at *
          generalize ((gr l k).2 : Int) = z at *
          go_wp2
          go_roundw
          case rel => exact ⟨k + 1, by have := HLt.out; omega, by go_num, HS.out, HBa.out⟩
          case measure => have := HLt.out; simp [intOf]; omega
      · have f1 : decide (((gr l k).1 : Int) ≤ (n : Int)) = false := by simp; omega
        have HS := veil (show ∀ j, j < k + 1 → ¬ ((gr l j).1 ≤ n ∧ n ≤ (gr l j).2) from fun j hj => by
          rcases Nat.lt_or_ge j k with e | e
          · exact HTO.out j e
          · obtain rfl : j = k := by omega
            exact fun h => h1 h.1)
        clear h1 HTO
        generalize ((gr l k).1 : Int) = y at *
        generalize ((gr l k).2 : Int) = z at *
        go_wp2
        go_roundw
        case rel => exact ⟨k + 1, by have := HLt.out; omega, by go_num, HS.out, HBa.out⟩
        case measure => have := HLt.out; simp [intOf]; omega
    · obtain rfl : len = k := by omega
      have HH := veil (has_no (l := l) (n := n) (by rw [HL.out]; exact hto))
      have HB := veil hbel
      clear hto hbel
      go_wp2
      go_ret
      exact ⟨by rw [HH.out]; rfl, HB.out⟩

end Go.Proofs.YtohoieleakieeaaGreatDoor
