/-
  Out of RgSame, FrMemS, FrSame.
-/
import Derived.Test.YtimhbjlmpojhoaaGreatDoorGg2
import Derived.BigQuiet

/-! What SameRanges answers. -/
namespace Go.Proofs.YtimhbjlmpojhoaaGreatDoor
open Go Go.RowKit

set_option maxRecDepth 20000 in
set_option maxHeartbeats 1000000 in
theorem same_rl (p q : RL) (w : World) (hp : p.Ok w) (hq : q.Ok w) (hb : p.l = q.l) (hl : p.len ≤ 8388608) :
    Calls Tryz.prog 122 #[.slice p.a p.len p.cap, .slice q.a q.len q.cap] w fun e w' => e = .returned (.bool true) ∧ Below w.heap.size w w' := by
  have hpq : p.len = q.len := by rw [← hp.hb, ← hq.hb, hb]
  obtain ⟨pa, pl, pc, pg, po, pb⟩ := p
  obtain ⟨qa, ql, qc, qg, qo, qb⟩ := q
  simp only at hb hpq hl ⊢
  subst hb hpq
  have HP := veil hp
  have HQ := veil hq
  clear hp hq
  have h1 : ((pl : Int) != (pl : Int)) = false := by simp
  go_enter Tryz.func122, Tryz.ntmps122
  go_wp2
  go_loopw [5] (fun i wr => ∃ k : Nat, k ≤ pl ∧ i = .int .i64 k ∧ Below w.heap.size w wr)
    (fun i _ => pl - (intOf i).toNat)
  case atStart => exact ⟨0, Nat.zero_le _, rfl, Below.refl _ _⟩
  case round =>
    obtain ⟨k, hk, rfl, hbel⟩ := hrel
    by_cases hlt : k < pl
    · have e1 : pa = some ⟨pg, po, none⟩ := HP.out.at_ (show 0 < pl by omega)
      have e2 : qa = some ⟨qg, qo, none⟩ := HQ.out.at_ (show 0 < pl by omega)
      subst e1 e2
      obtain ⟨c1, c2⟩ := (HP.out.below hbel).cell k hlt
      obtain ⟨c3, c4⟩ := (HQ.out.below hbel).cell k hlt
      simp only at c1 c2 c3 c4
      generalize ((gr pb k).1 : Int) = y at *
      generalize ((gr pb k).2 : Int) = z at *
      go_wp2
      go_quiet (fail)
      go_wp2
      go_roundw
      case rel => exact ⟨k + 1, by omega, by go_num, below_drewN hbel _⟩
      case measure => simp [intOf]; omega
    · obtain rfl : pl = k := by omega
      go_wp2
      go_ret
      exact ⟨rfl, hbel⟩

end Go.Proofs.YtimhbjlmpojhoaaGreatDoor

/-! What SameRanges and SameFrame answer. -/
namespace Go.Proofs.YtimhbjlmpojhoaaGreatDoor
open Go Go.RowKit

set_option maxRecDepth 20000 in
set_option maxHeartbeats 1000000 in
theorem same_frame (p q : FrM) (w : World) (hp : p.Ok w) (hq : q.Ok w) (hb : p.fr = q.fr) (hl : p.data.len ≤ 8388608) (hr : p.ranges.len ≤ 8388608) :
    Calls Tryz.prog 72 #[.agg p.cells, .agg q.cells] w fun e w' => e = .returned (.bool true) ∧ Below w.heap.size w w' := by
  obtain ⟨pk, ps, po, pl, pc, pf, pd, pr⟩ := p
  obtain ⟨qk, qs, qo, ql, qc, qf, qd, qr⟩ := q
  simp only [FrM.fr, Fr.Frame.mk.injEq] at hb
  obtain ⟨rfl, rfl, rfl, rfl, rfl, rfl, e6, e7⟩ := hb
  have r0 : Row ((w.alloc (.cells (FrM.mk pk ps po pl pc pf pd pr).cells 37)).alloc (.cells (FrM.mk pk ps po pl pc pf qd qr).cells 37)) w.heap.size 37 (FrM.mk pk ps po pl pc pf pd pr).cells := (Row.new _ _ _).alloc _
  have q0 : Row ((w.alloc (.cells (FrM.mk pk ps po pl pc pf pd pr).cells 37)).alloc (.cells (FrM.mk pk ps po pl pc pf qd qr).cells 37)) (w.heap.size + 1) 37 (FrM.mk pk ps po pl pc pf qd qr).cells := Row.new1 _ _ _ _
  have b0 : Below w.heap.size w ((w.alloc (.cells (FrM.mk pk ps po pl pc pf pd pr).cells 37)).alloc (.cells (FrM.mk pk ps po pl pc pf qd qr).cells 37)) := ((Below.refl _ w).alloc (Nat.le_refl _) _).alloc (by simp) _
  obtain ⟨c0, c1, c2, c3, c4, c5, c6, c7⟩ := fr_cells r0
  obtain ⟨x0, x1, x2, x3, x4, x5, x6, x7⟩ := fr_cells q0
  simp only at c0 c1 c2 c3 c4 c5 c6 c7 x0 x1 x2 x3 x4 x5 x6 x7
  have s0 : ((pk : Int) == (pk : Int)) = true := by simp
  have s1 : ((ps : Int) == (ps : Int)) = true := by simp
  have s2 : ((po : Int) == (po : Int)) = true := by simp
  have s3 : ((pl : Int) == (pl : Int)) = true := by simp
  have s4 : ((pc : Int) == (pc : Int)) = true := by simp
  have s5 : (pf == pf) = true := by simp
  have HP := veil hp
  have HQ := veil hq
  have HR0 := veil r0
  have HQ0 := veil q0
  have HB0 := veil b0
  have hl0 := r0.lt
  have hl1 := q0.lt
  have HL := veil hl
  have HRL := veil hr
  clear hp hq r0 q0 b0 hl hr
  go_enter Tryz.func72, Tryz.ntmps72
  go_wp2_with fail
  refine (same_sl pd qd _ (HP.out.data.below HB0.out) (HQ.out.data.below HB0.out) e6 HL.out).mono ?_
  rintro e1 w1 ⟨rfl, hb1⟩
  have b1 := HB0.out.trans (hb1.mono HB0.out.size)
  have c7' := (fr_cells (HR0.out.below hb1 hl0)).2.2.2.2.2.2.2
  have x7' := (fr_cells (HQ0.out.below hb1 hl1)).2.2.2.2.2.2.2
  simp only at c7' x7'
  clear hb1 c0 c1 c2 c3 c4 c5 c6 c7 x0 x1 x2 x3 x4 x5 x6 x7
  go_wp2_with fail
  refine (same_rl pr qr w1 (HP.out.ranges.below b1) (HQ.out.ranges.below b1) e7 HRL.out).mono ?_
  rintro e2 w2 ⟨rfl, hb2⟩
  have b2 := b1.trans (hb2.mono b1.size)
  clear hb2
  go_wp2_with fail
  go_ret
  exact ⟨rfl, b2⟩
end Go.Proofs.YtimhbjlmpojhoaaGreatDoor

/-! What SameFrames answers. -/
namespace Go.Proofs.YtimhbjlmpojhoaaGreatDoor
open Go Go.RowKit

def depSF : Nat → List Nat
  | 2 => [0, 1]
  | 3 => [2]
  | 6 => [4, 5]
  | 7 => [6]
  | 8 => [3, 7]
  | 9 => [8]
  | _ => []
def valSF (p q : FS) (k : Nat) : Nat → Value
  | 0 => .slice (some ⟨p.g, p.off, none⟩) p.len p.cap
  | 1 => .int .i64 (k : Int)
  | 2 => .pointer (some ⟨p.g, p.off + k * 8, none⟩)
  | 3 => .agg (gf p.l k).cells
  | 4 => .slice (some ⟨q.g, q.off, none⟩) q.len q.cap
  | 5 => .int .i64 (k : Int)
  | 6 => .pointer (some ⟨q.g, q.off + k * 8, none⟩)
  | 7 => .agg (gf q.l k).cells
  | 8 => .bool true
  | _ => .bool false

set_option maxRecDepth 20000 in
set_option maxHeartbeats 1000000 in
theorem same_frames (p q : FS) (w : World) (hp : p.Ok w) (hq : q.Ok w) (hb : p.fr = q.fr) (hl : p.len ≤ 8388608) (hd : ∀ j, j < p.len → (gf p.l j).data.len ≤ 8388608 ∧ (gf p.l j).ranges.len ≤ 8388608) :
    Calls Tryz.prog 20 #[.slice p.a p.len p.cap, .slice q.a q.len q.cap] w fun e w' => e = .returned (.bool true) ∧ Below w.heap.size w w' := by
  have hpq : p.len = q.len := by
    rw [← hp.hb, ← hq.hb]
    have := congrArg List.length hb
    simpa [FS.fr] using this
  have HP := veil hp
  have HQ := veil hq
  have HF : Hid (∀ j, j < p.len → (gf p.l j).fr = (gf q.l j).fr) := fun j hj => fr_get hb j (by rw [hp.hb]; exact hj)
  have HD := veil hd
  clear hp hq hb hd
  have h1 : ((p.len : Int) != (p.len : Int)) = false := by simp
  rw [← hpq]
  refine (callsIn_wide (n := 4)).1 ?_
  refine callsIn_of_wp Tryz.func20 rfl trivial ?_ rfl
  simp only [Tryz.ntmps20, List.size_toArray, List.length_cons, List.length_nil, Nat.reduceAdd, Nat.reduceSub, Array.replicate_succ, Array.replicate_zero, List.push_toArray, List.append_toArray, List.nil_append, List.cons_append]
  gi_wp2_with fail
  gi_loopw [5] (fun i wr => ∃ k : Nat, k ≤ p.len ∧ i = .int .i64 k ∧ Below w.heap.size w wr)
    (fun i _ => p.len - (intOf i).toNat)
  case atStart => exact ⟨0, Nat.zero_le _, rfl, Below.refl _ _⟩
  case round =>
    obtain ⟨k, hk, rfl, hbel⟩ := hrel
    by_cases hlt : k < p.len
    · have hdk : decide ((k : Int) < (p.len : Int)) = true := by simp; omega
      have e1 := HP.out.at_ (by omega)
      have e2 := HQ.out.at_ (by omega)
      rw [e1, e2]
      gi_wp2_with fail
      refine wpIn_region_any (by kernel_rfl) ?_
      refine anyIn_vals2 (w0 := wr) (valSF p q k) [17, 18, 19, 20, 21, 22, 23, 24, 25, 26] depSF (by kernel_rfl) rfl (by decide) ((Below.refl _ _).drew) ?step3 ?done3
      case step3 =>
        intro x W ii d hW hdi hdep
        have bW := hbel.trans (hW.mono hbel.size)
        have okP := HP.out.below bW
        have okQ := HQ.out.below bW
        match ii, hdi, hdep with
        | 0, hdi, _ =>
          obtain rfl := Option.some.inj hdi
          exact OI_value rfl rfl (about_none (by intro c h; cases h)) (by intro c h; cases h) (.slice (some ⟨p.g, p.off, none⟩) p.len p.cap) W (by kernel_rfl) ⟨rfl, Below.refl _ _⟩
        | 1, hdi, _ =>
          obtain rfl := Option.some.inj hdi
          exact OI_value rfl rfl (about_none (by intro c h; cases h)) (by intro c h; cases h) (.int .i64 (k : Int)) W (by kernel_rfl) ⟨rfl, Below.refl _ _⟩
        | 2, hdi, hdep =>
          obtain rfl := Option.some.inj hdi
          rw [updV_self (hdep 0 (by simp [depSF])), updV_self (show updV x 0 _ 1 = _ from hdep 1 (by simp [depSF]))]
          exact OI_value rfl rfl (about_none (by intro c h; cases h)) (by intro c h; cases h) _ W (run_atF 22 37 8 _ _ p.g p.off p.len p.cap k rfl (by kernel_rfl) (by kernel_rfl) Tryz.underlying22 (by kernel_rfl) hlt W) ⟨rfl, Below.refl _ _⟩
        | 3, hdi, hdep =>
          obtain rfl := Option.some.inj hdi
          rw [updV_self (hdep 2 (by simp [depSF]))]
          exact OI_value rfl rfl (about_none (by intro c h; cases h)) (by intro c h; cases h) _ W (run_midF 37 _ p.g (p.off + k * 8) (gf p.l k).cells _ rfl (by kernel_rfl) Tryz.underlying37 rfl (by kernel_rfl) W (okP.cell k hlt)) ⟨rfl, Below.refl _ _⟩
        | 4, hdi, _ =>
          obtain rfl := Option.some.inj hdi
          refine OI_value rfl rfl (about_none (by intro c h; cases h)) (by intro c h; cases h) (.slice (some ⟨q.g, q.off, none⟩) p.len q.cap) W (by kernel_rfl) ⟨?_, Below.refl _ _⟩
          show _ = _
          rw [show valSF p q k 4 = .slice (some ⟨q.g, q.off, none⟩) q.len q.cap from rfl, ← hpq]
          rfl
        | 5, hdi, _ =>
          obtain rfl := Option.some.inj hdi
          exact OI_value rfl rfl (about_none (by intro c h; cases h)) (by intro c h; cases h) (.int .i64 (k : Int)) W (by kernel_rfl) ⟨rfl, Below.refl _ _⟩
        | 6, hdi, hdep =>
          obtain rfl := Option.some.inj hdi
          rw [updV_self (hdep 4 (by simp [depSF])), updV_self (show updV x 4 _ 5 = _ from hdep 5 (by simp [depSF]))]
          exact OI_value rfl rfl (about_none (by intro c h; cases h)) (by intro c h; cases h) _ W (run_atF 22 37 8 _ _ q.g q.off q.len q.cap k rfl (by kernel_rfl) (by kernel_rfl) Tryz.underlying22 (by kernel_rfl) (by omega) W) ⟨rfl, Below.refl _ _⟩
        | 7, hdi, hdep =>
          obtain rfl := Option.some.inj hdi
          rw [updV_self (hdep 6 (by simp [depSF]))]
          exact OI_value rfl rfl (about_none (by intro c h; cases h)) (by intro c h; cases h) _ W (run_midF 37 _ q.g (q.off + k * 8) (gf q.l k).cells _ rfl (by kernel_rfl) Tryz.underlying37 rfl (by kernel_rfl) W (okQ.cell k (by omega))) ⟨rfl, Below.refl _ _⟩
        | 8, hdi, hdep =>
          obtain rfl := Option.some.inj hdi
          rw [updV_self (hdep 3 (by simp [depSF])), updV_self (show updV x 3 _ 7 = _ from hdep 7 (by simp [depSF]))]
          refine OI_call rfl rfl (by intro c h; cases h) 72 #[.agg (gf p.l k).cells, .agg (gf q.l k).cells] (fun _ _ => trivial) (by kernel_rfl) (by decide) ?_
          refine (callsIn_wide.2 (same_frame (gf p.l k) (gf q.l k) W (okP.each k hlt) (okQ.each k (by omega)) (HF.out k hlt) (HD.out k hlt).1 (HD.out k hlt).2)).mono ?_
          rintro e w' ⟨rfl, hb'⟩
          exact ⟨_, rfl, rfl, hb'⟩
        | 9, hdi, hdep =>
          obtain rfl := Option.some.inj hdi
          rw [updV_self (hdep 8 (by simp [depSF]))]
          exact OI_value rfl rfl (about_none (by intro c h; cases h)) (by intro c h; cases h) (.bool false) W (by kernel_rfl) ⟨rfl, Below.refl _ _⟩
        | _ + 10, hdi, _ => simp at hdi
      case done3 =>
        intro W hW
        have bW := hbel.trans (hW.mono hbel.size)
        simp only [putsV, valSF, Act.put, List.setIfInBounds_toArray, List.set_cons_succ, List.set_cons_zero, Nat.reduceAdd]
        gi_wp2_with fail
        go_roundw
        case rel => exact ⟨k + 1, by omega, by go_num, bW⟩
        case measure => simp [intOf]; omega
    · have hdk : decide ((k : Int) < (p.len : Int)) = false := by simp; omega
      gi_wp2_with fail
      go_ret
      exact ⟨rfl, hbel⟩
end Go.Proofs.YtimhbjlmpojhoaaGreatDoor
