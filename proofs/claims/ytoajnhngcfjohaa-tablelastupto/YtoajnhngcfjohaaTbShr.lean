/-
  The program's shrink: the eldest fields go.
-/
import Derived.Test.YtoajnhngcfjohaaTbPt2
import Derived.Deep.CutRange
import Derived.Deep.DeepCutAuto
namespace Go.Proofs.Ytoajnhngcfjohaa
open Go Go.RowKit

namespace Tb
section
variable {P : Program} {a : Act} {o : Oper}
theorem lgRun_atArr (t e : TypeId) (N m : Nat) (x ix : Operand) (g off j : Nat) (ho : o.op = .indexAddr t x ix) (hx : a.eval x = .pointer (some ⟨g, off, none⟩)) (hix : a.eval ix = .int .i64 (j : Int))
    (hu : P.underlying t = some (.array N e)) (hi : (P.info? e).map (·.size) = some m) (hj : j < N) (W : World) : (execOp a.eval o).run P W = .ok (.value (.pointer (some ⟨g, off + j * m, none⟩))) W := by
  have hsz : (sizeOf e).run P W = .ok m W := by
    cases hq : P.info? e with
    | none => simp [hq] at hi
    | some i =>
      have : i.size = m := by simpa [hq] using hi
      simp [sizeOf, typeInfo, hq, this]
  unfold execOp
  simp [ho, hx, hix, Instr.indexAt, Instr.sureAddr, asIntOf, run_underlying hu, hj, hsz, Addr.add_mid]
end
theorem KeepP.setCells {st : Nat → Prop} {g : Nat} (hg : st g) : ∀ (vs : List Value) (W : World) (o : Nat), KeepP st W (W.setCells g o vs)
  | [], W, o => by rw [World.setCells]; exact KeepP.refl _ _
  | v :: r, W, o => by rw [World.setCells]; exact (KeepP.setCell hg W o v).trans (KeepP.setCells hg r _ _)
theorem fd_one (f : Fd) : f.cells.all Value.oneCell' = true := by simp [Fd.cells, Value.oneCell']
theorem fds_single (f : Fd) : fds [f] = f.cells.toList := by simp [fds]
/-- What the bound leaves is what goes. -/
theorem gone_b (room n : Nat) (hn : n ≤ room) : ∀ (l : List Fd), gone (room - n) 0 l = gone room n l
  | [] => rfl
  | f :: l => by
    simp only [gone, gone_b room n hn l, Nat.add_zero]
    by_cases h : size (f :: l) + n ≤ room
    · rw [if_pos h, if_pos (by omega)]
    · rw [if_neg h, if_neg (by omega)]
def depS1 : Nat → List Nat
  | 1 => [0]
  | 2 => [1]
  | 3 => [2]
  | 6 => [5]
  | 7 => [6]
  | 8 => [7]
  | 9 => [4]
  | 10 => [9]
  | 11 => [10, 8]
  | 12 => [11]
  | 13 => [12]
  | 14 => [3, 13]
  | 15 => [0]
  | 16 => [15]
  | 17 => [16, 14, 13, 3, 8, 12]
  | _ => []
def dsS1 : List Nat := [10, 11, 12, 13, 14, 15, 16, 17, 18, 19, 20, 21, 22, 23, 24, 25, 26, 100000]
def valS1 (h p s s1 : Nat) (f : Fd) : Nat → Value
  | 0 => .pointer (some ⟨h, 0, none⟩)
  | 1 => .pointer (some ⟨h, 0, none⟩)
  | 2 => .pointer (some ⟨h, 2, none⟩)
  | 3 => .int .i64 (s : Int)
  | 4 => .pointer (some ⟨h, 0, none⟩)
  | 5 => .pointer (some ⟨h, 0, none⟩)
  | 6 => .pointer (some ⟨h, 0, none⟩)
  | 7 => .pointer (some ⟨h, 516, none⟩)
  | 8 => .int .i64 (p : Int)
  | 9 => .pointer (some ⟨h, 0, none⟩)
  | 10 => .pointer (some ⟨h, 4, none⟩)
  | 11 => .pointer (some ⟨h, 4 + p * 2, none⟩)
  | 12 => .agg f.cells
  | 13 => .int .i64 (sz f : Nat)
  | 14 => .int .i64 (s1 : Int)
  | 15 => .pointer (some ⟨h, 0, none⟩)
  | 16 => .pointer (some ⟨h, 2, none⟩)
  | 17 => undef
  | _ => undef
def depS2 : Nat → List Nat
  | 2 => [1]
  | 3 => [2]
  | 4 => [3]
  | 6 => [0]
  | 7 => [6]
  | 8 => [7, 4]
  | 9 => [8, 5, 4]
  | _ => []
def dsS2 : List Nat := [27, 28, 29, 30, 31, 32, 33, 34, 35, 100000]
def valS2 (h p : Nat) : Nat → Value
  | 0 => .pointer (some ⟨h, 0, none⟩)
  | 1 => .pointer (some ⟨h, 0, none⟩)
  | 2 => .pointer (some ⟨h, 0, none⟩)
  | 3 => .pointer (some ⟨h, 516, none⟩)
  | 4 => .int .i64 (p : Int)
  | 5 => .agg fd0.cells
  | 6 => .pointer (some ⟨h, 0, none⟩)
  | 7 => .pointer (some ⟨h, 4, none⟩)
  | 8 => .pointer (some ⟨h, 4 + p * 2, none⟩)
  | 9 => undef
  | _ => undef

def mz (h : Nat) (W : World) : Nat := 256 - (((W.cell? ⟨h, 516, none⟩).map intOf).getD 0).toNat
set_option maxRecDepth 100000 in
set_option maxHeartbeats 4000000 in
theorem tab_shrink {w : World} {h : Nat} {t : Tab} {A : List Fd} {p0 q : Nat} (x : PtOk w h t A p0 q) (b : Nat) (hb : b ≤ 4096) :
    Calls Try.prog 35 #[.pointer (some ⟨h, 0, none⟩), .int .i64 (b : Int)] w fun e w' => e = .returned (.tuple #[]) ∧
      ∃ A' p', PtOk w' h ⟨t.room, t.went + gone b 0 t.l, t.l.drop (gone b 0 t.l)⟩ A' p' q ∧ KeepP (fun k => k = h) w w' := by
  have HX := veil x
  clear x
  go_enter Try.func35, Try.ntmps35
  go_wp2_with fail
  go_loopw [] (fun wr => ∃ k A' p', PtOk wr h ⟨t.room, t.went + k, t.l.drop k⟩ A' p' q ∧ k ≤ t.l.length ∧ (∀ j, j < k → b < size (t.l.drop j)) ∧ KeepP (fun k => k = h) w wr)
    (fun wr => mz h wr)
  case atStart => exact ⟨0, A, p0, HX.out, Nat.zero_le _, fun j hj => absurd hj (Nat.not_lt_zero _), KeepP.refl _ _⟩
  case round =>
    obtain ⟨k, A', p, x, hk, hneed, hkeep⟩ := hrel
    have x2 := x.c2
    simp only at x2
    by_cases hs : b < size (t.l.drop k)
    · obtain ⟨f, l', hl⟩ : ∃ f l', t.l.drop k = f :: l' := by
        cases h9 : t.l.drop k with
        | nil => rw [h9] at hs; exact absurd hs (Nat.not_lt_zero _)
        | cons f l' => exact ⟨f, l', rfl⟩
      rw [hl] at hs x x2
      have hlk : k < t.l.length := by
        rcases Nat.lt_or_ge k t.l.length with e | e
        · exact e
        · rw [List.drop_of_length_le e] at hl; cases hl
      have hA := x.al
      have hpq := x.pq
      have hq1 := x.q1
      have hf : A'[p]? = some f := by have := x.l 0 (by simp); simpa using this
      have hS : size (f :: l') = sz f + size l' := rfl
      have hsz := x.sz
      have hrow : PtR wr h t.room (size (f :: l')) (t.went + k) A' p q := x.row
      have hl' : t.l.drop (k + 1) = l' := by rw [← List.drop_drop, hl]; rfl
      have hwb := x.wb
      obtain ⟨s, hs0⟩ : ∃ s, size (f :: l') = s := ⟨_, rfl⟩
      obtain ⟨s1, hs1⟩ : ∃ s1, size l' = s1 := ⟨_, rfl⟩
      obtain ⟨g, hg⟩ : ∃ g, t.went + k = g := ⟨_, rfl⟩
      simp only at hsz
      rw [hs0] at hs x2 hrow hsz
      rw [hs0, hs1] at hS
      rw [hg] at hrow
      have hfz : f.1.size + f.2.size ≤ 4096 := by have : sz f = f.1.size + f.2.size + 32 := rfl; omega
      have hp : p < 256 := by rw [List.length_cons] at hpq; omega
      have hg1 : g < 1000000000000 := by unfold Tab.came at hwb; simp only [List.length_cons] at hwb; omega
      have HW := veil hrow
      have HX := veil x
      have HL := veil (show _ ∧ _ ∧ _ ∧ _ ∧ _ ∧ _ ∧ _ ∧ _ from ⟨hl, hl', hlk, hneed, hs0, hs1, hg, hpq⟩)
      have HK := veil hkeep
      have hS' : sz f + s1 = s := hS.symm
      have n0 : (b : Int) < (s : Int) := by omega
      clear hrow x hl hl' hlk hneed hs0 hs1 hg hkeep hS hk hpq hwb
      go_upto_region 1 with fail
      go_cut [] (fun W => PtR W h t.room s1 g A' p q ∧ KeepP (fun k => k = h) wr W)
      case first =>
        go_wp2_with fail
        refine (wpIn_wide (n := 4)).1 ?_
        refine wpIn_region_any (by kernel_rfl) ?_
        refine anyIn_line2 (valS1 h p s s1 f) (fun m W => (m ≤ 1 → Below wr.heap.size wr W) ∧ (1 < m → PtR W h t.room s1 g A' p q ∧ KeepP (fun k => k = h) wr W)) [13, 17] dsS1 depS1 (by kernel_rfl) rfl (by decide) (by decide) ?ord ?inn ?h0 ?fix ?cal ?done
        case ord =>
          intro k i j h1 h2
          match k, h1, h2 with
          | 0, h1, h2 => obtain rfl := Option.some.inj h1; obtain rfl := Option.some.inj h2; exact .inl (by decide)
          | k + 1, _, h2 => simp at h2
        case inn => intro j hj; simp at hj; show j < 18; omega
        case h0 => exact ⟨fun _ => (Below.refl _ _).drew, fun h => absurd h (by omega)⟩
        case fix =>
          intro x W m ii d hR hm hdi hc hdep
          match ii, hm, hdi, hc, hdep with
          | 0, _, hdi, _, _ =>
            obtain rfl := Option.some.inj hdi
            exact OI_value rfl rfl (about_none (by intro c h; cases h)) (by intro c h; cases h) (.pointer (some ⟨h, 0, none⟩)) W (by kernel_rfl) ⟨rfl, rfl⟩
          | 1, _, hdi, _, hdep =>
            obtain rfl := Option.some.inj hdi
            rw [updV_self (show x 0 = _ from hdep 0 (by simp [depS1]))]
            exact OI_value rfl rfl (about_none (by intro c h; cases h)) (by intro c h; cases h) (.pointer (some ⟨h, 0, none⟩)) W (by kernel_rfl) ⟨rfl, rfl⟩
          | 2, _, hdi, _, hdep =>
            obtain rfl := Option.some.inj hdi
            rw [updV_self (show x 1 = _ from hdep 1 (by simp [depS1]))]
            exact OI_value rfl rfl (about_none (by intro c h; cases h)) (by intro c h; cases h) (.pointer (some ⟨h, 2, none⟩)) W (by kernel_rfl) ⟨rfl, rfl⟩
          | 3, hm, hdi, _, hdep =>
            obtain rfl := Option.some.inj hdi
            have hW := hR.1 (hm 1 17 rfl (by simp [depS1]))
            rw [updV_self (show x 2 = _ from hdep 2 (by simp [depS1]))]
            exact OI_value rfl rfl (about_none (by intro c h; cases h)) (by intro c h; cases h) (.int .i64 (s : Int)) W (lgRun_cell 3 _ ⟨h, 2, none⟩ _ _ rfl (by kernel_rfl) Try.underlying3 rfl W (pr2 (Row.below HW.out hW (Row.lt HW.out)))) ⟨rfl, rfl⟩
          | 4, _, hdi, _, _ =>
            obtain rfl := Option.some.inj hdi
            exact OI_value rfl rfl (about_none (by intro c h; cases h)) (by intro c h; cases h) (.pointer (some ⟨h, 0, none⟩)) W (by kernel_rfl) ⟨rfl, rfl⟩
          | 5, _, hdi, _, _ =>
            obtain rfl := Option.some.inj hdi
            exact OI_value rfl rfl (about_none (by intro c h; cases h)) (by intro c h; cases h) (.pointer (some ⟨h, 0, none⟩)) W (by kernel_rfl) ⟨rfl, rfl⟩
          | 6, _, hdi, _, hdep =>
            obtain rfl := Option.some.inj hdi
            rw [updV_self (show x 5 = _ from hdep 5 (by simp [depS1]))]
            exact OI_value rfl rfl (about_none (by intro c h; cases h)) (by intro c h; cases h) (.pointer (some ⟨h, 0, none⟩)) W (by kernel_rfl) ⟨rfl, rfl⟩
          | 7, _, hdi, _, hdep =>
            obtain rfl := Option.some.inj hdi
            rw [updV_self (show x 6 = _ from hdep 6 (by simp [depS1]))]
            exact OI_value rfl rfl (about_none (by intro c h; cases h)) (by intro c h; cases h) (.pointer (some ⟨h, 516, none⟩)) W (by kernel_rfl) ⟨rfl, rfl⟩
          | 8, hm, hdi, _, hdep =>
            obtain rfl := Option.some.inj hdi
            have hW := hR.1 (hm 1 17 rfl (by simp [depS1]))
            rw [updV_self (show x 7 = _ from hdep 7 (by simp [depS1]))]
            exact OI_value rfl rfl (about_none (by intro c h; cases h)) (by intro c h; cases h) (.int .i64 (p : Int)) W (lgRun_cell 3 _ ⟨h, 516, none⟩ _ _ rfl (by kernel_rfl) Try.underlying3 rfl W (pr5 (Row.below HW.out hW (Row.lt HW.out)) hA)) ⟨rfl, rfl⟩
          | 9, _, hdi, _, hdep =>
            obtain rfl := Option.some.inj hdi
            rw [updV_self (show x 4 = _ from hdep 4 (by simp [depS1]))]
            exact OI_value rfl rfl (about_none (by intro c h; cases h)) (by intro c h; cases h) (.pointer (some ⟨h, 0, none⟩)) W (by kernel_rfl) ⟨rfl, rfl⟩
          | 10, _, hdi, _, hdep =>
            obtain rfl := Option.some.inj hdi
            rw [updV_self (show x 9 = _ from hdep 9 (by simp [depS1]))]
            exact OI_value rfl rfl (about_none (by intro c h; cases h)) (by intro c h; cases h) (.pointer (some ⟨h, 4, none⟩)) W (by kernel_rfl) ⟨rfl, rfl⟩
          | 11, _, hdi, _, hdep =>
            obtain rfl := Option.some.inj hdi
            rw [updV_self (show x 10 = _ from hdep 10 (by simp [depS1])), updV_self (show (updV x 10 _) 8 = _ from hdep 8 (by simp [depS1]))]
            exact OI_value rfl rfl (about_none (by intro c h; cases h)) (by intro c h; cases h) (.pointer (some ⟨h, 4 + p * 2, none⟩)) W (lgRun_atArr 58 _ 256 2 _ _ h 4 p rfl (by kernel_rfl) (by kernel_rfl) Try.underlying58 fieldSize hp W) ⟨rfl, rfl⟩
          | 12, hm, hdi, _, hdep =>
            obtain rfl := Option.some.inj hdi
            have hW := hR.1 (hm 1 17 rfl (by simp [depS1]))
            rw [updV_self (show x 11 = _ from hdep 11 (by simp [depS1]))]
            exact OI_value rfl rfl (about_none (by intro c h; cases h)) (by intro c h; cases h) (.agg f.cells) W (run_midT 23 _ h (4 + p * 2) f.cells.toList _ rfl (by kernel_rfl) Try.underlying23 rfl (by kernel_rfl) W (prF (Row.below HW.out hW (Row.lt HW.out)) hf)) ⟨rfl, rfl⟩
          | 13, _, _, hc, _ => exact (hc (by simp)).elim
          | 14, _, hdi, _, hdep =>
            obtain rfl := Option.some.inj hdi
            rw [updV_self (show x 3 = _ from hdep 3 (by simp [depS1])), updV_self (show (updV x 3 _) 13 = _ from hdep 13 (by simp [depS1]))]
            exact OI_value rfl rfl (about_none (by intro c h; cases h)) (by intro c h; cases h) (.int .i64 (s1 : Int)) W (lgRun_sub _ _ _ _ s (sz f) s1 hS' (by omega) rfl (by kernel_rfl) (by kernel_rfl) W) ⟨rfl, rfl⟩
          | 15, _, hdi, _, hdep =>
            obtain rfl := Option.some.inj hdi
            rw [updV_self (show x 0 = _ from hdep 0 (by simp [depS1]))]
            exact OI_value rfl rfl (about_none (by intro c h; cases h)) (by intro c h; cases h) (.pointer (some ⟨h, 0, none⟩)) W (by kernel_rfl) ⟨rfl, rfl⟩
          | 16, _, hdi, _, hdep =>
            obtain rfl := Option.some.inj hdi
            rw [updV_self (show x 15 = _ from hdep 15 (by simp [depS1]))]
            exact OI_value rfl rfl (about_none (by intro c h; cases h)) (by intro c h; cases h) (.pointer (some ⟨h, 2, none⟩)) W (by kernel_rfl) ⟨rfl, rfl⟩
          | 17, _, _, hc, _ => exact (hc (by simp)).elim
          | _ + 18, _, hdi, _, _ => simp [dsS1] at hdi
        case cal =>
          intro x W k ii d hR hk hdi hdep
          match k, hk, hR with
          | 0, hk, hR =>
            obtain rfl := Option.some.inj hk
            obtain rfl := Option.some.inj hdi
            rw [updV_self (show x 12 = _ from hdep 12 (by simp [depS1]))]
            have hW := hR.1 (by omega)
            refine OI_call rfl rfl (by intro c h; cases h) 34 #[.agg f.cells] (fun _ _ => trivial) (by kernel_rfl) (by decide) ?_
            refine (callsIn_wide.2 (tab_size1 f (by omega) W)).mono ?_
            rintro e w9 ⟨rfl, hb9⟩
            exact ⟨_, rfl, rfl, fun _ => hW.trans (hb9.mono hW.size), fun h => absurd h (by omega)⟩
          | 1, hk, hR =>
            obtain rfl := Option.some.inj hk
            obtain rfl := Option.some.inj hdi
            rw [updV_self (show x 16 = _ from hdep 16 (by simp [depS1])), updV_self (show (updV x 16 _) 14 = _ from hdep 14 (by simp [depS1]))]
            have hW := hR.1 (by omega)
            refine OI_skip rfl rfl (about_none (by intro c h; cases h)) (by intro c h; cases h) (W.setCell ⟨h, 2, none⟩ (.int .i64 (s1 : Int))) (lgRun_store 3 _ _ ⟨h, 2, none⟩ (.int .i64 (s1 : Int)) _ rfl rfl (by kernel_rfl) (by kernel_rfl) (by kernel_rfl) W (pr2 (Row.below HW.out hW (Row.lt HW.out))) (Row.frozen (Row.below HW.out hW (Row.lt HW.out)) 2)) ?_
            refine ⟨(put_none _ _).trans (put_far _ _ _ (by rw [puts_size]; exact Nat.le_of_ble_eq_true rfl)).symm, fun h => absurd h (by omega), fun _ => ⟨set_size (Row.below HW.out hW (Row.lt HW.out)) s1, (KeepP.of_below hW).trans (KeepP.setCell (st := fun k => k = h) rfl _ _ _)⟩⟩
          | _ + 2, hk, _ => simp at hk
        case done =>
          intro W hR
          simp only [dsS1, putsV, valS1, Act.put, List.setIfInBounds_toArray, List.set_cons_succ, List.set_cons_zero, Nat.reduceAdd]
          have HR := veil (hR.2 (by decide))
          clear hR
          go_wp2_with fail
          go_meet
          exact HR.out
      case rest =>

        obtain ⟨hW1, hK1⟩ := hcut
        have HW1 := veil hW1
        have HK1 := veil hK1
        clear hW1 hK1 x2
        go_upto_region 2 with fail
        go_cut [] (fun W => PtR W h t.room s1 g (A'.take p ++ [fd0] ++ A'.drop (p + 1)) p q ∧ KeepP (fun k => k = h) wc W)
        case first =>
          go_wp2_with fail
          refine (wpIn_wide (n := 4)).1 ?_
          refine wpIn_region_any (by kernel_rfl) ?_
          refine anyIn_line2 (valS2 h p) (fun m W => (m ≤ 0 → Below wc.heap.size wc W) ∧ (0 < m → PtR W h t.room s1 g (A'.take p ++ [fd0] ++ A'.drop (p + 1)) p q ∧ KeepP (fun k => k = h) wc W)) [9] dsS2 depS2 (by kernel_rfl) rfl (by decide) (by decide) ?ord ?inn ?h0 ?fix ?cal ?done
          case ord =>
            intro k i j h1 h2
            simp at h2
          case inn => intro j hj; simp at hj; show j < 10; omega
          case h0 => exact ⟨fun _ => (Below.refl _ _).drew, fun h => absurd h (by omega)⟩
          case fix =>
            intro x W m ii d hR hm hdi hc hdep
            match ii, hm, hdi, hc, hdep with
            | 0, _, hdi, _, _ =>
              obtain rfl := Option.some.inj hdi
              exact OI_value rfl rfl (about_none (by intro c h; cases h)) (by intro c h; cases h) (.pointer (some ⟨h, 0, none⟩)) W (by kernel_rfl) ⟨rfl, rfl⟩
            | 1, _, hdi, _, _ =>
              obtain rfl := Option.some.inj hdi
              exact OI_value rfl rfl (about_none (by intro c h; cases h)) (by intro c h; cases h) (.pointer (some ⟨h, 0, none⟩)) W (by kernel_rfl) ⟨rfl, rfl⟩
            | 2, _, hdi, _, hdep =>
              obtain rfl := Option.some.inj hdi
              rw [updV_self (show x 1 = _ from hdep 1 (by simp [depS2]))]
              exact OI_value rfl rfl (about_none (by intro c h; cases h)) (by intro c h; cases h) (.pointer (some ⟨h, 0, none⟩)) W (by kernel_rfl) ⟨rfl, rfl⟩
            | 3, _, hdi, _, hdep =>
              obtain rfl := Option.some.inj hdi
              rw [updV_self (show x 2 = _ from hdep 2 (by simp [depS2]))]
              exact OI_value rfl rfl (about_none (by intro c h; cases h)) (by intro c h; cases h) (.pointer (some ⟨h, 516, none⟩)) W (by kernel_rfl) ⟨rfl, rfl⟩
            | 4, hm, hdi, _, hdep =>
              obtain rfl := Option.some.inj hdi
              have hW := hR.1 (hm 0 9 rfl (by simp [depS2]))
              rw [updV_self (show x 3 = _ from hdep 3 (by simp [depS2]))]
              exact OI_value rfl rfl (about_none (by intro c h; cases h)) (by intro c h; cases h) (.int .i64 (p : Int)) W (lgRun_cell 3 _ ⟨h, 516, none⟩ _ _ rfl (by kernel_rfl) Try.underlying3 rfl W (pr5 (Row.below HW1.out hW (Row.lt HW1.out)) hA)) ⟨rfl, rfl⟩
            | 5, _, hdi, _, _ =>
              obtain rfl := Option.some.inj hdi
              exact OI_value rfl rfl (about_none (by intro c h; cases h)) (by intro c h; cases h) (.agg fd0.cells) W (by kernel_rfl) ⟨rfl, rfl⟩
            | 6, _, hdi, _, hdep =>
              obtain rfl := Option.some.inj hdi
              rw [updV_self (show x 0 = _ from hdep 0 (by simp [depS2]))]
              exact OI_value rfl rfl (about_none (by intro c h; cases h)) (by intro c h; cases h) (.pointer (some ⟨h, 0, none⟩)) W (by kernel_rfl) ⟨rfl, rfl⟩
            | 7, _, hdi, _, hdep =>
              obtain rfl := Option.some.inj hdi
              rw [updV_self (show x 6 = _ from hdep 6 (by simp [depS2]))]
              exact OI_value rfl rfl (about_none (by intro c h; cases h)) (by intro c h; cases h) (.pointer (some ⟨h, 4, none⟩)) W (by kernel_rfl) ⟨rfl, rfl⟩
            | 8, _, hdi, _, hdep =>
              obtain rfl := Option.some.inj hdi
              rw [updV_self (show x 7 = _ from hdep 7 (by simp [depS2])), updV_self (show (updV x 7 _) 4 = _ from hdep 4 (by simp [depS2]))]
              exact OI_value rfl rfl (about_none (by intro c h; cases h)) (by intro c h; cases h) (.pointer (some ⟨h, 4 + p * 2, none⟩)) W (lgRun_atArr 58 _ 256 2 _ _ h 4 p rfl (by kernel_rfl) (by kernel_rfl) Try.underlying58 fieldSize hp W) ⟨rfl, rfl⟩
            | 9, _, _, hc, _ => exact (hc (by simp)).elim
            | _ + 10, _, hdi, _, _ => simp [dsS2] at hdi
          case cal =>
            intro x W k ii d hR hk hdi hdep
            match k, hk, hR with
            | 0, hk, hR =>
              obtain rfl := Option.some.inj hk
              obtain rfl := Option.some.inj hdi
              rw [updV_self (show x 8 = _ from hdep 8 (by simp [depS2])), updV_self (show (updV x 8 _) 5 = _ from hdep 5 (by simp [depS2]))]
              have hW := hR.1 (by omega)
              refine OI_skip rfl rfl (about_none (by intro c h; cases h)) (by intro c h; cases h) (W.setCells h (4 + p * 2) fd0.cells.toList) (run_smidT 23 _ _ h (4 + p * 2) fd0.cells.toList rfl (by kernel_rfl) (by kernel_rfl) (by kernel_rfl) (fd_one _) W (Row.thereH (Row.below HW1.out hW (Row.lt HW1.out)) _ _ (by rw [ptC_size hA]; show 4 + p * 2 + 2 ≤ 518; omega))) ?_
              refine ⟨(put_none _ _).trans (put_far _ _ _ (by rw [puts_size]; exact Nat.le_of_ble_eq_true rfl)).symm, fun h => absurd h (by omega), fun _ => ⟨?_, (KeepP.of_below hW).trans (KeepP.setCells (st := fun k => k = h) rfl _ _ _)⟩⟩
              have := set_fields (Row.below HW1.out hW (Row.lt HW1.out)) p [fd0] (by rw [hA]; show p + 1 ≤ 256; omega)
              rw [fds_single] at this
              exact this
            | _ + 1, hk, _ => simp at hk
          case done =>
            intro W hR
            simp only [dsS2, putsV, valS2, Act.put, List.setIfInBounds_toArray, List.set_cons_succ, List.set_cons_zero, Nat.reduceAdd]
            have HR := veil (hR.2 (by decide))
            clear hR
            go_wp2_with fail
            go_meet
            exact HR.out
        case rest =>
          obtain ⟨hW2, hK2⟩ := hcut
          have hA2 : (A'.take p ++ [fd0] ++ A'.drop (p + 1)).length = 256 := by simp [hA]; omega
          have hl2 : ∀ j, (A'.take p ++ [fd0] ++ A'.drop (p + 1))[p + 1 + j]? = A'[p + 1 + j]? := by
            intro j
            rw [List.getElem?_append_right (by simp; omega)]
            simp only [List.length_append, List.length_take, List.length_singleton, List.getElem?_drop]
            congr 1
            omega
          have x5 := pr5 hW2 hA2
          have x3 := pr3 hW2
          have f5 := Row.frozen hW2 516
          have f3 := Row.frozen hW2 3
          have v5 : IntKind.i64.wrap ((p : Int) + 1) = ((p + 1 : Nat) : Int) := by rw [IntKind.wrap_i64]; omega
          have v3 : IntKind.u64.wrap ((g : Int) + 1) = ((g + 1 : Nat) : Int) := by rw [IntKind.wrap_u64]; omega
          have hfin := veil (set_gone (set_from hW2 hA2 (p + 1)) (g + 1))
          have hkf := veil (((HK.out.trans HK1.out).trans hK2).trans ((KeepP.setCell (st := fun k => k = h) rfl wc 516 (.int .i64 ((p + 1 : Nat) : Int))).trans (KeepP.setCell (st := fun k => k = h) rfl _ 3 (.int .u64 ((g + 1 : Nat) : Int)))))
          have hm2 := veil (show mz h ((wc.setCell ⟨h, 516, none⟩ (.int .i64 ((p + 1 : Nat) : Int))).setCell ⟨h, 3, none⟩ (.int .u64 ((g + 1 : Nat) : Int))) = 256 - (p + 1) from by unfold mz; rw [pr5 hfin.out hA2]; rfl)
          have hA2 := veil hA2
          have hl2 := veil hl2
          have hm := veil (show mz h wr = 256 - p from by unfold mz; rw [HX.out.c5]; rfl)
          have hf := veil hf
          clear hW2 hK2 hA
          go_wp2_with fail
          go_roundw
          case rel =>
            obtain ⟨h1, h2, h3, h4, h5, h6, h7, h8⟩ := HL.out
            refine ⟨k + 1, _, p + 1, ⟨?_, hA2.out, ?_, hq1, ?_, ?_, HX.out.rb, ?_⟩, h3, ?_, hkf.out⟩
            · show PtR _ h t.room (size (t.l.drop (k + 1))) (t.went + (k + 1)) _ (p + 1) q
              rw [h2, h6, ← Nat.add_assoc, h7]
              exact hfin.out
            · show p + 1 + (t.l.drop (k + 1)).length = q
              rw [h2]
              simp only [List.length_cons] at h8
              omega
            · intro j hj
              show _ = (t.l.drop (k + 1))[j]?
              have hj : j < (t.l.drop (k + 1)).length := hj
              rw [h2] at hj ⊢
              rw [hl2.out]
              have := HX.out.l (j + 1) (by simp only [List.length_cons]; omega)
              rw [show p + 1 + j = p + (j + 1) by omega, this]
              rfl
            · show size (t.l.drop (k + 1)) ≤ 4096
              rw [h2, h6]
              omega
            · have := HX.out.wb
              unfold Tab.came at this ⊢
              simp only [List.length_cons] at this
              show t.went + (k + 1) + (t.l.drop (k + 1)).length ≤ _
              rw [h2]
              omega
            · intro j hj
              rcases Nat.lt_or_ge j k with e | e
              · exact h4 j e
              · obtain rfl : j = k := by omega
                rw [h1, h5]
                exact hs
          case measure =>
            rw [hm.out]
            exact Nat.lt_of_le_of_lt (Nat.le_of_eq hm2.out) (by omega)
    · have hle : size (t.l.drop k) ≤ b := by omega
      have hgone : gone b 0 t.l = k := gone_is b 0 t.l k hk (fun j hj => by have := hneed j hj; omega) (.inr (by omega))
      have n0 : ¬ ((b : Int) < ((size (t.l.drop k) : Nat) : Int)) := by omega
      have HX := veil x
      have HK := veil hkeep
      obtain ⟨s, hs0⟩ : ∃ s, size (t.l.drop k) = s := ⟨_, rfl⟩
      rw [hs0] at x2 n0
      have HG := veil hgone
      clear x hkeep hneed hk hs hle hs0 hgone
      go_wp2_with fail
      go_end0
      exact ⟨rfl, ⟨A', p, by rw [HG.out]; exact HX.out⟩, HK.out⟩
end Tb
end Go.Proofs.Ytoajnhngcfjohaa
