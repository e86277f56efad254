/-
  Written by mksrmiss.py: the places of a run that are not among others.
-/
import Derived.Test.YtnlckmopgkabpaaGsSrEach
namespace Go.Proofs.Ytnlckmopgkabpaa
open Go Go.RowKit

namespace Sr
def RMi (q : World) (A0 M0 : List Rn) : Nat → World → Value → Prop
  | 0, W, _ => W = q
  | 1, W, u => Done q W (.slice none 0 0) u A0
  | _, W, u => Done q W (.slice none 0 0) u M0
theorem RMi.zero {q : World} {A0 M0 : List Rn} {k : Nat} {W : World} {u : Value} (h : RMi q A0 M0 k W u) (hk : k ≤ 0) : W = q := by
  obtain rfl : k = 0 := by omega
  exact h
theorem run_sliceV {P : Program} {a : Act} {o : Oper} (t : TypeId) (x lo hi : Operand) {v l h r : Value} {W : World} (ho : o.op = .slice t x (some lo) (some hi) none) (hx : a.eval x = v) (hl : a.eval lo = l) (hh : a.eval hi = h)
    (hr : (Instr.sliceAt t v (some l) (some h) none).run P W = .ok r W) : (execOp a.eval o).run P W = .ok (.value r) W := by
  unfold execOp
  simp [ho, hx, hl, hh, hr]
def depMi : Nat → List Nat
  | 0 => []
  | 1 => [0]
  | 2 => []
  | 3 => []
  | 4 => []
  | 5 => [2, 3, 4]
  | 6 => [1, 5]
  | 7 => [6]
  | _ => []
def dclMi : Nat → List Nat
  | 1 => [0]
  | 5 => [2, 3, 4]
  | 6 => [0, 1, 2, 3, 4, 5]
  | 7 => [0, 1, 2, 3, 4, 5, 6]
  | _ => []
def valMi (L : Value) (sa : Option Addr) (sc i j x1 y1 : Nat) : Nat → Value
  | 0 => .agg #[.int .u64 (x1 : Int), .int .u64 (y1 : Int)]
  | 2 => L
  | 3 => .int .i64 (i : Int)
  | 4 => .int .i64 (j : Int)
  | 5 => .slice sa (j - i) sc
  | _ => undef
set_option maxHeartbeats 1000000 in
set_option maxRecDepth 20000 in
theorem missing_any (w : World) {v : Value} {l : List Rn} {r : Rn} (h : RowO w 60 2 v l.length (vr l)) (hn : l.length ≤ 268435456) (hc : Canon l) (hr : r.1 ≤ r.2) :
    Calls Try.prog 29 #[v, rcA r] w fun e w' => ∃ v', e = .returned v' ∧ Done w w' (.slice none 0 0) v' (missing l r) := by
  obtain ⟨va, vc, hve, _, _⟩ := h.shape
  obtain ⟨n, hl⟩ : ∃ n, l.length = n := ⟨_, rfl⟩
  rw [hl] at hve
  have hb0 : Below w.heap.size w (w.alloc (.cells (rC2 r) 60)) := (Below.refl _ w).alloc (Nat.le_refl _) _
  have hlo := cnt_le (fun a => aheadB a r) l
  have hhi := hi_le aheadB l r
  have hlh := lo_le_hi aheadB l r
  have hrow := h.below hb0
  have hr0 : Row (w.alloc (.cells (rC2 r) 60)) w.heap.size 60 (rC2 r) := Row.new _ _ _
  have HN := near_any asks_ahead (w.alloc (.cells (rC2 r) 60)) (r := r) hrow rfl (by omega) hc (ups_ahead r)
  obtain ⟨sa, sc, s1, _, hsr, hso⟩ := sl_any (P := Try.prog) w 53 Try.underlying53 (by kernel_rfl) (show RowO w 60 2 v n (vr l) by rw [← hl]; exact h) hlh (by rw [← hl]; exact hhi)
  obtain ⟨M, hM⟩ : ∃ M, mids l r = M := ⟨_, rfl⟩
  have hMb : ∀ a ∈ M, a.1 ≤ a.2 := fun a ha => Nat.le_of_lt (hc.pos a (mids_mem (by rw [hM]; exact ha)))
  have lM : M.length = hi aheadB l r - lo aheadB l r := by rw [← hM]; unfold mids; rw [List.length_drop, List.length_take]; omega
  have vM : ((vr l).drop (lo aheadB l r * 2)).take ((hi aheadB l r - lo aheadB l r) * 2) = vr M := by
    rw [← hM]
    unfold mids
    rw [vr_drop, vr_take, List.drop_take, Nat.sub_mul]
  rw [vM] at hsr
  have hmis : missing l r = each cut (add [] r) M := by rw [← hM]; rfl
  rw [hmis]
  have cA := (add_laws (l := []) (r := r) trivial hr).1
  have lA := add_len r
  generalize hie : lo aheadB l r = i at *
  generalize hje : hi aheadB l r = j at *
  obtain ⟨A0, hA0⟩ : ∃ A0, add [] r = A0 := ⟨_, rfl⟩
  obtain ⟨M0, hM0⟩ : ∃ M0, each cut A0 M = M0 := ⟨_, rfl⟩
  have HA0 := add_any (v := .slice none 0 0) (l := []) (r := r) (w := w)
  rw [hA0, hM0]
  rw [hA0] at cA lA
  clear hmis vM hM hie hje HA0
  have HAD := fun W => add_any W (v := .slice none 0 0) (l := []) (r := r) (RowO.nil _ _ _) (by simp) trivial
  rw [hA0] at HAD
  obtain ⟨x1, y1⟩ := r
  have hr : x1 ≤ y1 := hr
  unfold rcA at HN HAD ⊢
  unfold rC2 at HN hrow hr0 hb0
  simp only at HN hrow hr0 hb0 HAD ⊢
  have HN := veil HN
  have HROW := veil hrow
  have HR0 := veil hr0
  have HB0 := veil hb0
  have HWB := veil (h.lt)
  generalize hW0 : w.alloc (.cells #[.int .u64 (x1 : Int), .int .u64 (y1 : Int)] 60) = W0 at *
  have HW0 := veil hW0
  have HSL := veil s1
  have HX := veil (show l.length = n ∧ n ≤ 268435456 ∧ i ≤ j ∧ j ≤ n ∧ M.length = j - i ∧ A0.length ≤ 1 ∧ Canon A0 ∧ (∀ a ∈ M, a.1 ≤ a.2) from ⟨hl, by omega, hlh, by omega, lM, lA, cA, hMb⟩)
  have HSR := veil (show ∀ W, RowO W 60 2 v l.length (vr l) → RowO W 60 2 (.slice sa (j - i) sc) M.length (vr M) from fun W hW => by rw [lM]; exact hsr W (by rw [← hl]; exact hW))
  have HSO := veil (show (Value.slice sa (j - i) sc).ownBlock = v.ownBlock from hso)
  have HM0 := veil hM0
  have HAD := veil HAD
  clear h hn hb0 hrow hr0 hW0 hl hr hc hlo hhi hlh s1 hsr hso hM0 hMb lM cA lA hA0
  subst hve
  go_enter Try.func29, Try.ntmps29
  go_wp2_with fail
  rw [HW0.out]
  refine HN.out.mono ?_
  rintro e1 w1 ⟨rfl, hb1⟩
  have HB1 := veil (HB0.out.trans (hb1.mono HB0.out.size))
  have HR1 := veil (show Row w1.drew w.heap.size 60 #[.int .u64 (x1 : Int), .int .u64 (y1 : Int)] from HR0.out.below hb1.drew HR0.out.lt)
  have HROW1 := veil (show RowO w1.drew 60 2 (.slice va n vc) l.length (vr l) from HROW.out.below hb1.drew)
  have HA := veil (HAD.out w1.drew)
  have HE := veil (show ∀ (W : World) (u : Value), Done w1.drew W (.slice none 0 0) u A0 → Calls Try.prog 28 #[u, .func (.func 20) #[] #[], .slice sa (j - i) sc] W (fun e w' => ∃ v', e = .returned v' ∧ Done w1.drew w' (.slice none 0 0) v' M0) from fun W u hD => by
    have hrw := HROW1.out.same (w' := W) (fun k hk => hD.keep.block k (HROW1.out.lt k hk) (fun e => by cases e))
    have hen := each_any chg_cut W (v := u) (u := .slice sa (j - i) sc) (l := A0) (by' := M) hD.row (HSR.out W hrw) (by have := HX.out; omega) HX.out.2.2.2.2.2.2.1 HX.out.2.2.2.2.2.2.2 (fun k hk e => by
      rw [HSO.out] at hk
      rcases hD.stay k e with q | q
      · cases q
      · exact absurd (HROW1.out.lt k hk) (by omega))
    refine hen.mono ?_
    rintro e w' ⟨v', rfl, hd⟩
    rw [HM0.out] at hd
    exact ⟨v', rfl, hD.trans hd⟩)
  clear hb1 HN HB0 HR0 HROW HW0 HAD
  go_wp2_with fail
  refine (wpIn_wide (n := 4)).1 ?_
  refine wpIn_region_any (by kernel_rfl) ?_
  refine anyIn_spine (valMi (.slice va n vc) sa sc i j x1 y1) (RMi w1.drew A0 M0) undef [1, 6, 7] [13, 14, 15, 16, 17, 18, 19, 4] depMi dclMi (by kernel_rfl) (by decide) rfl (by decide) (by decide) ?ord (by decide) ?h0 ?fix ?cal ?don
  case ord =>
    intro k i j h1 h2
    match k, h1, h2 with
    | 0, h1, h2 =>
      obtain rfl := Option.some.inj h1
      obtain rfl := Option.some.inj h2
      decide
    | 1, h1, h2 =>
      obtain rfl := Option.some.inj h1
      obtain rfl := Option.some.inj h2
      decide
    | 2, _, h2 => simp at h2
    | _ + 3, h1, _ => simp at h1
  case fix =>
    intro x W4 m2 ii d u hR hdi hni hdep hlo hhi
    match ii, hdi, hni, hdep, hhi with
    | 0, hdi, _, _, hhi =>
      obtain rfl := Option.some.inj hdi
      exact OI_value rfl rfl (about_none (by intro c h; cases h)) (by intro c h; cases h) (.agg #[.int .u64 (x1 : Int), .int .u64 (y1 : Int)]) W4 (lgRun_row 60 _ rfl w.heap.size (by kernel_rfl) 60 #[.int .u64 (x1 : Int), .int .u64 (y1 : Int)] 2 _ Try.underlying60 (by kernel_rfl) rfl W4 (by rw [hR.zero (hhi 0 1 rfl (by decide))]; exact HR1.out)) ⟨rfl, rfl⟩
    | 1, _, hni, _, _ => exact absurd (by decide) hni
    | 2, hdi, _, _, _ =>
      obtain rfl := Option.some.inj hdi
      exact OI_value rfl rfl (about_none (by intro c h; cases h)) (by intro c h; cases h) ((.slice va n vc)) W4 (by kernel_rfl) ⟨rfl, rfl⟩
    | 3, hdi, _, _, _ =>
      obtain rfl := Option.some.inj hdi
      exact OI_value rfl rfl (about_none (by intro c h; cases h)) (by intro c h; cases h) (.int .i64 (i : Int)) W4 (by kernel_rfl) ⟨rfl, rfl⟩
    | 4, hdi, _, _, _ =>
      obtain rfl := Option.some.inj hdi
      exact OI_value rfl rfl (about_none (by intro c h; cases h)) (by intro c h; cases h) (.int .i64 (j : Int)) W4 (by kernel_rfl) ⟨rfl, rfl⟩
    | 5, hdi, _, hdep, _ =>
      obtain rfl := Option.some.inj hdi
      rw [updV_self (show x 2 = _ from hdep 2 (by simp [depMi]) (by decide)), updV_self (show (updV x 2 _) 3 = _ from hdep 3 (by simp [depMi]) (by decide)), updV_self (show (updV (updV x 2 _) 3 _) 4 = _ from hdep 4 (by simp [depMi]) (by decide))]
      exact OI_value rfl rfl (about_none (by intro c h; cases h)) (by intro c h; cases h) (.slice sa (j - i) sc) W4 (run_sliceV 53 _ _ _ rfl (by kernel_rfl) (by kernel_rfl) (by kernel_rfl) (HSL.out _)) ⟨rfl, rfl⟩
    | 6, _, hni, _, _ => exact absurd (by decide) hni
    | 7, _, hni, _, _ => exact absurd (by decide) hni
    | _ + 8, hdi, _, _, _ => simp at hdi
  case cal =>
    intro x W4 k2 ii d u hR hk hdi hdep hu0 hup
    match k2, hk, hR, hu0, hup with
    | 0, hk, hR, hu0, hup =>
      obtain rfl := Option.some.inj hk
      obtain rfl := Option.some.inj hdi
      obtain rfl := hR
      rw [updV_self (show x 0 = _ from hdep 0 (by simp [depMi]) (by decide))]
      refine OI_call rfl rfl (by intro c h; cases h) 26 #[.slice none 0 0, .agg #[.int .u64 (x1 : Int), .int .u64 (y1 : Int)]] (fun _ _ => trivial) (by kernel_rfl) (by decide) ?_
      refine (callsIn_wide.2 HA.out).mono ?_
      rintro e w' ⟨u', rfl, hd⟩
      exact ⟨_, rfl, u', rfl, hd⟩
    | 1, hk, hR, hu0, hup =>
      obtain rfl := Option.some.inj hk
      obtain rfl := Option.some.inj hdi
      have h1 : x 1 = u := hup 0 1 rfl rfl
      rw [updV_self (show x 1 = u from h1), updV_self (show (updV x 1 _) 5 = _ from hdep 5 (by simp [depMi]) (by decide))]
      refine OI_call rfl rfl (by intro c h; cases h) 28 #[u, .func (.func 20) #[] #[], .slice sa (j - i) sc] (fun _ _ => trivial) (by kernel_rfl) (by decide) ?_
      refine (callsIn_wide.2 (HE.out W4 u hR)).mono ?_
      rintro e w' ⟨u', rfl, hd⟩
      exact ⟨_, rfl, u', rfl, hd⟩
    | 2, hk, hR, hu0, hup =>
      obtain rfl := Option.some.inj hk
      obtain rfl := Option.some.inj hdi
      rw [updV_self (show x 6 = u from hup 1 6 rfl rfl)]
      exact OI_value rfl rfl (about_none (by intro c h; cases h)) (by intro c h; cases h) u _ (by kernel_rfl) ⟨u, rfl, hR⟩
    | _ + 3, hk, _, _, _ => simp at hk
  case h0 => exact rfl
  case don =>
    rintro x9 W9 u9 hD9 _ hl9
    have h7 : x9 7 = u9 := hl9 2 7 rfl rfl
    simp only [putsV, Act.put, List.setIfInBounds_toArray, List.set_cons_succ, List.set_cons_zero, Nat.reduceAdd]
    rw [h7]
    generalize x9 0 = z0, x9 1 = z1, x9 2 = z2, x9 3 = z3, x9 4 = z4, x9 5 = z5, x9 6 = z6
    clear h7 hl9
    have hD9 : Done w1.drew W9 (.slice none 0 0) u9 M0 := hD9
    have HD := veil (Done.behind (HB1.out.drew) hD9)
    clear hD9
    go_wp2_with fail
    go_ret
    exact ⟨u9, rfl, HD.out⟩
end Sr
end Go.Proofs.Ytnlckmopgkabpaa
