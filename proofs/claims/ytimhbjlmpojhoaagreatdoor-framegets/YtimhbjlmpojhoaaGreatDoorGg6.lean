/-
  Out of FrFramesW, FrGet, FrGetN, HkLoop, BkTools, BkRgA, BkRgM, BkRgF.
-/
import Derived.Test.YtimhbjlmpojhoaaGreatDoorGg5
import Derived.Test.YtimhbjlmpojhoaaGreatDoorGg3
import Derived.Test.YtimhbjlmpojhoaaGreatDoorGg1
import Derived.Deep.MidRow
import Derived.RangeFuncBox
import Derived.Deep.RegionHeld3
import Derived.Maps.AppendAt
import Derived.ArgAppend
import Derived.BigQuiet
import Derived.Deep.AppendLies
import Derived.Deep.RegionLaw
import Derived.BigRegion
import Derived.Test.YtimhbjlmpojhoaaGreatDoorGg2

/-! frame's reader: frames. -/
namespace Go.Proofs.YtimhbjlmpojhoaaGreatDoor
open Go Go.RowKit

/-- What frames answers. -/
def FramesPost (w : World) (s : SL) (x : Ending) (w' : World) : Prop :=
  (∃ e, allP s.b [] = .error e ∧ x = .returned (.tuple #[.slice none 0 0, .int .i64 (e : Int)])) ∨ (∃ (Fs : List FrM) (lv : Value), allP s.b [] = .ok (Fs.map FrM.fr).reverse ∧ x = .returned (.tuple #[lv, .int .i64 0]) ∧ w'.ownsRow (w.heap.size + 3) 37 8 lv Fs.length (vf Fs) ∧ (∀ F ∈ Fs, FrNew (w.heap.size + 3) w' F) ∧ Fs.Pairwise aptR)
theorem own_shapeW {w : World} {base n : Nat} {v : Value} {xs : List Value} (h : w.ownsRow base 37 8 v n xs) : ∃ a c, v = .slice a n c := by
  rcases h.2 with ⟨rfl, rfl⟩ | ⟨g, c, _, rfl, _⟩
  · exact ⟨none, 0, rfl⟩
  · exact ⟨_, c, rfl⟩
def measL (g : Nat) (W : World) : Nat := match W.cell? ⟨g, 0, none⟩ with
  | some (.slice _ n _) => n
  | _ => 0
def depFW : Nat → List Nat
  | 2 => [1]
  | 3 => [2]
  | 4 => [0, 3]
  | 5 => [4]
  | _ => []
def valFW (g f : Nat) (lv : Value) : Nat → Value
  | 0 => lv
  | 1 => fv g f
  | _ => undef
/-- What the spine of a round brings about. -/
def frR (w : World) (g n : Nat) (s s' : SL) (lv : Value) (Fs : List FrM) : Nat → World → Value → Prop
  | 0, W, _ => Lp w g s s' n lv Fs W ∧ W.ownsRow (w.heap.size + 3) 37 8 lv Fs.length (vf Fs)
  | 1, W, u => ∃ F rest, ∃ s2 : SL, Fr.bodyP n s'.b = .ok (F.fr, rest) ∧ s2.b = rest ∧ Lp w g s s2 n lv (Fs ++ [F]) W ∧ W.ownsRow (w.heap.size + 3) 37 8 lv Fs.length (vf Fs) ∧ u = .agg F.cells
  | 2, W, u => ∃ F rest, ∃ (s2 : SL) (gN : Nat), Fr.bodyP n s'.b = .ok (F.fr, rest) ∧ s2.b = rest ∧ Lp w g s s2 n lv (Fs ++ [F]) W ∧ W.ownsRow (w.heap.size + 3) 37 8 lv Fs.length (vf Fs) ∧ u = .slice (some ⟨gN, 0, none⟩) 1 1 ∧ (∀ j v, (vf [F])[j]? = some v → W.cell? ((⟨gN, 0, none⟩ : Addr).add j) = some v)
  | 3, W, u => ∃ F rest, ∃ s2 : SL, Fr.bodyP n s'.b = .ok (F.fr, rest) ∧ s2.b = rest ∧ Lp w g s s2 n lv (Fs ++ [F]) W ∧ W.ownsRow (w.heap.size + 3) 37 8 u (Fs ++ [F]).length (vf (Fs ++ [F]))
  | _, W, _ => ∃ F rest, ∃ (s2 : SL) (lv' : Value), Fr.bodyP n s'.b = .ok (F.fr, rest) ∧ s2.b = rest ∧ Lp w g s s2 n lv' (Fs ++ [F]) W ∧ W.ownsRow (w.heap.size + 3) 37 8 lv' (Fs ++ [F]).length (vf (Fs ++ [F]))
theorem frR_cell {w W : World} {g n m : Nat} {s s' : SL} {lv u : Value} {Fs : List FrM} (h : frR w g n s s' lv Fs m W u) (hm : m ≤ 3) : W.cell? ⟨w.heap.size, 0, none⟩ = some lv := by
  match m, hm, h with
  | 0, _, h => exact h.1.rl.cell 0
  | 1, _, ⟨_, _, _, _, _, h, _⟩ => exact h.rl.cell 0
  | 2, _, ⟨_, _, _, _, _, _, h, _⟩ => exact h.rl.cell 0
  | 3, _, ⟨_, _, _, _, _, h, _⟩ => exact h.rl.cell 0
theorem vf_one (Fs : List FrM) : ∀ u ∈ vf Fs, u.oneCell' = true := by
  intro u hu
  obtain ⟨F, _, h⟩ := List.mem_flatMap.1 hu
  simp only [FrM.cells, List.mem_cons, List.not_mem_nil, or_false] at h
  rcases h with rfl | rfl | rfl | rfl | rfl | rfl | rfl | rfl <;> rfl
theorem frR_1 {w W W' : World} {g n : Nat} {s s' s2 : SL} {lv u v : Value} {Fs : List FrM} {f : Fr.Frame} {rest : List By} (h : frR w g n s s' lv Fs 0 W u) (he : Fr.bodyP n s'.b = .ok (f, rest)) (hv : frV W.heap.size f W' v) (hR : Rd W' g s2 n) (hb : s2.b = rest) (hsg : s2.g = s'.g) (hsl : s2.len ≤ s'.len) (hg : W.grownBy W' (some g)) : frR w g n s s' lv Fs 1 W' v := by
  obtain ⟨F, h1, h2, h3⟩ := hv
  have L2 := h.1.call hR hsg hsl hg
  refine ⟨F, rest, s2, by rw [h3]; exact he, hb, ⟨L2.rd, L2.sg, L2.sl, L2.rl, L2.re, L2.mp, fun G hG => ?_, apt_snoc h.1.apt h.1.each h2, L2.gro, L2.ord⟩, own_grown h.2 hg (by have := h.1.ord; omega), h1⟩
  rcases List.mem_append.1 hG with hG | hG
  · exact L2.each G hG
  · rw [List.mem_singleton.1 hG]
    exact h2.low h.1.top
theorem frR_2 {w W : World} {g n : Nat} {s s' : SL} {lv : Value} {Fs : List FrM} {F : FrM} {rest : List By} {s2 : SL} (h1 : Fr.bodyP n s'.b = .ok (F.fr, rest)) (h2 : s2.b = rest) (h3 : Lp w g s s2 n lv (Fs ++ [F]) W) (h4 : W.ownsRow (w.heap.size + 3) 37 8 lv Fs.length (vf Fs)) : frR w g n s s' lv Fs 2 (W.alloc (.cells F.cells 37)) (.slice (some ⟨W.heap.size, 0, none⟩) 1 1) := by
  have b : Below W.heap.size W (W.alloc (.cells F.cells 37)) := (Below.refl _ _).alloc (Nat.le_refl _) _
  refine ⟨F, rest, s2, W.heap.size, h1, h2, h3.keep (b.mono h3.top) (others_below b), own_below2 h4 b, rfl, fun j u hj => ?_⟩
  have rr : Row (W.alloc (.cells F.cells 37)) W.heap.size 37 F.cells := Row.new _ _ _
  rw [add_at, Nat.zero_add, rr.cell j, ← hj]
  show F.cells.toList.toArray[j]? = _
  rw [List.getElem?_toArray]
  show _ = (F.cells.toList ++ vf [])[j]?
  rw [show vf [] = [] from rfl, List.append_nil]
theorem frR_3 {w W : World} {g n gN : Nat} {s s' : SL} {lv : Value} {Fs : List FrM} (hF : Fs.length ≤ 1024) (h : frR w g n s s' lv Fs 2 W (.slice (some ⟨gN, 0, none⟩) 1 1)) :
    ∃ v' W', (Builtin.append_ #[22, 22] 22 #[lv, .slice (some ⟨gN, 0, none⟩) 1 1]).run Tryz.prog W = .ok v' W' ∧ frR w g n s s' lv Fs 3 W' v' := by
  obtain ⟨i0, hi, hz0, hz1, hz2⟩ := frame_info
  obtain ⟨F, rest, s2, gN', h1, h2, h4, h5, h6, h7⟩ := h
  injection h6 with e
  injection e with e
  injection e with e
  subst e
  obtain ⟨v', W', hr, ho, hg, _⟩ := run_append_own (P := Tryz.prog) W (w.heap.size + 3) 22 22 37 i0 (.agg zF) 8 96 Tryz.underlying22 hi hz0 hz1 hz2 rfl (by decide) lv Fs.length (vf Fs) h5 ⟨gN, 0, none⟩ 1 1 (vf [F]) rfl h7 (vf_one _) (by unfold maxLen; omega) (by omega) h4.top
  have b : Below (w.heap.size + 3) W W' := (Below.refl _ W).grown hg h4.top (fun p e => (h5.lt p e).1)
  have oth : Others (w.heap.size + 3) W W' := by
    refine ⟨hg.size, fun k hk hl hno => hg.block k hl (fun e => ?_)⟩
    rcases h5.2 with ⟨q, _⟩ | ⟨gL, c, cur, q, _, q5, _⟩
    · rw [q] at e; cases e
    · rw [q] at e
      have e2 : k = gL := Option.some.inj e
      subst e2
      exact hno _ _ q5
  refine ⟨v', W', hr, F, rest, s2, h1, h2, h4.keep b oth, ?_⟩
  rw [vf_append, List.length_append]
  exact ho

theorem run_callF {a : Act} {o : Oper} (x : Operand) (g n : Nat) (ht : Fr.isType n = true) (ho : o.op = .call { callee := .value x, args := #[], argTypes := #[] }) (hx : a.eval x = fv g (fnOf n)) (W : World) : (execOp a.eval o).run Tryz.prog W = .ok (.enter (fnOf n) #[.pointer (some ⟨g, 0, none⟩)]) W := by
  unfold execOp
  simp only [ho, resolve, hx, List.map_toArray, List.map_nil]
  rcases type_cases ht with rfl | rfl | rfl | rfl | rfl | rfl | rfl | rfl | rfl | rfl | rfl | rfl | rfl | rfl | rfl | rfl | rfl | rfl | rfl | rfl | rfl | rfl | rfl
  all_goals kernel_rfl

set_option maxRecDepth 20000 in
set_option maxHeartbeats 4000000 in
theorem fr_frames (g : Nat) (s : SL) (tb : Nat) (w : World) (h : Rd w g s tb) :
    Calls Tryz.prog 69 #[.pointer (some ⟨g, 0, none⟩)] w fun x w' => FramesPost w s x w' ∧ w.grownBy w' (some g) := by
  have hmf : ∀ (fn : Fn) (first cap : Array Value) (w : World), (Instr.makeFunc fn first cap).run Tryz.prog w = .ok (.func fn first cap) w := fun _ _ _ _ => rfl
  have hgw := h.row.lt
  have hLl := h.lens.lt
  have H := veil h
  have B0 := veil (show Below w.heap.size w ((w.alloc (.cells #[.slice none 0 0] 22)).alloc (.cells #[.int .i64 0] 27)) from ((Below.refl _ w).alloc (Nat.le_refl _) _).alloc (by simp) _)
  have RL := veil (show Row ((w.alloc (.cells #[.slice none 0 0] 22)).alloc (.cells #[.int .i64 0] 27)) w.heap.size 22 #[.slice none 0 0] from (Row.new _ _ _).alloc _)
  have RE := veil (show Row ((w.alloc (.cells #[.slice none 0 0] 22)).alloc (.cells #[.int .i64 0] 27)) (w.heap.size + 1) 27 #[.int .i64 0] from Row.new1 _ _ _ _)
  have hs0 : ((w.alloc (.cells #[.slice none 0 0] 22)).alloc (.cells #[.int .i64 0] 27)).heap.size = w.heap.size + 2 := by simp
  clear h
  refine (callsIn_wide (n := 4)).1 ?_
  refine callsIn_of_wp_defers Tryz.func69 rfl trivial ?_ rfl
  simp only [Tryz.ntmps69, List.size_toArray, List.length_cons, List.length_nil, Nat.reduceAdd, Nat.reduceSub, Array.replicate_succ, Array.replicate_zero, List.push_toArray, List.append_toArray, List.nil_append, List.cons_append]
  gi_wp2_with fail
  refine ⟨trivial, (callsIn_wide.2 (rd_rows g ((w.alloc (.cells #[.slice none 0 0] 22)).alloc (.cells #[.int .i64 0] 27)))).mono ?_⟩
  rintro x1 w1 ⟨rfl, hM1, hb1⟩
  rw [hs0] at hM1 hb1 ⊢
  have LP := veil (show Lp w g s s tb (.slice none 0 0) [] w1 from ⟨(H.out.below B0.out).below (by rw [hs0]; exact hb1), rfl, Nat.le_refl _, RL.out.below hb1 (by omega), RE.out.below hb1 (by omega), hM1, (fun F hF => by cases hF), List.Pairwise.nil, grown_trans (grown_below B0.out) (grown_below (by rw [hs0]; exact hb1)), hgw, hLl, fun p => H.out.ok.lt p⟩)
  clear hM1 hb1 B0 RL RE hs0
  gi_wp2_with fail
  gi_loopw [5] (fun _ wr => ∃ (Fs : List FrM) (s' : SL) (tb' : Nat) (lv : Value), Lp w g s s' tb' lv Fs wr ∧ wr.ownsRow (w.heap.size + 3) 37 8 lv Fs.length (vf Fs) ∧ Fs.length ≤ 1024 ∧ allP s.b [] = allP s'.b (Fs.map FrM.fr).reverse)
    (fun _ wr => measL g wr)
  case atStart => exact ⟨[], s, tb, .slice none 0 0, LP.out, World.ownsRow_nil _ _ _ _, Nat.zero_le _, rfl⟩
  case round =>
    clear LP
    obtain ⟨Fs, s1, tb1, lv, hL, hO, hn, hE⟩ := hrel
    obtain ⟨aV, cV, rfl⟩ := own_shapeW hO
    have c0 : wr.cell? ⟨g, 0, none⟩ = some (.slice s1.a s1.len s1.cap) := hL.rd.row.cell 0
    have cl : wr.cell? ⟨w.heap.size, 0, none⟩ = some (.slice aV Fs.length cV) := hL.rl.cell 0
    have zl := hL.rl.frozen 0
    have ce : wr.cell? ⟨w.heap.size + 1, 0, none⟩ = some (.int .i64 0) := hL.re.cell 0
    have ze := hL.re.frozen 0
    have LP := veil hL
    have OW := veil hO
    have HE := veil hE
    have HM := veil (show measL g wr = s1.len by unfold measL; rw [c0])
    clear hL hO hE
    by_cases hl : s1.len = 0
    · have f1 : decide ((0 : Int) < (s1.len : Int)) = false := by simp; omega
      have f1n : decide (0 < s1.len) = false := by simp; omega
      have E := veil (show allP s.b [] = .ok (Fs.map FrM.fr).reverse by rw [HE.out, List.eq_nil_of_length_eq_zero (show s1.b.length = 0 by rw [LP.out.rd.ok.hb]; exact hl)]; rfl)
      have L2 := veil (LP.out.store (.slice aV Fs.length cV))
      have O2 := veil (own_setc (j := 0) (u := .slice aV Fs.length cV) OW.out (show w.heap.size < w.heap.size + 3 by omega))
      clear hl
      gi_wp2_with fail
      refine door_ret w.heap.size _ aV Fs.length cV ((L2.out.rl).other (a := ⟨w.heap.size + 1, 0, none⟩) (show w.heap.size ≠ w.heap.size + 1 by omega) _) (L2.out.re.set 0 _) rfl rfl ?_
      refine ⟨.inr ⟨Fs, _, E.out, rfl, own_setc O2.out (by omega), (fun F hF => (L2.out.each F hF).keep ⟨by simp [World.setCell], fun k hk _ _ => Below.heap_setCell _ _ _ _ (fun e => by have e : k = w.heap.size + 1 := e; omega)⟩), L2.out.apt⟩, grown_setc L2.out.gro (by omega) _⟩
    have f1 : decide ((0 : Int) < (s1.len : Int)) = true := by simp; omega
    have f1n : decide (0 < s1.len) = true := by simp; omega
    have hbne : s1.b ≠ [] := fun e => hl (by have := LP.out.rd.ok.hb; rw [e] at this; exact this.symm)
    have HB := veil hbne
    have HL := veil hl
    clear hbne hl
    have hpan : ∀ (W : World) (e : Nat) (tmps : Array Value), allP s.b [] = .error e → Row W w.heap.size 22 #[.slice aV Fs.length cV] → Row W (w.heap.size + 1) 27 #[.int .i64 0] → w.grownBy W (some g) → tmps.getD 2 undef = .pointer (some ⟨w.heap.size, 0, none⟩) → tmps.getD 3 undef = .pointer (some ⟨w.heap.size + 1, 0, none⟩) → LeavesIn Fence.wide 4 Tryz.prog Tryz.f69 tmps (fun x w' => FramesPost w s x w' ∧ w.grownBy w' (some g)) [dfr w.heap.size] (.panicking [{ v := .iface 27 (.int .i64 (e : Int)), recovered := false }]) W :=
      fun W e tmps he hrl hre hg h2 h3 => door_pan w.heap.size e W _ _ hrl hre h2 h3 ⟨.inl ⟨e, he, rfl⟩, grown_setc (grown_setc hg (Nat.le_refl _) _) (by omega) _⟩
    have PAN := veil hpan
    clear hpan
    by_cases h1024 : Fs.length = 1024
    · have f2 : ((Fs.length : Int) == 1024) = true := by simp; omega
      have E := veil (show allP s.b [] = .error 3 by rw [HE.out]; exact allP_full HB.out (by rw [List.length_reverse, List.length_map]; exact h1024))
      clear h1024
      gi_wp2_with fail
      exact PAN.out _ 3 _ E.out LP.out.rl LP.out.re LP.out.gro rfl rfl
    have f2 : ((Fs.length : Int) == 1024) = false := by simp; omega
    have HN := veil (show (Fs.map FrM.fr).reverse.length ≠ 1024 by rw [List.length_reverse, List.length_map]; exact h1024)
    have hn2 : Fs.length < 1024 := by omega
    clear h1024
    gi_wp2_with fail
    refine ⟨trivial, (callsIn_wide.2 (rd_begin g (w.heap.size + 2) s1 tb1 wr LP.out.rd LP.out.mp (by omega))).mono ?_⟩
    rintro x2 w2 (⟨e, he, rfl, hg⟩ | ⟨n, r, s2, he, rfl, ht, hR2, hb2, hsg2, hsl2, hg2⟩)
    · exact PAN.out _ e _ (HE.out.trans (allP_err HB.out HN.out ((frameP_begin s1.b).trans (Fr.thenR_err he)))) (LP.out.rl.grown hg (by omega)) (LP.out.re.grown hg (by omega)) (grown_trans LP.out.gro hg) rfl rfl
    have EB := veil he
    have B2 := veil hb2
    have HT := veil ht
    have L2 := veil (LP.out.call hR2 hsg2 hsl2 hg2)
    have O2 := veil (own_grown OW.out hg2 (show g < w.heap.size + 3 by omega))
    have M2 := veil (show s2.len < s1.len by
      have h1 : s2.b.length < s1.b.length := by
        rw [hb2]
        unfold beginR at he
        cases hq : Fr.getN s1.b with
        | none => rw [hq] at he; cases he
        | some p =>
          obtain ⟨n', k'⟩ := p
          rw [hq] at he
          simp only at he
          obtain ⟨k1, k2, _⟩ := Fr.getN_some hq
          split at he
          · injection he with he
            injection he with _ he
            rw [← he, List.length_drop]
            omega
          · cases he
      have := LP.out.rd.ok.hb
      have := hR2.ok.hb
      omega)
    clear he hb2 ht hR2 hsg2 hsl2 hg2 cl zl ce ze c0 OW
    gi_wp2_with fail
    refine wpIn_region_any (by kernel_rfl) ?_
    refine anyIn_spine (valFW g (fnOf n) (.slice aV Fs.length cV)) (frR w g n s s2 (.slice aV Fs.length cV) Fs) undef [2, 3, 4, 5] [22, 23, 24, 25, 26, 100000] depFW depFW (by kernel_rfl) (by decide) rfl (by decide) (by decide) ?ord (by decide) ⟨L2.out.keep ((Below.refl _ _).drew) (others_below ((Below.refl _ _).drew)), O2.out⟩ ?fix ?cal ?don
    case ord =>
      intro k i j hk hk1
      match k, hk, hk1 with
      | 0, hk, hk1 => obtain rfl := Option.some.inj hk; obtain rfl := Option.some.inj hk1; decide
      | 1, hk, hk1 => obtain rfl := Option.some.inj hk; obtain rfl := Option.some.inj hk1; decide
      | 2, hk, hk1 => obtain rfl := Option.some.inj hk; obtain rfl := Option.some.inj hk1; decide
      | 3, _, hk1 => simp at hk1
      | _ + 4, hk, _ => simp at hk
    case fix =>
      intro x W m ii d u hR hdi hni hdep hlo hhi
      match ii, hdi, hdep with
      | 0, hdi, hdep =>
        obtain rfl := Option.some.inj hdi
        have hm : m ≤ 2 := hhi 2 4 rfl (by decide)
        exact OI_value rfl rfl (about_none (by intro c h; cases h)) (by intro c h; cases h) (.slice aV Fs.length cV) W (run_cellF 22 _ ⟨w.heap.size, 0, none⟩ _ _ rfl (by kernel_rfl) Tryz.underlying22 rfl W (frR_cell hR (by omega))) ⟨rfl, rfl⟩
      | 1, hdi, hdep =>
        obtain rfl := Option.some.inj hdi
        exact OI_value rfl rfl (about_none (by intro c h; cases h)) (by intro c h; cases h) (fv g (fnOf n)) W (by kernel_rfl) ⟨rfl, rfl⟩
      | 2, _, _ => exact absurd (by decide) hni
      | 3, _, _ => exact absurd (by decide) hni
      | 4, _, _ => exact absurd (by decide) hni
      | 5, _, _ => exact absurd (by decide) hni
      | _ + 6, hdi, _ => simp at hdi
    case cal =>
      intro x W k ii d u hR hk hdi hdep hu0 hup
      match k, hk, hR, hup with
      | 0, hk, hR, _ =>
        obtain rfl := Option.some.inj hk
        obtain rfl := Option.some.inj hdi
        rw [updV_self (show x 1 = _ from hdep 1 (by simp [depFW]) (by decide))]
        refine OI_callP rfl rfl (by intro c h; cases h) (fnOf n) #[.pointer (some ⟨g, 0, none⟩)] (fun _ _ => trivial) (run_callF _ g n HT.out rfl (by kernel_rfl) W) (by decide) ?_
        refine (callsIn_wide.2 (rd_row g n s2 W HT.out hR.1.rd)).mono ?_
        rintro xx ww (⟨e, he, rfl, hg⟩ | ⟨f5, b5, v5, s5, he5, rfl, hv5, hR5, hb5, hsg5, hsl5, hg5⟩)
        · right
          refine ⟨_, rfl, ?_⟩
          exact PAN.out _ e _ (HE.out.trans (allP_err HB.out HN.out ((frameP_begin s1.b).trans ((thenR_ok EB.out).trans (by rw [← B2.out]; exact he))))) (hR.1.rl.grown hg (by omega)) (hR.1.re.grown hg (by omega)) (grown_trans hR.1.gro hg) rfl rfl
        · left
          exact ⟨v5, rfl, v5, rfl, frR_1 hR he5 hv5 hR5 hb5 hsg5 hsl5 hg5⟩
      | 1, hk, hR, hup =>
        obtain rfl := Option.some.inj hk
        obtain rfl := Option.some.inj hdi
        obtain ⟨F, rest, s5, q1, q2, q3, q4, q5⟩ := hR
        have hx : x 2 = u := hup 0 2 rfl rfl
        subst q5
        rw [updV_self hx]
        exact OI_value rfl rfl (about_none (by intro c h; cases h)) (by intro c h; cases h) (.slice (some ⟨W.heap.size, 0, none⟩) 1 1) (W.alloc (.cells F.cells 37)) (by kernel_rfl) ⟨_, rfl, frR_2 q1 q2 q3 q4⟩
      | 2, hk, hR, hup =>
        obtain rfl := Option.some.inj hk
        obtain rfl := Option.some.inj hdi
        have hx : x 3 = u := hup 1 3 rfl rfl
        have hR' := hR
        obtain ⟨F, rest, s5, gN, q1, q2, q3, q4, q5, q6⟩ := hR'
        subst q5
        rw [updV_self hx, updV_self (show updV x 3 _ 0 = _ from hdep 0 (by simp [depFW]) (by decide))]
        obtain ⟨v6, W6, hr6, h6⟩ := frR_3 (by omega) hR
        exact OI_value rfl rfl (about_builtin _ _ _ rfl) (by intro c h; cases h) v6 W6 (exec_append _ _ _ _ rfl _ _ (by kernel_rfl) (by kernel_rfl) v6 W6 hr6) ⟨_, rfl, h6⟩
      | 3, hk, hR, hup =>
        obtain rfl := Option.some.inj hk
        obtain rfl := Option.some.inj hdi
        have hx : x 4 = u := hup 2 4 rfl rfl
        obtain ⟨F, rest, s5, q1, q2, q3, q4⟩ := hR
        obtain ⟨aN, cN, rfl⟩ := own_shapeW q4
        rw [updV_self hx]
        refine OI_skip rfl rfl (about_none (by intro c h; cases h)) (by intro c h; cases h) (W.setCell ⟨w.heap.size, 0, none⟩ (.slice aN (Fs ++ [F]).length cN)) ?_ ?_
        · exact run_storeS 22 _ _ ⟨w.heap.size, 0, none⟩ aN (Fs ++ [F]).length cN _ rfl (by kernel_rfl) (by kernel_rfl) (by kernel_rfl) W (q3.rl.cell 0) (q3.rl.frozen 0)
        · refine ⟨undef, (put_none _ _).trans (put_far _ _ _ (by rw [puts_size]; exact Nat.le_of_ble_eq_true rfl)).symm, F, rest, s5, _, q1, q2, q3.store _, ?_⟩
          exact own_setc q4 (by omega)
      | _ + 4, hk, _, _ => simp at hk
    case don =>
      intro x W u hR hx _
      obtain ⟨F, rest, s5, lv', q1, q2, q3, q4⟩ := hR
      have STP := veil (show ∃ (Fs' : List FrM) (s' : SL) (tb' : Nat) (lv : Value), Lp w g s s' tb' lv Fs' W ∧ W.ownsRow (w.heap.size + 3) 37 8 lv Fs'.length (vf Fs') ∧ Fs'.length ≤ 1024 ∧ allP s.b [] = allP s'.b (Fs'.map FrM.fr).reverse from
        ⟨Fs ++ [F], s5, n, lv', q3, q4, by rw [List.length_append]; simp only [List.length_cons, List.length_nil]; omega, by
          rw [HE.out, allP_ok HB.out HN.out ((frameP_begin s1.b).trans ((thenR_ok EB.out).trans (by rw [← B2.out]; exact q1))), q2, List.map_append, List.reverse_append]
          rfl⟩)
      have HMS := veil (show measL g W < s1.len by
        have h1 : W.cell? ⟨g, 0, none⟩ = some (.slice s5.a s5.len s5.cap) := q3.rd.row.cell 0
        have h2 : measL g W = s5.len := by unfold measL; rw [h1]
        have h3 : s5.b.length ≤ s2.b.length := by
          rw [q2]
          by_cases hn0 : n = 0
          · subst hn0
            have : Fr.padR 1 s2.b = .ok (F.fr, rest) := q1
            exact (Fr.padR_told _ _ _ _ this).2.1
          · have : Fr.bodyR n s2.b = .ok (F.fr, rest) := by unfold Fr.bodyP at q1; rwa [if_neg hn0] at q1
            exact Fr.shr_body n _ _ _ this
        have := M2.out
        have := q3.rd.ok.hb
        have := L2.out.rd.ok.hb
        omega)
      have z0 := hx 0 (by decide) (by decide)
      have z1 := hx 1 (by decide) (by decide)
      generalize x 2 = x2
      generalize x 3 = x3
      generalize x 4 = x4
      simp only [putsV, z0, z1, valFW, Act.put, List.setIfInBounds_toArray, List.set_cons_succ, List.set_cons_zero, Nat.reduceAdd]
      clear z0 z1 hx q1 q2 q3 q4
      gi_wp2_with fail
      go_roundw
      case rel => exact ⟨_, _, _, _, _, _, _, _, _, _, _, _, _, _, _, _, _, _, _, STP.out, rfl⟩
      case measure => rw [HM.out]; exact HMS.out
end Go.Proofs.YtimhbjlmpojhoaaGreatDoor

/-! frame.Get, at any bytes. -/
namespace Go.Proofs.YtimhbjlmpojhoaaGreatDoor
open Go Go.RowKit

theorem vf_at : ∀ (Fs : List FrM) (j i : Nat) (v : Value), j < Fs.length → (gf Fs j).cells.toList[i]? = some v → (vf Fs)[j * 8 + i]? = some v
  | [], _, _, _, h, _ => absurd h (Nat.not_lt_zero _)
  | F :: Fs, 0, i, v, _, hv => by
    have e : vf (F :: Fs) = F.cells.toList ++ vf Fs := rfl
    have hi : i < F.cells.toList.length := (List.getElem?_eq_some_iff.1 hv).1
    rw [e, Nat.zero_mul, Nat.zero_add, List.getElem?_append_left hi]
    exact hv
  | F :: Fs, j + 1, i, v, h, hv => by
    have e : vf (F :: Fs) = F.cells.toList ++ vf Fs := rfl
    have hl : F.cells.toList.length = 8 := rfl
    rw [e, List.getElem?_append_right (by omega), hl, show (j + 1) * 8 + i - 8 = j * 8 + i by omega]
    exact vf_at Fs j i v (by simpa using h) (by rw [gf_succ] at hv; exact hv)
theorem fs_own {w : World} {base n : Nat} {v : Value} {Fs : List FrM} (hn : Fs.length = n) (h : w.ownsRow base 37 8 v n (vf Fs)) (he : ∀ F ∈ Fs, FrNew base w F) : ∃ fs : FS, v = .slice fs.a fs.len fs.cap ∧ fs.Ok w ∧ fs.l = Fs := by
  have each : ∀ j, j < Fs.length → (gf Fs j).Ok w := by
    intro j hj
    refine (he _ ?_).ok
    unfold gf
    rw [List.getElem?_eq_getElem hj]
    exact List.getElem_mem hj
  rcases h.2 with ⟨rfl, h0⟩ | ⟨g, c, cur, rfl, hb, hh, hc, hm, hsz, htk⟩
  · exact ⟨⟨none, 0, 0, 0, 0, Fs⟩, rfl, ⟨by rw [hn]; exact h0, Nat.le_refl _, fun _ => ⟨rfl, rfl⟩, fun p => absurd p (Nat.lt_irrefl _), fun p => absurd p (Nat.lt_irrefl _), fun j hj => absurd hj (Nat.not_lt_zero _), fun j hj => absurd hj (Nat.not_lt_zero _)⟩, rfl⟩
  · refine ⟨⟨some ⟨g, 0, none⟩, n, c, g, 0, Fs⟩, rfl, ⟨hn, hc, (fun e => by cases e), fun _ => rfl, fun _ => (Array.getElem?_eq_some_iff.1 hh).1, fun j hj => ?_, fun j hj => each j (by rw [hn]; exact hj)⟩, rfl⟩
    intro i u hu
    have := h.cells (g := g) rfl (j * 8 + i) u (vf_at Fs j i u (by rw [hn]; exact hj) hu)
    rw [add_at, Nat.zero_add] at this
    show w.cell? ⟨g, 0 + j * 8 + i, none⟩ = _
    rw [Nat.zero_add]
    exact this
theorem data_le (f : Fr.Frame) (h : Fr.mayF f) : f.data.length ≤ (Fr.putF f).length := by
  have hk := may_kind h
  have nod : ∀ k, f.kind = k → k < 15 → tb k 5 = false → f.data = [] := by
    intro k hk1 hk2 hk3
    have hm := h.2
    have hb : bareK f := by
      rw [bare_k f k hk1 hk2]
      have hq : k = 1 ∨ k = 2 ∨ k = 3 ∨ k = 4 ∨ k = 5 ∨ k = 6 ∨ k = 7 ∨ k = 8 ∨ k = 9 ∨ k = 10 ∨ k = 11 ∨ k = 12 ∨ k = 13 ∨ k = 14 := by omega
      rw [hk1] at hm
      rcases hq with rfl | rfl | rfl | rfl | rfl | rfl | rfl | rfl | rfl | rfl | rfl | rfl | rfl | rfl <;> first | exact hm.1 | exact hm
    have := (bare_k f k hk1 hk2).1 hb
    unfold Fr.bareF at this
    rcases this.2.2.2.2.2.1 with q | q
    · rw [hk3] at q; cases q
    · exact q
  have hq : f.kind = 1 ∨ f.kind = 2 ∨ f.kind = 3 ∨ f.kind = 4 ∨ f.kind = 5 ∨ f.kind = 6 ∨ f.kind = 7 ∨ f.kind = 8 ∨ f.kind = 9 ∨ f.kind = 10 ∨ f.kind = 11 ∨ f.kind = 12 ∨ f.kind = 13 ∨ f.kind = 14 := by omega
  rcases hq with q | q | q | q | q | q | q | q | q | q | q | q | q | q
  case inr.inr.inr.inr.inr.inl => unfold Fr.putF; rw [q]; simp only [Fr.sizedL, List.length_append]; omega
  case inr.inr.inr.inr.inr.inr.inl => unfold Fr.putF; rw [q]; simp only [Fr.sizedL, List.length_append]; omega
  case inr.inr.inr.inr.inr.inr.inr.inr.inr.inr.inr.inr.inl => unfold Fr.putF; rw [q]; simp only [Fr.sizedL, List.length_append]; omega
  all_goals
    rw [nod _ q (by decide) rfl]
    exact Nat.zero_le _
theorem putF_le {l : List Fr.Frame} {f : Fr.Frame} (h : f ∈ l) : (Fr.putF f).length ≤ (Fr.putAll l).length := by
  induction l with
  | nil => cases h
  | cons g l ih =>
    rw [Fr.putAll, List.length_append]
    rcases List.mem_cons.1 h with rfl | h
    · omega
    · have := ih h
      omega
/-- How great what was read can be. -/
theorem told_le {b : List By} {l : List Fr.Frame} (h : Fr.getAll b = .ok l) {f : Fr.Frame} (hf : f ∈ l) : f.data.length ≤ 1048584 ∧ f.ranges.length ≤ 64 := by
  obtain ⟨h1, _, _, h4, h5⟩ := Fr.get_told h
  have hm := h1 f hf
  refine ⟨by have := data_le f hm; have := putF_le hf; omega, ?_⟩
  have hk := may_kind hm
  by_cases k3 : f.kind = 3
  · have := hm.2
    rw [k3] at this
    exact this.2.2.1
  · have hb : f.ranges = [] := by
      have hm2 := hm.2
      have hq : f.kind = 1 ∨ f.kind = 2 ∨ f.kind = 4 ∨ f.kind = 5 ∨ f.kind = 6 ∨ f.kind = 7 ∨ f.kind = 8 ∨ f.kind = 9 ∨ f.kind = 10 ∨ f.kind = 11 ∨ f.kind = 12 ∨ f.kind = 13 ∨ f.kind = 14 := by omega
      rcases hq with q | q | q | q | q | q | q | q | q | q | q | q | q <;> rw [q] at hm2
      · exact hm2.1.2.2.2.2.2.2.resolve_left (by decide)
      · exact hm2.2.2.2.2.2.2.resolve_left (by decide)
      · exact hm2.2.2.2.2.2.2.resolve_left (by decide)
      · exact hm2.2.2.2.2.2.2.resolve_left (by decide)
      · exact hm2.2.2.2.2.2.2.resolve_left (by decide)
      · exact hm2.2.2.2.2.2.2.resolve_left (by decide)
      · exact hm2.2.2.2.2.2.2.resolve_left (by decide)
      · exact hm2.2.2.2.2.2.2.resolve_left (by decide)
      · exact hm2.1.2.2.2.2.2.2.resolve_left (by decide)
      · exact hm2.2.2.2.2.2.2.resolve_left (by decide)
      · exact hm2.2.2.2.2.2.2.resolve_left (by decide)
      · exact hm2.2.2.2.2.2.2.resolve_left (by decide)
      · exact hm2.2.2.2.2.2.2.resolve_left (by decide)
    rw [hb]
    exact Nat.zero_le _
/-- What Get answers. -/
def GetPost (w : World) (b : List By) (x : Ending) (w' : World) : Prop :=
  (∃ e, Fr.getAll b = .error e ∧ x = .returned (.tuple #[.slice none 0 0, .int .i64 (e : Int)])) ∨ (∃ fs : FS, Fr.getAll b = .ok fs.fr ∧ x = .returned (.tuple #[.slice fs.a fs.len fs.cap, .int .i64 0]) ∧ fs.Ok w' ∧ (fs.len ≤ 1024 ∧ ∀ j, j < fs.len → (gf fs.l j).data.len ≤ 1048584 ∧ (gf fs.l j).ranges.len ≤ 64) ∧ w'.ownsRow w.heap.size 37 8 (.slice fs.a fs.len fs.cap) fs.len (vf fs.l) ∧ ∀ F ∈ fs.l, FrNew w.heap.size w' F)

/-- The same, and each frame's blocks lie above those of the frames before. -/
def GetPostA (w : World) (b : List By) (x : Ending) (w' : World) : Prop :=
  (∃ e, Fr.getAll b = .error e ∧ x = .returned (.tuple #[.slice none 0 0, .int .i64 (e : Int)])) ∨ (∃ fs : FS, (Fr.getAll b = .ok fs.fr ∧ x = .returned (.tuple #[.slice fs.a fs.len fs.cap, .int .i64 0]) ∧ fs.Ok w' ∧ (fs.len ≤ 1024 ∧ ∀ j, j < fs.len → (gf fs.l j).data.len ≤ 1048584 ∧ (gf fs.l j).ranges.len ≤ 64) ∧ w'.ownsRow w.heap.size 37 8 (.slice fs.a fs.len fs.cap) fs.len (vf fs.l) ∧ ∀ F ∈ fs.l, FrNew w.heap.size w' F) ∧ fs.l.Pairwise aptR)
theorem GetPostA.post {w w' : World} {b : List By} {x : Ending} (h : GetPostA w b x w') : GetPost w b x w' := by
  rcases h with h | ⟨fs, h, _⟩
  · exact .inl h
  · exact .inr ⟨fs, h⟩

set_option maxRecDepth 20000 in
set_option maxHeartbeats 2000000 in
theorem frame_getA (s : SL) (w : World) (hs : s.Ok w) (ht : s.Told) (hL : Lens w) :
    Calls Tryz.prog 18 #[.slice s.a s.len s.cap] w fun x w' => GetPostA w s.b x w' ∧ Below w.heap.size w w' := by
  have hbl := hs.hb
  by_cases hl : 1048576 < s.len
  · have f1 : decide ((1048576 : Int) < (s.len : Int)) = true := by simp; omega
    have f1n : decide (1048576 < s.len) = true := by simp; omega
    have E := veil (show Fr.getAll s.b = .error 3 by unfold Fr.getAll; rw [if_pos (by omega)])
    clear hl hbl hs ht hL
    go_enter Tryz.func18, Tryz.ntmps18
    go_wp2_with fail
    go_ret2
    exact ⟨.inl ⟨3, E.out, rfl⟩, Below.refl _ _⟩
  have f1 : decide ((1048576 : Int) < (s.len : Int)) = false := by simp; omega
  have f1n : decide (1048576 < s.len) = false := by simp; omega
  have hLl := hL.lt
  have b0 : Below w.heap.size w (w.alloc (.cells (rrC s 0) 71)) := (Below.refl _ w).alloc (Nat.le_refl _) _
  have RD := veil (show Rd (w.alloc (.cells (rrC s 0) 71)) w.heap.size s 0 from ⟨Row.new _ _ _, hs.below b0, ht, fun p => by have := hs.lt p; omega, hL.step b0, by omega, by omega⟩)
  have HA := veil (show Fr.getAll s.b = match allP s.b [] with | .error e => .error e | .ok l => .ok l.reverse from Fr.prog_all s.b (by omega))
  have B0 := veil b0
  have hs0 : (w.alloc (.cells (rrC s 0) 71)).heap.size = w.heap.size + 1 := by simp
  clear hl hbl hs ht hL b0
  go_enter Tryz.func18, Tryz.ntmps18
  go_wp2_with fail
  refine (fr_frames w.heap.size s 0 _ RD.out).mono ?_
  rintro x1 w1 ⟨hp, hg⟩
  have B1 := veil (show Below w.heap.size w w1 from B0.out.trans ⟨hg.os, hg.tape, hg.output, hg.size, fun k hk => hg.block k (by rw [hs0]; omega) (fun e => by have := Option.some.inj e; omega)⟩)
  clear hg
  rcases hp with ⟨e, he, rfl⟩ | ⟨Fs, lv, he, rfl, hO, hF, hA⟩
  · have E := veil (show Fr.getAll s.b = .error e by rw [HA.out, he])
    clear he
    go_wp2_with fail
    go_ret2
    exact ⟨.inl ⟨e, E.out, rfl⟩, B1.out⟩
  · have hge : Fr.getAll s.b = .ok (Fs.map FrM.fr) := by rw [HA.out, he]; simp only [List.reverse_reverse]
    have hO2 := own_low2 hO (show w.heap.size ≤ (w.alloc (.cells (rrC s 0) 71)).heap.size + 3 by omega)
    have hF2 : ∀ F ∈ Fs, FrNew w.heap.size w1 F := fun F hf => (hF F hf).low (by omega)
    obtain ⟨fs, rfl, hok, hfl⟩ := fs_own rfl hO2 hF2
    have RES := veil (show GetPostA w s.b (.returned (.tuple #[.slice fs.a fs.len fs.cap, .int .i64 0])) w1 from .inr ⟨fs, ⟨by show _ = Except.ok (fs.l.map FrM.fr); rw [hfl]; exact hge, rfl, hok, ⟨by
        have := (Fr.get_told hge).2.2.1
        rw [List.length_map] at this
        rw [← hok.hb, hfl]
        exact this, fun j hj => by
        have hj' : j < Fs.length := by rw [← hfl, hok.hb]; exact hj
        have hmem : gf Fs j ∈ Fs := by unfold gf; rw [List.getElem?_eq_getElem hj']; exact List.getElem_mem hj'
        have := told_le hge (List.mem_map.2 ⟨gf Fs j, hmem, rfl⟩)
        rw [hfl]
        have h1 := (hF2 _ hmem).dok.hb
        have h2 := (hF2 _ hmem).rok.hb
        have h3 : (gf Fs j).data.b.length ≤ 1048584 ∧ (gf Fs j).ranges.l.length ≤ 64 := this
        omega⟩, by
        have hll := hok.hb
        rw [hfl] at hll
        rw [hfl, ← hll]
        rw [← hll] at hO2
        exact hO2, by rw [hfl]; exact hF2⟩, by rw [hfl]; exact hA⟩)
    clear he hO hF hge hO2 hF2 hok hfl
    go_wp2_with fail
    go_ret2
    exact ⟨RES.out, B1.out⟩
end Go.Proofs.YtimhbjlmpojhoaaGreatDoor

/-! frame.Get, at any bytes that came in. -/
namespace Go.Proofs.YtimhbjlmpojhoaaGreatDoor
open Go Go.RowKit

set_option maxRecDepth 20000 in
set_option maxHeartbeats 2000000 in
theorem fr_frames_nil (g : Nat) (a : Option Addr) (cap tb : Nat) (w : World) (h : Row w g 71 #[.slice a 0 cap, .int .u64 (tb : Int)]) :
    Calls Tryz.prog 69 #[.pointer (some ⟨g, 0, none⟩)] w fun x w' => x = .returned (.tuple #[.slice none 0 0, .int .i64 0]) ∧ Below w.heap.size w w' := by
  have hmf : ∀ (fn : Fn) (first cap : Array Value) (w : World), (Instr.makeFunc fn first cap).run Tryz.prog w = .ok (.func fn first cap) w := fun _ _ _ _ => rfl
  have hgw := h.lt
  have H := veil h
  have B0 := veil (show Below w.heap.size w ((w.alloc (.cells #[.slice none 0 0] 22)).alloc (.cells #[.int .i64 0] 27)) from ((Below.refl _ w).alloc (Nat.le_refl _) _).alloc (by simp) _)
  have RL := veil (show Row ((w.alloc (.cells #[.slice none 0 0] 22)).alloc (.cells #[.int .i64 0] 27)) w.heap.size 22 #[.slice none 0 0] from (Row.new _ _ _).alloc _)
  have RE := veil (show Row ((w.alloc (.cells #[.slice none 0 0] 22)).alloc (.cells #[.int .i64 0] 27)) (w.heap.size + 1) 27 #[.int .i64 0] from Row.new1 _ _ _ _)
  have hs0 : ((w.alloc (.cells #[.slice none 0 0] 22)).alloc (.cells #[.int .i64 0] 27)).heap.size = w.heap.size + 2 := by simp
  clear h
  refine (callsIn_wide (n := 4)).1 ?_
  refine callsIn_of_wp_defers Tryz.func69 rfl trivial ?_ rfl
  simp only [Tryz.ntmps69, List.size_toArray, List.length_cons, List.length_nil, Nat.reduceAdd, Nat.reduceSub, Array.replicate_succ, Array.replicate_zero, List.push_toArray, List.append_toArray, List.nil_append, List.cons_append]
  gi_wp2_with fail
  refine ⟨trivial, (callsIn_wide.2 (rd_rows g ((w.alloc (.cells #[.slice none 0 0] 22)).alloc (.cells #[.int .i64 0] 27)))).mono ?_⟩
  rintro x1 w1 ⟨rfl, hM1, hb1⟩
  rw [hs0] at hM1 hb1 ⊢
  have ST := veil (show Row w1 g 71 #[.slice a 0 cap, .int .u64 (tb : Int)] ∧ Row w1 w.heap.size 22 #[.slice none 0 0] ∧ Row w1 (w.heap.size + 1) 27 #[.int .i64 0] ∧ Below w.heap.size w w1 from ⟨(H.out.below B0.out hgw).below hb1 (by omega), RL.out.below hb1 (by omega), RE.out.below hb1 (by omega), B0.out.trans (hb1.mono (by omega))⟩)
  clear hM1 hb1 B0 RL RE hs0
  gi_wp2_with fail
  gi_loopw [5] (fun _ wr => Row wr g 71 #[.slice a 0 cap, .int .u64 (tb : Int)] ∧ Row wr w.heap.size 22 #[.slice none 0 0] ∧ Row wr (w.heap.size + 1) 27 #[.int .i64 0] ∧ Below w.heap.size w wr)
    (fun _ _ => 0)
  case atStart => exact ST.out
  case round =>
    clear ST
    obtain ⟨h1, h2, h3, h4⟩ := hrel
    have c0 : wr.cell? ⟨g, 0, none⟩ = some (.slice a 0 cap) := h1.cell 0
    have cl : wr.cell? ⟨w.heap.size, 0, none⟩ = some (.slice none 0 0) := h2.cell 0
    have zl := h2.frozen 0
    have ce : wr.cell? ⟨w.heap.size + 1, 0, none⟩ = some (.int .i64 0) := h3.cell 0
    have ze := h3.frozen 0
    have H2 := veil (h2.set 0 (.slice none 0 0))
    have H3 := veil (h3.other (a := ⟨w.heap.size, 0, none⟩) (show w.heap.size + 1 ≠ w.heap.size by omega) (.slice none 0 0))
    have H4 := veil (((h4.setCell (p := ⟨w.heap.size, 0, none⟩) (Nat.le_refl _) (.slice none 0 0))).setCell (p := ⟨w.heap.size + 1, 0, none⟩) (show w.heap.size ≤ w.heap.size + 1 by omega) (.int .i64 0))
    clear h1 h2 h3 h4
    gi_wp2_with fail
    refine door_ret w.heap.size _ none 0 0 (H2.out.other (a := ⟨w.heap.size + 1, 0, none⟩) (show w.heap.size ≠ w.heap.size + 1 by omega) _) (H3.out.set 0 _) rfl rfl ?_
    exact ⟨rfl, H4.out⟩

set_option maxRecDepth 20000 in
set_option maxHeartbeats 2000000 in
/-- frame.Get, of bytes that came in. -/
theorem get_any7A (s : SL) (w : World) (hs : s.Ok w) (ht : 0 < s.len → s.Told) (hL : Lens w) :
    Calls Tryz.prog 18 #[.slice s.a s.len s.cap] w fun x w' => GetPostA w s.b x w' ∧ Below w.heap.size w w' := by
  by_cases h0 : 0 < s.len
  · exact frame_getA s w hs (ht h0) hL
  · have hl : s.len = 0 := by omega
    have hb : s.b = [] := List.eq_nil_of_length_eq_zero (by rw [hs.hb]; exact hl)
    have b0 : Below w.heap.size w (w.alloc (.cells #[.slice s.a 0 s.cap, .int .u64 ((0 : Nat) : Int)] 71)) := (Below.refl _ w).alloc (Nat.le_refl _) _
    have FN := veil (fr_frames_nil w.heap.size s.a s.cap 0 (w.alloc (.cells #[.slice s.a 0 s.cap, .int .u64 ((0 : Nat) : Int)] 71)) (Row.new _ _ _))
    have B0 := veil b0
    have RES := veil (fun (w' : World) => (show GetPostA w s.b (.returned (.tuple #[.slice none 0 0, .int .i64 0])) w' from .inr ⟨⟨none, 0, 0, 0, 0, []⟩, ⟨by rw [hb]; rfl, rfl, ⟨rfl, Nat.le_refl _, fun _ => ⟨rfl, rfl⟩, fun p => absurd p (Nat.lt_irrefl _), fun p => absurd p (Nat.lt_irrefl _), fun j hj => absurd hj (Nat.not_lt_zero _), fun j hj => absurd hj (Nat.not_lt_zero _)⟩, ⟨Nat.zero_le _, fun j hj => absurd hj (Nat.not_lt_zero _)⟩, World.ownsRow_nil _ _ _ _, (fun F hF => by cases hF)⟩, List.Pairwise.nil⟩))
    rw [hl]
    clear hs ht hL h0 hl hb b0
    go_enter Tryz.func18, Tryz.ntmps18
    go_wp2_with fail
    refine FN.out.mono ?_
    rintro x1 w1 ⟨rfl, hb1⟩
    have B1 := veil (B0.out.trans (hb1.mono B0.out.size))
    clear hb1
    go_wp2_with fail
    go_ret2
    exact ⟨RES.out w1, B1.out⟩
end Go.Proofs.YtimhbjlmpojhoaaGreatDoor

/-! A range over a function whose iterator writes into memory of its own between two rounds, and whose body writes some blocks alone and is never left early. -/
namespace Go.Proofs.YtimhbjlmpojhoaaGreatDoor
open Go Go.RowKit Go.Shelf

/-- All blocks but some lie as they lay. -/
structure KeepP (st : Nat → Prop) (W W' : World) : Prop where
  os : W'.os = W.os
  tape : W'.tape = W.tape
  output : W'.output = W.output
  size : W.heap.size ≤ W'.heap.size
  block : ∀ k, k < W.heap.size → ¬ st k → W'.heap[k]? = W.heap[k]?

theorem KeepP.refl (st : Nat → Prop) (W : World) : KeepP st W W := ⟨rfl, rfl, rfl, Nat.le_refl _, fun _ _ _ => rfl⟩
theorem KeepP.trans {st : Nat → Prop} {A B C : World} (h : KeepP st A B) (k : KeepP st B C) : KeepP st A C :=
  ⟨k.os.trans h.os, k.tape.trans h.tape, k.output.trans h.output, Nat.le_trans h.size k.size, fun i hi hs => (k.block i (Nat.lt_of_lt_of_le hi h.size) hs).trans (h.block i hi hs)⟩
theorem KeepP.setRow {st : Nat → Prop} {g : Nat} (hg : st g) (W : World) (cs : Array Value) : KeepP st W (W.setRow g cs) := ⟨rfl, rfl, rfl, by rw [setRow_size]; exact Nat.le_refl _, fun k _ hk => setRow_other W g k cs (fun e => hk (e ▸ hg))⟩
theorem KeepP.setCell {st : Nat → Prop} {g : Nat} (hg : st g) (W : World) (o : Nat) (v : Value) : KeepP st W (W.setCell ⟨g, o, none⟩ v) := ⟨rfl, rfl, rfl, by simp [World.setCell], fun k _ hk => Below.heap_setCell W _ v k (fun e => hk (e ▸ hg))⟩
theorem KeepP.grown {st : Nat → Prop} {g : Nat} (hg : st g) {W W' : World} (h : W.grownBy W' (some g)) : KeepP st W W' := ⟨h.os, h.tape, h.output, h.size, fun k hk hs => h.block k hk (fun e => by injection e with e; exact hs (e ▸ hg))⟩
theorem KeepP.below {st : Nat → Prop} {B : Nat} {W W' : World} (h : KeepP st W W') (hB : ∀ k, st k → B ≤ k) (hs : B ≤ W.heap.size) : Below B W W' := ⟨h.os, h.tape, h.output, h.size, fun k hk => h.block k (by omega) (fun e => by have := hB k e; omega)⟩
theorem KeepP.row {st : Nat → Prop} {g : Nat} {W W' : World} {t : TypeId} {cs : Array Value} (h : KeepP st W W') (hr : Row W g t cs) (hg : ¬ st g) : Row W' g t cs := (h.block g hr.lt hg).trans hr

section
variable {F : Fence} {n : Nat} {P : Program}

end
end Go.Proofs.YtimhbjlmpojhoaaGreatDoor

/-! Single operations that the Book's own functions want. No program in sight. -/
namespace Go.Proofs.YtimhbjlmpojhoaaGreatDoor.Bq
open Go Go.RowKit

theorem run_cellB {P : Program} {a : Act} {o : Oper} (ty : TypeId) (x : Operand) (p : Addr) (v : Value) (d : TypeDesc) (ho : o.op = .load ty x) (hx : a.eval x = .pointer (some p)) (hu : P.underlying ty = some d) (hd : (match d with | .struct _ | .array _ _ => true | _ => false) = false)
    (W : World) (hv : W.cell? p = some v) : (execOp a.eval o).run P W = .ok (.value v) W := by
  have hag : (isAgg ty).run P W = .ok false W := by
    unfold isAgg
    rw [Sem.run_bind, run_underlying hu W]
    cases d <;> simp_all
  unfold execOp
  simp [ho, hx, Instr.loadAt, Instr.sureAddr, loadVar, hag, hv]
theorem run_lenB {P : Program} {a : Act} {o : Oper} (x : Operand) (t e : TypeId) (ad : Option Addr) (len cap : Nat) (ho : o.op = .call { callee := .builtin .len, args := #[x], argTypes := #[t] }) (hx : a.eval x = .slice ad len cap) (W : World) (ht : P.underlying t = some (.slice e)) : (execOp a.eval o).run P W = .ok (.value (.int .i64 (len : Int))) W := by
  unfold execOp
  simp only [ho, resolve, invoke, builtin, List.map_toArray, List.map_cons, List.map_nil, hx]
  go_simp
theorem run_storeMid8 {P : Program} {a : Act} {o : Oper} (ty : TypeId) (x y : Operand) (b off : Nat) (cells : Array Value) (ho : o.op = .store ty x y) (hx : a.eval x = .pointer (some ⟨b, off, none⟩)) (hy : a.eval y = .agg cells) (w : World) (ht : w.there b off cells.size) (hi : (P.info? ty).map (·.size) = some cells.size) (h1 : cells.all (·.oneCell') = true) : (execOp a.eval o).run P w = .ok .skip (w.setCells b off cells.toList) := by
  unfold execOp
  simp only [ho, hx, hy, run_storeAt_mid w b off ty cells ht hi h1, Sem.run_bind, Sem.run_pure, Result.andThen_ok]
theorem run_lssI8 {P : Program} {a : Act} {o : Oper} (t t' : TypeId) (x y : Operand) (m r : Nat) (b : Bool) (hb : b = decide (m < r)) (ho : o.op = .binOp .lss t x y t') (hx : a.eval x = .int .i64 (m : Int)) (hy : a.eval y = .int .i64 (r : Int)) (W : World) :
    (execOp a.eval o).run P W = .ok (.value (.bool b)) W := by
  subst hb
  unfold execOp
  simp only [ho, hx, hy]
  go_simp
end Go.Proofs.YtimhbjlmpojhoaaGreatDoor.Bq

/-! A Book of lists of ranges: what it holds. Written by mkbook8.py out of AeBook.lean. -/
namespace Go.Proofs.YtimhbjlmpojhoaaGreatDoor.Bq
open Go Go.RowKit

/-- The mark of the list with this place, as it is written. -/
def mk (n : Nat) : Nat × Nat := (1000 + n, 0)
/-- A list of this kind lies there. -/
def OwnB (m : Nat) (E : Nat → Value) (b : Nat) : Prop := ∃ i, i < m ∧ (E i).ownBlock = some b

/-- No list lies where another one lies, nor where the book does. -/
structure Sep (S B h m : Nat) (E : Nat → Value) : Prop where
  SB : S ≤ B
  Sh : S ≤ h
  Bh : B ≠ h
  eB : ∀ i, i < m → (E i).ownBlock ≠ some B
  eh : ∀ i, i < m → (E i).ownBlock ≠ some h
  ee : ∀ i j, i < m → j < m → i ≠ j → (E i).ownBlock = none ∨ (E i).ownBlock ≠ (E j).ownBlock

/-- The book holds m lists in block h; each owns its elements; old memory is as it was. -/
structure St (S B h m cap : Nat) (nu : Nat → Nat) (E : Nat → Value) (N : Nat → Nat) (Lg : Nat → Value) (X : Nat → List (Nat × Nat)) (w0 W : World) : Prop where
  sS : S ≤ W.heap.size
  bB : B < W.heap.size
  bh : h < W.heap.size
  book : W.cell? ⟨B, 6, none⟩ = some (.slice (some ⟨h, 0, none⟩) m cap)
  l : ∀ i, i < m → W.cell? ⟨h, i * 3, none⟩ = some (E i)
  g : ∀ i, i < m → W.cell? ⟨h, i * 3 + 1, none⟩ = some (Lg i)
  n : ∀ i, i < m → W.cell? ⟨h, i * 3 + 2, none⟩ = some (.int .i64 (nu i : Int))
  fz : ∀ j, W.frozen? ⟨h, j, none⟩ = false
  rows : ∀ i, i < m → W.ownsRow S 114 2 (E i) (N i) (vr (X i))
  below : Below S w0 W

theorem own_keepP {W W' : World} {base e z n : Nat} {v : Value} {xs : List Value} {st : Nat → Prop} (h : W.ownsRow base e z v n xs) (k : KeepP st W W') (hv : ∀ b, v.ownBlock = some b → ¬ st b) : W'.ownsRow base e z v n xs := by
  refine ⟨h.1, ?_⟩
  rcases h.2 with h2 | ⟨g, c, cur, rfl, hb, hg, h3⟩
  · exact .inl h2
  · have hlt : g < W.heap.size := by
      by_cases hc : g < W.heap.size
      · exact hc
      · rw [Array.getElem?_eq_none (by omega)] at hg
        cases hg
    exact .inr ⟨g, c, cur, rfl, hb, (k.block g hlt (hv g rfl)).trans hg, h3⟩
theorem below_keepP {S : Nat} {w0 W W' : World} {st : Nat → Prop} (h : Below S w0 W) (k : KeepP st W W') (hS : S ≤ W.heap.size) (hst : ∀ b, st b → S ≤ b) : Below S w0 W' :=
  ⟨k.os.trans h.os, k.tape.trans h.tape, k.output.trans h.output, Nat.le_trans h.size k.size, fun b hb => (k.block b (by omega) (fun e => by have := hst b e; omega)).trans (h.block b hb)⟩
theorem St.grown {S B h m cap : Nat} {nu : Nat → Nat} {E : Nat → Value} {N : Nat → Nat} {Lg : Nat → Value} {X : Nat → List (Nat × Nat)} {w0 W W' : World} {row : Option Nat} (st : St S B h m cap nu E N Lg X w0 W) (hg : W.grownBy W' row)
    (hS : ∀ k, row = some k → S ≤ k) (hB : row ≠ some B) (hh : row ≠ some h) (he : ∀ i, i < m → (E i).ownBlock = none ∨ (E i).ownBlock ≠ row) : St S B h m cap nu E N Lg X w0 W' where
  sS := Nat.le_trans st.sS hg.size
  bB := Nat.lt_of_lt_of_le st.bB hg.size
  bh := Nat.lt_of_lt_of_le st.bh hg.size
  book := hg.cell st.book (fun e => hB e.symm)
  l := fun i hi => hg.cell (st.l i hi) (fun e => hh e.symm)
  g := fun i hi => hg.cell (st.g i hi) (fun e => hh e.symm)
  n := fun i hi => hg.cell (st.n i hi) (fun e => hh e.symm)
  fz := fun j => (World.frozen?_of_block (w := W) (a := ⟨h, j, none⟩) (hg.block h st.bh (fun e => hh e.symm))).trans (st.fz j)
  rows := fun i hi => (st.rows i hi).kept hg (he i hi)
  below := st.below.grown hg st.sS hS

theorem St.alloc {S B h m cap : Nat} {nu : Nat → Nat} {E : Nat → Value} {N : Nat → Nat} {Lg : Nat → Value} {X : Nat → List (Nat × Nat)} {w0 W : World} (st : St S B h m cap nu E N Lg X w0 W) (o : Obj) : St S B h m cap nu E N Lg X w0 (W.alloc o) :=
  st.grown (World.grownBy_alloc W o none) (fun _ e => by cases e) (by simp) (by simp) (fun i _ => by
    by_cases h : (E i).ownBlock = none
    · exact .inl h
    · exact .inr h)

theorem St.drew {S B h m cap : Nat} {nu : Nat → Nat} {E : Nat → Value} {N : Nat → Nat} {Lg : Nat → Value} {X : Nat → List (Nat × Nat)} {w0 W : World} (st : St S B h m cap nu E N Lg X w0 W) : St S B h m cap nu E N Lg X w0 W.drew :=
  ⟨st.sS, st.bB, st.bh, st.book, st.l, st.g, st.n, st.fz, st.rows, st.below.drew⟩

theorem St.belowW {S B h m cap : Nat} {nu : Nat → Nat} {E : Nat → Value} {N : Nat → Nat} {Lg : Nat → Value} {X : Nat → List (Nat × Nat)} {w0 W W' : World} (st : St S B h m cap nu E N Lg X w0 W) (hb : Below W.heap.size W W') : St S B h m cap nu E N Lg X w0 W' :=
  st.grown (row := none) ⟨hb.os, hb.tape, hb.output, hb.size, fun k hk _ => hb.block k hk⟩ (fun _ e => by cases e) (by simp) (by simp) (fun i _ => by
    by_cases h : (E i).ownBlock = none
    · exact .inl h
    · exact .inr h)
theorem rowsLen {W : World} {S n : Nat} {v : Value} {l : List (Nat × Nat)} (h : W.ownsRow S 114 2 v n (vr l)) : l.length = n := by have := h.1; rw [vr_length] at this; omega
/-- One element of one list is written. -/
theorem St.store {S B h m cap : Nat} {nu : Nat → Nat} {E : Nat → Value} {N : Nat → Nat} {Lg : Nat → Value} {X : Nat → List (Nat × Nat)} {w0 W : World} (st : St S B h m cap nu E N Lg X w0 W) (sep : Sep S B h m E) {i g c : Nat} (hi : i < m) (he : E i = .slice (some ⟨g, 0, none⟩) (N i) c) (k : Nat) (hk : k < N i) (u : Nat × Nat) :
    St S B h m cap nu E N Lg (fun j => if j = i then (X i).set k u else X j) w0 (W.setCells g (k * 2) (rC2 u).toList) := by
  have hob : (E i).ownBlock = some g := by rw [he]; rfl
  have hSg : S ≤ g := ((st.rows i hi).lt g hob).1
  have hgr : W.grownBy (W.setCells g (k * 2) (rC2 u).toList) (some g) := by
    have e : W.setCells g (k * 2) (rC2 u).toList = (W.setCell ⟨g, k * 2, none⟩ (.int .u64 (u.1 : Int))).setCell ⟨g, k * 2 + 1, none⟩ (.int .u64 (u.2 : Int)) := rfl
    rw [e]
    exact ⟨rfl, rfl, rfl, by simp, fun b _ hb => (Below.heap_setCell _ _ _ b (fun e => hb (by rw [e]))).trans (Below.heap_setCell _ _ _ b (fun e => hb (by rw [e])))⟩
  have hgB : some g ≠ some B := fun e => sep.eB i hi (hob.trans e)
  have hgh : some g ≠ some h := fun e => sep.eh i hi (hob.trans e)
  refine ⟨Nat.le_trans st.sS hgr.size, Nat.lt_of_lt_of_le st.bB hgr.size, Nat.lt_of_lt_of_le st.bh hgr.size, hgr.cell st.book (fun e => hgB e.symm), fun j hj => hgr.cell (st.l j hj) (fun e => hgh e.symm), fun j hj => hgr.cell (st.g j hj) (fun e => hgh e.symm), fun j hj => hgr.cell (st.n j hj) (fun e => hgh e.symm), fun j => (World.frozen?_of_block (w := W) (a := ⟨h, j, none⟩) (hgr.block h st.bh (fun e => hgh e.symm))).trans (st.fz j), fun j hj => ?_, st.below.grown hgr st.sS (fun b e => by injection e with e; omega)⟩
  by_cases hji : j = i
  · subst hji
    rw [if_pos rfl]
    have hr := st.rows j hj
    rw [he] at hr ⊢
    exact own_pair hr u hk (rowsLen hr)
  · rw [if_neg hji]
    refine (st.rows j hj).kept hgr ?_
    rcases sep.ee j i hj hi hji with h | h
    · exact .inl h
    · exact .inr (by rw [← hob]; exact h)

/-- What a value that owns a row looks like. -/
theorem bookOwn_shape {W : World} {S : Nat} {v : Value} {n : Nat} {xs : List Value} (h : W.ownsRow S 114 2 v n xs) : (v = .slice none 0 0 ∧ n = 0) ∨ ∃ g c, v = .slice (some ⟨g, 0, none⟩) n c ∧ n ≤ c := by
  rcases h.2 with ⟨h1, h2⟩ | ⟨g, c, _, h1, _, _, h2, _⟩
  · exact .inl ⟨h1, h2⟩
  · exact .inr ⟨g, c, h1, h2⟩

theorem set_step (xs : List (Nat × Nat)) (k n : Nat) (u : Nat × Nat) (hl : xs.length = n) (hk : k < n) (h : xs.take k = List.replicate k u) : (xs.set k u).take (k + 1) = List.replicate (k + 1) u := by
  have hk2 : k < (xs.set k u).length := by rw [List.length_set]; omega
  rw [List.take_succ_eq_append_getElem hk2, List.getElem_set_self, List.take_set_of_le (Nat.le_refl _), h, List.replicate_succ']

/-- What is appended: into the old row, which stays as long as it was, or into a new one. -/
theorem run_append_two {P : Program} (w : World) (base : Nat) (t ty e : TypeId) (i : TypeInfo) (z : Value) (size bytes : Nat) (ht : P.underlying t = some (.slice e)) (hi : P.info? e = some i) (hz : i.zero = some z)
    (hsize : i.size = size) (hby : i.bytes = bytes) (hzs : z.cells.size = size) (hsz : 0 < size)
    (v : Value) (n : Nat) (xs : List Value) (hown : w.ownsRow base e size v n xs)
    (a : Addr) (m c : Nat) (news : List Value) (hl : news.length = m * size) (hnews : ∀ j u, news[j]? = some u → w.cell? (a.add j) = some u) (h1 : ∀ u ∈ news, u.oneCell' = true) (hm : 0 < m)
    (h63 : n + m ≤ maxLen) (hbytes : (n + m) * bytes ≤ 140737488355328) (hbase : base ≤ w.heap.size) :
    ∃ g cap w', (Builtin.append_ #[t, t] ty #[v, .slice (some a) m c]).run P w = .ok (.slice (some ⟨g, 0, none⟩) (n + m) cap) w' ∧ w'.ownsRow base e size (.slice (some ⟨g, 0, none⟩) (n + m) cap) (n + m) (xs ++ news) ∧
      ((v = .slice (some ⟨g, 0, none⟩) n cap ∧ w.grownBy w' (some g)) ∨ (g = w.heap.size ∧ w.grownBy w' none)) := by
  obtain ⟨v', w', hr, h2, h3, _, h5⟩ := run_append_own_at (P := P) w base t ty e i z size bytes ht hi hz hsize hby hzs hsz v n xs hown a m c news hl hnews h1 h63 hbytes hbase
  have hv' : ∃ g cap, v' = .slice (some ⟨g, 0, none⟩) (n + m) cap := by
    rcases h2.2 with ⟨_, h0⟩ | ⟨g, cap, cur, hv, _⟩
    · omega
    · exact ⟨g, cap, hv⟩
  obtain ⟨g, cap, rfl⟩ := hv'
  refine ⟨g, cap, w', hr, h2, ?_⟩
  rcases hown.2 with ⟨rfl, rfl⟩ | ⟨g0, cap0, cur, rfl, hbg, hg, hnc, hcm, hcs, htake⟩
  · right
    rcases h5 with h5 | h5
    · cases h5
    · exact ⟨by simpa [Value.ownBlock] using h5, h3⟩
  · by_cases hroom : n + m ≤ cap0
    · left
      subst hsize
      have hfit : n * i.size + news.length ≤ cur.size := by rw [hl, hcs, ← Nat.add_mul]; exact Nat.mul_le_mul_right _ hroom
      have hr2 := run_append_room (P := P) w t ty e i ht hi g0 n cap0 cur hg a m c news hl hnews h1 hroom hfit
      rw [hr] at hr2
      injection hr2 with e1 e2
      injection e1 with e3 e4 e5
      injection e3 with e6
      injection e6 with e7
      subst e7 e5
      exact ⟨rfl, h3⟩
    · right
      have holds : ∀ j u, xs[j]? = some u → w.cell? ((⟨g0, 0, none⟩ : Addr).add j) = some u := hown.cells (g := g0) rfl
      obtain ⟨v2, w2, hr2, h6, h7⟩ := run_append_arg_grows (P := P) w t ty e i z size bytes ht hi hz hsize hby hzs hsz ⟨g0, 0, none⟩ n cap0 xs hown.1 holds a m c news hl hnews (by omega) h63 hbytes
      rw [hr] at hr2
      injection hr2 with e1 e2
      subst e1 e2
      have hge := (h6.lt g rfl).1
      rcases h5 with h5 | h5
      · have e8 : g = g0 := by simpa [Value.ownBlock] using h5
        have := (hown.lt g0 rfl).2
        omega
      · exact ⟨by simpa [Value.ownBlock] using h5, h7⟩

theorem wpList_append_two {P : Program} (w : World) {ops : Array Oper} {rest : List Oper} {o : Oper} {a : Act} {Q : Exit → Act → World → Prop} (hgd : o.guard = none) (s x : Operand) (t : TypeId)
    (ho : o.op = .call { callee := .builtin .append, args := #[s, x], argTypes := #[t, t] })
    (base : Nat) (e : TypeId) (i : TypeInfo) (z : Value) (size bytes : Nat) (ht : P.underlying t = some (.slice e)) (hi : P.info? e = some i) (hz : i.zero = some z)
    (hsize : i.size = size) (hby : i.bytes = bytes) (hzs : z.cells.size = size) (hsz : 0 < size)
    (v : Value) (n : Nat) (xs : List Value) (hs : a.eval s = v) (hown : w.ownsRow base e size v n xs)
    (ad : Addr) (m c : Nat) (news : List Value) (hx : a.eval x = .slice (some ad) m c) (hl : news.length = m * size) (hnews : ∀ j u, news[j]? = some u → w.cell? (ad.add j) = some u) (h1 : ∀ u ∈ news, u.oneCell' = true) (hm : 0 < m)
    (h63 : n + m ≤ maxLen) (hbytes : (n + m) * bytes ≤ 140737488355328) (hbase : base ≤ w.heap.size)
    (h : ∀ g cap w', w'.ownsRow base e size (.slice (some ⟨g, 0, none⟩) (n + m) cap) (n + m) (xs ++ news) → ((v = .slice (some ⟨g, 0, none⟩) n cap ∧ w.grownBy w' (some g)) ∨ (g = w.heap.size ∧ w.grownBy w' none)) → wpList P ops Q rest (a.put o.dst (.slice (some ⟨g, 0, none⟩) (n + m) cap)) w') :
    wpList P ops Q (o :: rest) a w := by
  refine wpList_plain hgd fun K hK => ?_
  obtain ⟨g, cap, w', hr, h2, h3⟩ := run_append_two (P := P) w base t o.type e i z size bytes ht hi hz hsize hby hzs hsz v n xs hown ad m c news hl hnews h1 hm h63 hbytes hbase
  unfold Oper.wp execOp
  simp only [ho, resolve, invoke, builtin, Sem.run_bind, Sem.run_pure, Result.andThen_ok, List.map_toArray, List.map_cons, List.map_nil, hs, hx, hr]
  exact hK _ _ (h g cap w' h2 h3)

theorem vr_takeN : ∀ (l : List (Nat × Nat)) (n : Nat), (vr l).take (n * 2) = vr (l.take n)
  | [], n => by simp [vr]
  | r :: l, 0 => by simp [vr]
  | r :: l, n + 1 => by rw [vr_cons, show (n + 1) * 2 = n * 2 + 1 + 1 by omega, List.take_succ_cons, List.take_succ_cons, vr_takeN l n, List.take_succ_cons, vr_cons]
/-- A beginning of a row is owned as the row is. -/
theorem own_prefix {W : World} {S g c n k : Nat} {l : List (Nat × Nat)} (h : W.ownsRow S 114 2 (.slice (some ⟨g, 0, none⟩) (n + k) c) (n + k) (vr l)) : W.ownsRow S 114 2 (.slice (some ⟨g, 0, none⟩) n c) n (vr (l.take n)) := by
  have hll := rowsLen h
  refine ⟨by rw [vr_length, List.length_take]; omega, ?_⟩
  rcases h.2 with ⟨h1, _⟩ | ⟨g', c', cur, hv, hb, hg, hn, hc, hs, ht⟩
  · cases h1
  · cases hv
    refine .inr ⟨g, c, cur, rfl, hb, hg, by omega, hc, hs, ?_⟩
    rw [← vr_takeN, ← ht, List.take_take]
    congr 1
    omega

/-- Old memory but one list's row is as it was: so is the book. -/
theorem St.grown_at {S B h m cap : Nat} {nu : Nat → Nat} {E : Nat → Value} {N : Nat → Nat} {Lg : Nat → Value} {X : Nat → List (Nat × Nat)} {w0 W W' : World} {row : Option Nat} (st : St S B h m cap nu E N Lg X w0 W) (hg : W.grownBy W' row) (k : Nat)
    (hS : ∀ k, row = some k → S ≤ k) (hB : row ≠ some B) (hh : row ≠ some h) (he : ∀ i, i < m → i ≠ k → (E i).ownBlock = none ∨ (E i).ownBlock ≠ row) (hk : k < m → W'.ownsRow S 114 2 (E k) (N k) (vr (X k))) : St S B h m cap nu E N Lg X w0 W' where
  sS := Nat.le_trans st.sS hg.size
  bB := Nat.lt_of_lt_of_le st.bB hg.size
  bh := Nat.lt_of_lt_of_le st.bh hg.size
  book := hg.cell st.book (fun e => hB e.symm)
  l := fun i hi => hg.cell (st.l i hi) (fun e => hh e.symm)
  g := fun i hi => hg.cell (st.g i hi) (fun e => hh e.symm)
  n := fun i hi => hg.cell (st.n i hi) (fun e => hh e.symm)
  fz := fun j => (World.frozen?_of_block (w := W) (a := ⟨h, j, none⟩) (hg.block h st.bh (fun e => hh e.symm))).trans (st.fz j)
  rows := fun i hi => by
    by_cases hik : i = k
    · rw [hik] at hi ⊢; exact hk hi
    · exact (st.rows i hi).kept hg (he i hi hik)
  below := st.below.grown hg st.sS hS

/-- The longer list is kept. -/
theorem St.lay {S B h m cap : Nat} {nu : Nat → Nat} {E : Nat → Value} {N : Nat → Nat} {Lg : Nat → Value} {X : Nat → List (Nat × Nat)} {w0 W : World} (st : St S B h m cap nu E N Lg X w0 W) (sep : Sep S B h m E) {k : Nat} (hk : k < m) (u : Value) :
    St S B h m cap nu E N (fun j => if j = k then u else Lg j) X w0 (W.setCell ⟨h, k * 3 + 1, none⟩ u) := by
  have hgr : W.grownBy (W.setCell ⟨h, k * 3 + 1, none⟩ u) (some h) := ⟨rfl, rfl, rfl, by simp, fun b _ hb => Below.heap_setCell _ _ _ b (fun e => hb (by rw [e]))⟩
  have hBh : some B ≠ some h := fun e => sep.Bh (by injection e)
  refine ⟨Nat.le_trans st.sS hgr.size, Nat.lt_of_lt_of_le st.bB hgr.size, Nat.lt_of_lt_of_le st.bh hgr.size, hgr.cell st.book hBh, fun j hj => ?_, fun j hj => ?_, fun j hj => ?_, fun j => ?_, fun j hj => (st.rows j hj).kept hgr (.inr (sep.eh j hj)), st.below.setCell (p := ⟨h, k * 3 + 1, none⟩) sep.Sh u⟩
  · rw [World.cell?_setCell_other _ _ _ _ (by intro e; injection e; omega)]
    exact st.l j hj
  · by_cases hjk : j = k
    · subst hjk
      rw [if_pos rfl]
      exact World.cell?_setCell_same _ _ _ (st.g j hj)
    · rw [if_neg hjk, World.cell?_setCell_other _ _ _ _ (by intro e; injection e; omega)]
      exact st.g j hj
  · rw [World.cell?_setCell_other _ _ _ _ (by intro e; injection e; omega)]
    exact st.n j hj
  · rw [World.frozen?_setCell]
    exact st.fz j

/-- Each of the first k lists has its longer one, apart from all else. -/
structure Gr (S B h m k : Nat) (nu : Nat → Nat) (E : Nat → Value) (N : Nat → Nat) (Lg : Nat → Value) (W : World) : Prop where
  rows : ∀ j, j < k → W.ownsRow S 114 2 (Lg j) (N j + 40) (vr (List.replicate (N j + 40) (mk (nu j))))
  nB : ∀ j, j < k → (Lg j).ownBlock ≠ some B
  nh : ∀ j, j < k → (Lg j).ownBlock ≠ some h
  ne : ∀ j i, j < k → i < m → i ≠ j → (Lg j).ownBlock ≠ (E i).ownBlock

theorem Gr.grown {S B h m k : Nat} {nu : Nat → Nat} {E : Nat → Value} {N : Nat → Nat} {Lg : Nat → Value} {W W' : World} {row : Option Nat} (gr : Gr S B h m k nu E N Lg W) (hg : W.grownBy W' row) (hr : ∀ j, j < k → (Lg j).ownBlock ≠ row) : Gr S B h m k nu E N Lg W' :=
  ⟨fun j hj => (gr.rows j hj).kept hg (.inr (hr j hj)), gr.nB, gr.nh, gr.ne⟩

/-- What one more element behind a list leaves. -/
theorem grow_step {S B h m cap k q H : Nat} {nu : Nat → Nat} {E : Nat → Value} {N : Nat → Nat} {Lg : Nat → Value} {w0 W W' : World} {v : Value} {g c : Nat} (hk : k < m) (sep : Sep S B h m E) (st : St S B h m cap nu E N Lg (fun i => List.replicate (N i) (mk (nu i))) w0 W) (gr : Gr S B h m k nu E N Lg W)
    (hv : (v = E k ∧ q = 0) ∨ (∃ g1 c1, v = .slice (some ⟨g1, 0, none⟩) (N k + q) c1 ∧ ((∃ n1, E k = .slice (some ⟨g1, 0, none⟩) n1 c1) ∨ H ≤ g1)))
    (hH : H ≤ W.heap.size) (hHB : B < H) (hHh : h < H) (hHE : ∀ i, i < m → ∀ b, (E i).ownBlock = some b → b < H) (hHL : ∀ j, j < k → ∀ b, (Lg j).ownBlock = some b → b < H)
    (hown' : W'.ownsRow S 114 2 (.slice (some ⟨g, 0, none⟩) (N k + q + 1) c) (N k + q + 1) (vr (List.replicate (N k + q) (mk (nu k))) ++ vr [mk (nu k)]))
    (hat : (v = .slice (some ⟨g, 0, none⟩) (N k + q) c ∧ W.grownBy W' (some g)) ∨ (g = W.heap.size ∧ W.grownBy W' none)) :
    St S B h m cap nu E N Lg (fun i => List.replicate (N i) (mk (nu i))) w0 W' ∧ Gr S B h m k nu E N Lg W' ∧
      ((∃ n1, E k = .slice (some ⟨g, 0, none⟩) n1 c) ∨ H ≤ g) ∧
      W'.ownsRow S 114 2 (.slice (some ⟨g, 0, none⟩) (N k + (q + 1)) c) (N k + (q + 1)) (vr (List.replicate (N k + (q + 1)) (mk (nu k)))) ∧ H ≤ W'.heap.size ∧ (∀ a : Addr, a.block < H → (∀ n1, E k ≠ .slice (some ⟨a.block, 0, none⟩) n1 c) → W'.cell? a = W.cell? a) := by
  have ho : W'.ownsRow S 114 2 (.slice (some ⟨g, 0, none⟩) (N k + (q + 1)) c) (N k + (q + 1)) (vr (List.replicate (N k + (q + 1)) (mk (nu k)))) := by
    have e : vr (List.replicate (N k + (q + 1)) (mk (nu k))) = vr (List.replicate (N k + q) (mk (nu k))) ++ vr [mk (nu k)] := by
      rw [show N k + (q + 1) = (N k + q) + 1 by omega, List.replicate_succ', vr_append]
    rw [e]
    exact hown'
  have hSg : S ≤ g := (ho.lt g rfl).1
  rcases hat with ⟨hvg, hgr⟩ | ⟨hgn, hgr⟩
  · have hplace : (∃ n1, E k = .slice (some ⟨g, 0, none⟩) n1 c) ∨ H ≤ g := by
      rcases hv with ⟨h1, h2⟩ | ⟨g1, c1, h1, h2⟩
      · left
        exact ⟨_, h1.symm.trans hvg⟩
      · rw [hvg] at h1
        injection h1 with e1 e2 e3
        injection e1 with e1
        injection e1 with e1
        subst e1 e3
        exact h2
    have hob : ∀ b, b < H → (∀ n1, E k ≠ .slice (some ⟨b, 0, none⟩) n1 c) → b ≠ g := by
      intro b hb hne e
      subst e
      rcases hplace with ⟨n1, h1⟩ | h1
      · exact hne n1 h1
      · omega
    have hgB : some g ≠ some B := by
      intro e; injection e with e
      refine hob B hHB (fun n1 hE => sep.eB k hk (by rw [hE]; rfl)) e.symm
    have hgh : some g ≠ some h := by
      intro e; injection e with e
      refine hob h hHh (fun n1 hE => sep.eh k hk (by rw [hE]; rfl)) e.symm
    refine ⟨st.grown_at hgr k (fun b e => by injection e with e; omega) hgB hgh (fun i hi hik => ?_) (fun _ => ?_), gr.grown hgr (fun j hj e => ?_), hplace, ho, Nat.le_trans hH hgr.size, fun a ha hne => ?_⟩
    · cases hEi : (E i).ownBlock with
      | none => exact .inl rfl
      | some b =>
        right
        intro e
        injection e with e
        subst e
        refine hob b (hHE i hi b hEi) (fun n1 hE => ?_) rfl
        rcases sep.ee i k hi hk hik with h1 | h1
        · rw [hEi] at h1; cases h1
        · exact h1 (by rw [hEi, hE]; rfl)
    · rcases hplace with ⟨n1, h1⟩ | h1
      · have hn1 : n1 = N k := by
          rcases bookOwn_shape (st.rows k hk) with ⟨h2, _⟩ | ⟨g2, c2, h2, _⟩
          · rw [h1] at h2; cases h2
          · rw [h1] at h2; injection h2
        rw [h1, hn1]
        have := own_prefix ho
        rw [List.take_replicate, Nat.min_eq_left (by omega)] at this
        exact this
      · refine (st.rows k hk).kept hgr ?_
        cases hEk : (E k).ownBlock with
        | none => exact .inl rfl
        | some b => right; intro e; injection e with e; have := hHE k hk b hEk; omega
    · cases hLj : (Lg j).ownBlock with
      | none => rw [hLj] at e; cases e
      | some b =>
        rw [hLj] at e; injection e with e; subst e
        refine hob b (hHL j hj b hLj) (fun n1 hE => ?_) rfl
        exact gr.ne j k hj hk (by omega) (by rw [hLj, hE]; rfl)
    · exact World.cell?_of_block (hgr.block a.block (by omega) (by intro e; injection e with e; exact hob a.block ha hne e))
  · refine ⟨st.grown hgr (fun b e => by cases e) (by simp) (by simp) (fun i _ => ?_), gr.grown hgr (fun j hj e => ?_), .inr (by omega), ho, Nat.le_trans hH hgr.size, fun a ha _ => ?_⟩
    · cases hEi : (E i).ownBlock with
      | none => exact .inl rfl
      | some b => right; simp
    · rcases (gr.rows j hj).2 with ⟨_, h0⟩ | ⟨g2, c2, _, h2, _⟩
      · omega
      · rw [h2] at e; cases e
    · exact World.cell?_of_block (hgr.block a.block (by omega) (by simp))

theorem St.keep {S B h m cap : Nat} {nu : Nat → Nat} {E : Nat → Value} {N : Nat → Nat} {Lg : Nat → Value} {X : Nat → List (Nat × Nat)} {w0 W W' : World} {st : Nat → Prop} (s : St S B h m cap nu E N Lg X w0 W) (k : KeepP st W W') (hS : ∀ b, st b → S ≤ b) (hB : ¬ st B) (hh : ¬ st h) (he : ∀ i, i < m → ∀ b, (E i).ownBlock = some b → ¬ st b) : St S B h m cap nu E N Lg X w0 W' where
  sS := Nat.le_trans s.sS k.size
  bB := Nat.lt_of_lt_of_le s.bB k.size
  bh := Nat.lt_of_lt_of_le s.bh k.size
  book := (World.cell?_of_block (w := W) (a := ⟨B, 6, none⟩) (k.block B s.bB hB)).trans s.book
  l := fun i hi => (World.cell?_of_block (w := W) (a := ⟨h, i * 3, none⟩) (k.block h s.bh hh)).trans (s.l i hi)
  g := fun i hi => (World.cell?_of_block (w := W) (a := ⟨h, i * 3 + 1, none⟩) (k.block h s.bh hh)).trans (s.g i hi)
  n := fun i hi => (World.cell?_of_block (w := W) (a := ⟨h, i * 3 + 2, none⟩) (k.block h s.bh hh)).trans (s.n i hi)
  fz := fun j => (World.frozen?_of_block (w := W) (a := ⟨h, j, none⟩) (k.block h s.bh hh)).trans (s.fz j)
  rows := fun i hi => own_keepP (s.rows i hi) k (he i hi)
  below := below_keepP s.below k s.sS hS
theorem Gr.keep {S B h m k : Nat} {nu : Nat → Nat} {E : Nat → Value} {N : Nat → Nat} {Lg : Nat → Value} {W W' : World} {st : Nat → Prop} (gr : Gr S B h m k nu E N Lg W) (kp : KeepP st W W') (hst : ∀ j, j < k → ∀ b, (Lg j).ownBlock = some b → ¬ st b) : Gr S B h m k nu E N Lg W' :=
  ⟨fun j hj => own_keepP (gr.rows j hj) kp (hst j hj), gr.nB, gr.nh, gr.ne⟩
theorem keep_grown {st : Nat → Prop} {w W W' : World} {row : Option Nat} (h : KeepP st w W) (g : W.grownBy W' row) (hr : ∀ b, row = some b → st b ∨ w.heap.size ≤ b) : KeepP st w W' :=
  ⟨g.os.trans h.os, g.tape.trans h.tape, g.output.trans h.output, Nat.le_trans h.size g.size, fun b hb hn => by
    refine (g.block b (Nat.lt_of_lt_of_le hb h.size) ?_).trans (h.block b hb hn)
    intro e
    rcases hr b e.symm with h1 | h1
    · exact hn h1
    · omega⟩
theorem keep_below {st : Nat → Prop} {w W W' : World} (h : KeepP st w W) (hb : Below W.heap.size W W') : KeepP st w W' :=
  keep_grown (row := none) h ⟨hb.os, hb.tape, hb.output, hb.size, fun k hk _ => hb.block k hk⟩ (fun b e => by cases e)
end Go.Proofs.YtimhbjlmpojhoaaGreatDoor.Bq

/-! The marks of ranges. Written by mkbk.py. -/
namespace Go.Proofs.YtimhbjlmpojhoaaGreatDoor.Bq
open Go Go.RowKit

set_option maxRecDepth 20000 in
set_option maxHeartbeats 400000 in
theorem mark_r (k : Nat) (w : World) (h1 : k ≤ 5000000) :
    Calls Tryz.prog 95 #[.int .i64 (k : Int)] w fun e w' => e = .returned (.agg (rC2 (mk k))) ∧ Below w.heap.size w w' := by
  have e1 : ((mk k).1 : Int) = 1000 + (k : Int) := by unfold mk; simp only; omega
  unfold rC2
  rw [e1]
  have hB : ∀ o u, Below w.heap.size w ((w.alloc o).setCells w.heap.size 0 [.int .u64 u, .int .u64 0]) := fun o u => by
    have q : Below w.heap.size w (((w.alloc o).setCell ⟨w.heap.size, 0, none⟩ (.int .u64 u)).setCell ⟨w.heap.size, 1, none⟩ (.int .u64 0)) := ((((Below.refl _ w).alloc (Nat.le_refl _) o).setCell (p := ⟨w.heap.size, 0, none⟩) (Nat.le_refl _) _).setCell (p := ⟨w.heap.size, 1, none⟩) (Nat.le_refl _) _)
    exact q
  go_enter Tryz.func95, Tryz.ntmps95
  go_wp2
  refine bodyPost_ret (results_cell_row rfl _ _ w.heap.size _ #[.int .u64 (1000 + (k : Int)), .int .u64 ((mk k).2 : Int)] (0, 0) _ rfl (Row.new w 114 _) Tryz.underlying114 rfl (by kernel_rfl)) rfl ?_
  exact ⟨rfl, by first | exact hB _ _ | exact (Below.refl _ w).alloc (Nat.le_refl _) _⟩

theorem mark_l (k : Nat) (w : World) (h1 : k ≤ 5000000) :
    Calls Tryz.prog 95 #[.int .i64 (k : Int)] w fun e w' => e = .returned (.agg #[.int .u64 ((mk k).1 : Int), .int .u64 ((mk k).2 : Int)]) ∧ Below w.heap.size w w' := mark_r k w h1

set_option maxRecDepth 20000 in
set_option maxHeartbeats 400000 in
theorem is_r (k : Nat) (w : World) (h1 : k ≤ 5000000) :
    Calls Tryz.prog 107 #[.agg (rC2 (mk k)), .int .i64 (k : Int)] w fun e w' => e = .returned (.bool true) ∧ Below w.heap.size w w' := by
  have e1 : ((mk k).1 : Int) = 1000 + (k : Int) := by unfold mk; simp only; omega
  unfold rC2
  rw [e1]
  have r0 : Row (w.alloc (.cells #[.int .u64 (1000 + (k : Int)), .int .u64 ((mk k).2 : Int)] 114)) w.heap.size 114 #[.int .u64 (1000 + (k : Int)), .int .u64 ((mk k).2 : Int)] := Row.new _ _ _
  have c0 := r0.cell 0
  have HB := veil (show Below w.heap.size w (w.alloc (.cells #[.int .u64 (1000 + (k : Int)), .int .u64 ((mk k).2 : Int)] 114)) from (Below.refl _ w).alloc (Nat.le_refl _) _)
  clear r0
  go_enter Tryz.func107, Tryz.ntmps107
  go_wp2
  go_ret
  exact ⟨by simp, HB.out⟩

end Go.Proofs.YtimhbjlmpojhoaaGreatDoor.Bq

/-! What a Book of lists of ranges does to memory: each list is filled with its mark. Written by mkfill8.py. -/
namespace Go.Proofs.YtimhbjlmpojhoaaGreatDoor.Bq
open Go Go.RowKit

def depF8 : Nat → List Nat
  | 1 => [0]
  | 4 => [3]
  | 5 => [4]
  | 6 => [1, 2]
  | 7 => [6, 5]
  | _ => []
def dclF8 : Nat → List Nat
  | 7 => [6, 5, 4, 3, 2, 1, 0]
  | 6 => [1, 2, 0]
  | 5 => [4, 3]
  | 4 => [3]
  | 1 => [0]
  | _ => []
def valF8 (Hb g nk c q k : Nat) : Nat → Value
  | 0 => .pointer (some ⟨Hb, 0, none⟩)
  | 1 => .slice (some ⟨g, 0, none⟩) nk c
  | 2 => .int .i64 (q : Int)
  | 3 => .pointer (some ⟨Hb, 2, none⟩)
  | 4 => .int .i64 (k : Int)
  | 6 => .pointer (some ⟨g, 0 + q * 2, none⟩)
  | _ => undef
/-- What the world is ahead of the call, behind it, and behind the store. -/
def fR8 (wr : World) (g q k : Nat) : Nat → World → Value → Prop
  | 0, W, _ => Below wr.heap.size wr W
  | 1, W, u => Below wr.heap.size wr W ∧ u = .agg (rC2 (mk k))
  | _, W, _ => ∃ W1, Below wr.heap.size wr W1 ∧ W = W1.setCells g (q * 2) (rC2 (mk k)).toList
theorem fR8.zero {wr W : World} {g q k : Nat} {u : Value} (h : fR8 wr g q k 0 W u) : Below wr.heap.size wr W := h
theorem fR8.one {wr W : World} {g q k : Nat} {u : Value} (h : fR8 wr g q k 1 W u) : Below wr.heap.size wr W ∧ u = .agg (rC2 (mk k)) := h
theorem fR8.two {wr W : World} {g q k : Nat} {u : Value} (h : fR8 wr g q k 2 W u) : ∃ W1, Below wr.heap.size wr W1 ∧ W = W1.setCells g (q * 2) (rC2 (mk k)).toList := h

set_option maxRecDepth 20000 in
set_option maxHeartbeats 2000000 in
theorem fill_any (S B h m cap : Nat) (nu : Nat → Nat) (E : Nat → Value) (N : Nat → Nat) (Lg : Nat → Value) (X : Nat → List (Nat × Nat)) (w0 wF : World) (hnu : ∀ i, i < m → nu i ≤ 5000000) (hm2 : m ≤ 3000000) (hN : ∀ i, i < m → N i ≤ 5000000) (hLg : ∀ i, i < m → Lg i = .slice none 0 0) (sep : Sep S B h m E) (st : St S B h m cap nu E N Lg X w0 wF) :
    Calls Tryz.prog 38 #[.pointer (some ⟨B, 0, none⟩)] wF fun e w' => e = .returned (.tuple #[]) ∧ St S B h m cap nu E N Lg (fun i => List.replicate (N i) (mk (nu i))) w0 w' ∧ KeepP (OwnB m E) wF w' := by
  have hc := st.book
  have HST := veil st
  clear st
  refine (callsIn_wide (n := 4)).1 ?_
  refine callsIn_of_wp Tryz.func38 rfl trivial ?_ rfl
  simp only [Tryz.ntmps38, List.size_toArray, List.length_cons, List.length_nil, Nat.reduceAdd, Nat.reduceSub, Array.replicate_succ, Array.replicate_zero, List.push_toArray, List.append_toArray, List.nil_append, List.cons_append]
  gi_wp2_with fail
  gi_loopw [2] (fun i wr => ∃ (k : Nat) (Y : Nat → List (Nat × Nat)), k ≤ m ∧ i = .int .i64 k ∧ St S B h m cap nu E N Lg Y w0 wr ∧ (∀ j, j < k → Y j = List.replicate (N j) (mk (nu j))) ∧ KeepP (OwnB m E) wF wr) (fun i _ => m - (intOf i).toNat)
  case atStart => exact ⟨0, X, Nat.zero_le _, rfl, HST.out, fun j hj => absurd hj (Nat.not_lt_zero _), KeepP.refl _ _⟩
  case round =>
    obtain ⟨k, Y, hk, rfl, st, hY, hkp⟩ := hrel
    have HKP := veil hkp
    clear hkp
    have hcb := st.book
    by_cases hlt : k < m
    · have c0 := st.l k hlt
      have c1 := st.g k hlt
      have c2 := st.n k hlt
      have hNk := hN k hlt
      have hkm : nu k ≤ 5000000 := hnu k hlt
      have HSR := veil st
      have HY := veil hY
      rw [hLg k hlt] at c1
      have hlen := rowsLen (st.rows k hlt)
      have hbh := st.bh
      obtain ⟨ao, c, hE⟩ : ∃ ao c, E k = .slice ao (N k) c := by
        rcases bookOwn_shape (st.rows k hlt) with ⟨h1, h2⟩ | ⟨g, c, h1, _⟩
        · exact ⟨none, 0, by rw [h1, h2]⟩
        · exact ⟨some ⟨g, 0, none⟩, c, h1⟩
      have HE := veil hE
      rw [hE] at c0
      clear st hY hE
      gi_wp2_with fail
      obtain ⟨wo, rfl⟩ : ∃ wo : World, wo = wr := ⟨_, rfl⟩
      have HA := HSR.out.alloc (.cells #[.slice ao (N k) c, .slice none 0 0, .int .i64 (nu k : Int)] 112)
      gi_loopw [4] (fun i wq => ∃ (q : Nat) (Z : List (Nat × Nat)), q ≤ N k ∧ i = .int .i64 q ∧ St S B h m cap nu E N Lg (fun j => if j = k then Z else Y j) w0 wq ∧ Z.length = N k ∧ Z.take q = List.replicate q (mk (nu k)) ∧ wq.cell? ⟨wo.heap.size, 0, none⟩ = some (.slice ao (N k) c) ∧ wq.cell? ⟨wo.heap.size, 2, none⟩ = some (.int .i64 (nu k : Int)) ∧ wo.heap.size < wq.heap.size ∧ KeepP (OwnB m E) wF wq) (fun i _ => N k - (intOf i).toNat)
      case atStart =>
        refine ⟨0, Y k, Nat.zero_le _, rfl, ?_, hlen, rfl, by simp, by simp, by simp, keep_grown HKP.out (World.grownBy_alloc _ _ none) (fun b e => by cases e)⟩
        have e : (fun j => if j = k then Y k else Y j) = Y := by
          funext j
          by_cases hj : j = k
          · rw [if_pos hj, hj]
          · rw [if_neg hj]
        rw [e]
        exact HA
      case round =>
        obtain ⟨q, Z, hq, rfl, st2, hZl, hZ, hp0, hp2, hsq, hkp2⟩ := hrel
        have HKP2 := veil hkp2
        clear hkp2
        have HS2 := veil st2
        by_cases hqn : q < N k
        · obtain ⟨g, hao⟩ : ∃ g, ao = some ⟨g, 0, none⟩ := by
            rcases bookOwn_shape (HSR.out.rows k hlt) with ⟨h1, h2⟩ | ⟨g, c4, h1, _⟩
            · omega
            · rw [HE.out] at h1; injection h1 with e1 e2 e3; exact ⟨g, e1⟩
          subst hao
          have hgl : g < wo.heap.size := ((HSR.out.rows k hlt).lt g (by rw [HE.out]; rfl)).2
          have ownW : ∀ W', Below wr.heap.size wr W' → W'.ownsRow S 114 2 (.slice (some ⟨g, 0, none⟩) (N k) c) (N k) (vr Z) := by
            intro W' hb
            have hrow := (HS2.out.belowW hb).rows k hlt
            simp only [if_true] at hrow
            rw [HE.out] at hrow
            exact hrow
          have HZ := veil hZ
          have HZL := veil hZl
          have i1 : (0 : Int) ≤ (q : Int) := by omega
          have i2 : (q : Int) < (N k : Int) := by omega
          clear st2 hZ hZl HA
          gi_wp2_with fail
          refine wpIn_region_any (by kernel_rfl) ?_
          refine anyIn_spine (valF8 wo.heap.size g (N k) c q (nu k)) (fR8 wr g q (nu k)) undef [5, 7] [28, 29, 30, 31, 32, 33, 34, 100000] depF8 dclF8 (by kernel_rfl) (by decide) rfl (by decide) (by decide) ?ord (by decide) ((Below.refl _ _).drew) ?fix ?cal ?don
          case ord =>
            intro k i j h1 h2
            match k, h1, h2 with
            | 0, h1, h2 =>
              obtain rfl := Option.some.inj h1
              obtain rfl := Option.some.inj h2
              decide
            | 1, _, h2 => simp at h2
            | _ + 2, h1, _ => simp at h1
          case fix =>
            intro x W m2 ii d u hR hdi hni hdep hlo hhi
            have hm1 : m2 ≤ 1 ∨ 7 < ii := by
              by_cases h7 : 7 < ii
              · exact .inr h7
              · refine .inl (hhi 1 7 rfl ?_)
                have : ii = 0 ∨ ii = 1 ∨ ii = 2 ∨ ii = 3 ∨ ii = 4 ∨ ii = 6 := by
                  have : ii ≠ 5 := fun e => hni (by rw [e]; decide)
                  have : ii ≠ 7 := fun e => hni (by rw [e]; decide)
                  omega
                rcases this with rfl | rfl | rfl | rfl | rfl | rfl <;> decide
            have hbW : 7 < ii ∨ Below wr.heap.size wr W := by
              rcases hm1 with h1 | h1
              · right
                rcases Nat.le_one_iff_eq_zero_or_eq_one.1 h1 with rfl | rfl
                · exact fR8.zero hR
                · exact (fR8.one hR).1
              · exact .inl h1
            have hb0 : 7 < ii ∨ (W.cell? ⟨wo.heap.size, 0, none⟩ = some (.slice (some ⟨g, 0, none⟩) (N k) c) ∧ W.cell? ⟨wo.heap.size, 2, none⟩ = some (.int .i64 (nu k : Int))) := by
              rcases hbW with h1 | h1
              · exact .inl h1
              · exact .inr ⟨(World.cell?_of_block (w := wr) (a := ⟨wo.heap.size, 0, none⟩) (h1.block wo.heap.size hsq)).trans hp0, (World.cell?_of_block (w := wr) (a := ⟨wo.heap.size, 2, none⟩) (h1.block wo.heap.size hsq)).trans hp2⟩
            by_cases h7 : 7 < ii
            · rw [List.getElem?_eq_none (by simp; omega)] at hdi
              cases hdi
            obtain ⟨b0, b2⟩ := hb0.resolve_left h7
            clear hm1 hbW hb0 h7
            match ii, hdi, hdep with
            | 0, hdi, _ =>
              obtain rfl := Option.some.inj hdi
              exact OI_value rfl rfl (about_none (by intro c h; cases h)) (by intro c h; cases h) (.pointer (some ⟨wo.heap.size, 0, none⟩)) W (by kernel_rfl) ⟨rfl, rfl⟩
            | 1, hdi, hdep =>
              obtain rfl := Option.some.inj hdi
              rw [updV_self (show x 0 = _ from hdep 0 (by simp [depF8]) (by decide))]
              exact OI_value rfl rfl (about_none (by intro c h; cases h)) (by intro c h; cases h) (.slice (some ⟨g, 0, none⟩) (N k) c) W (run_cellB 35 _ ⟨wo.heap.size, 0, none⟩ _ _ rfl (by kernel_rfl) Tryz.underlying35 rfl W b0) ⟨rfl, rfl⟩
            | 2, hdi, _ =>
              obtain rfl := Option.some.inj hdi
              exact OI_value rfl rfl (about_none (by intro c h; cases h)) (by intro c h; cases h) (.int .i64 (q : Int)) W (by kernel_rfl) ⟨rfl, rfl⟩
            | 3, hdi, _ =>
              obtain rfl := Option.some.inj hdi
              exact OI_value rfl rfl (about_none (by intro c h; cases h)) (by intro c h; cases h) (.pointer (some ⟨wo.heap.size, 2, none⟩)) W (by kernel_rfl) ⟨rfl, rfl⟩
            | 4, hdi, hdep =>
              obtain rfl := Option.some.inj hdi
              rw [updV_self (show x 3 = _ from hdep 3 (by simp [depF8]) (by decide))]
              exact OI_value rfl rfl (about_none (by intro c h; cases h)) (by intro c h; cases h) (.int .i64 (nu k : Int)) W (run_cellB 3 _ ⟨wo.heap.size, 2, none⟩ _ _ rfl (by kernel_rfl) Tryz.underlying3 rfl W b2) ⟨rfl, rfl⟩
            | 5, _, _ => exact absurd (by decide) hni
            | 6, hdi, hdep =>
              obtain rfl := Option.some.inj hdi
              rw [updV_self (show x 1 = _ from hdep 1 (by simp [depF8]) (by decide)), updV_self (show (updV x 1 _) 2 = _ from hdep 2 (by simp [depF8]) (by decide))]
              exact OI_value rfl rfl (about_none (by intro c h; cases h)) (by intro c h; cases h) (.pointer (some ⟨g, 0 + q * 2, none⟩)) W (run_atR 35 114 2 _ _ g 0 (N k) c q rfl (by kernel_rfl) (by kernel_rfl) Tryz.underlying35 (by kernel_rfl) hqn W) ⟨rfl, rfl⟩
            | 7, _, _ => exact absurd (by decide) hni
            | _ + 8, hdi, _ => simp at hdi
          case cal =>
            intro x W k2 ii d u hR hk hdi hdep hu0 hup
            match k2, hk, hR, hup with
            | 0, hk, hR, _ =>
              obtain rfl := Option.some.inj hk
              obtain rfl := Option.some.inj hdi
              rw [updV_self (show x 4 = _ from hdep 4 (by simp [depF8]) (by decide))]
              refine OI_call rfl rfl (by intro c h; cases h) 95 #[.int .i64 (nu k : Int)] (fun _ _ => trivial) (by kernel_rfl) (by decide) ?_
              refine (callsIn_wide.2 (mark_r (nu k) W hkm)).mono ?_
              rintro e w' ⟨rfl, hb'⟩
              exact ⟨_, rfl, _, rfl, (fR8.zero hR).trans (hb'.mono (fR8.zero hR).size), rfl⟩
            | 1, hk, hR, hup =>
              obtain rfl := Option.some.inj hk
              obtain rfl := Option.some.inj hdi
              obtain ⟨hbW, hu⟩ := fR8.one hR
              have hx5 : x 5 = .agg (rC2 (mk (nu k))) := (hup 0 5 rfl rfl).trans hu
              rw [updV_self (show x 6 = _ from hdep 6 (by simp [depF8]) (by decide)), updV_self (show updV x 6 _ 5 = _ from hx5)]
              refine OI_skip rfl rfl (about_none (by intro c h; cases h)) (by intro c h; cases h) (W.setCells g (0 + q * 2) (rC2 (mk (nu k))).toList) ?_ ?_
              · exact run_storeMid8 114 _ _ g (0 + q * 2) (rC2 (mk (nu k))) rfl (by kernel_rfl) (by kernel_rfl) W (own_there (ownW W hbW) HZL.out q hqn) (by kernel_rfl) (by kernel_rfl)
              · refine ⟨undef, (put_none _ _).trans (put_far _ _ _ (by rw [puts_size]; exact Nat.le_of_ble_eq_true rfl)).symm, W, hbW, ?_⟩
                rw [Nat.zero_add]
            | _ + 2, hk, _, _ => simp at hk
          case don =>
            intro x W u hR hx hlast
            obtain ⟨W1, hb1, rfl⟩ := fR8.two hR
            have hst := (HS2.out.belowW hb1).store sep hlt HE.out q hqn (mk (nu k))
            simp only [if_true] at hst
            have e : (fun j => if j = k then Z.set q (mk (nu k)) else if j = k then Z else Y j) = (fun j => if j = k then Z.set q (mk (nu k)) else Y j) := by
              funext j
              by_cases hj : j = k
              · rw [if_pos hj, if_pos hj]
              · rw [if_neg hj, if_neg hj, if_neg hj]
            rw [e] at hst
            have HS5 := veil hst
            have hgr : W1.grownBy (W1.setCells g (q * 2) (rC2 (mk (nu k))).toList) (some g) := by
              have e : W1.setCells g (q * 2) (rC2 (mk (nu k))).toList = (W1.setCell ⟨g, q * 2, none⟩ (.int .u64 ((mk (nu k)).1 : Int))).setCell ⟨g, q * 2 + 1, none⟩ (.int .u64 ((mk (nu k)).2 : Int)) := rfl
              rw [e]
              exact ⟨rfl, rfl, rfl, by simp, fun b _ hb => (Below.heap_setCell _ _ _ b (fun e => hb (by rw [e]))).trans (Below.heap_setCell _ _ _ b (fun e => hb (by rw [e])))⟩
            have HKP5 := veil (keep_grown (keep_below HKP2.out hb1) hgr (fun b e => by injection e with e; subst e; exact .inl ⟨k, hlt, by rw [HE.out]; rfl⟩))
            have hs1 := hb1.size
            have hs2 := hgr.size
            have kp : ∀ j v, wr.cell? ⟨wo.heap.size, j, none⟩ = some v → (W1.setCells g (q * 2) (rC2 (mk (nu k))).toList).cell? ⟨wo.heap.size, j, none⟩ = some v := fun j v hv => hgr.cell ((World.cell?_of_block (w := wr) (a := ⟨wo.heap.size, j, none⟩) (hb1.block wo.heap.size hsq)).trans hv) (by show some wo.heap.size ≠ _; intro e; injection e with e; omega)
            have r0 := kp 0 _ hp0
            have r2 := kp 2 _ hp2
            have hsz : wo.heap.size < (W1.setCells g (q * 2) (rC2 (mk (nu k))).toList).heap.size := by omega
            generalize W1.setCells g (q * 2) (rC2 (mk (nu k))).toList = W2 at *
            have z0 := hx 0 (by decide) (by decide)
            have z1 := hx 1 (by decide) (by decide)
            have z2 := hx 2 (by decide) (by decide)
            have z3 := hx 3 (by decide) (by decide)
            have z4 := hx 4 (by decide) (by decide)
            have z6 := hx 6 (by decide) (by decide)
            simp only [putsV, z0, z1, z2, z3, z4, z6, valF8, Act.put, List.setIfInBounds_toArray, List.set_cons_succ, List.set_cons_zero, Nat.reduceAdd]
            clear z0 z1 z2 z3 z4 z6 hx hR hst kp hgr hb1 hlast
            gi_wp2_with fail
            go_roundw
            case rel => exact ⟨q + 1, Z.set q (mk (nu k)), by omega, by go_num, HS5.out, by rw [List.length_set]; exact HZL.out, set_step Z q (N k) (mk (nu k)) HZL.out hqn HZ.out, r0, r2, hsz, HKP5.out⟩
            case measure => simp [intOf]; omega
        · have hqe : q = N k := by omega
          have HZF : Hid (Z = List.replicate (N k) (mk (nu k))) := by
            rw [hqe, List.take_of_length_le (by omega)] at hZ
            exact hZ
          clear st2 hZ hZl HA
          gi_wp2_with fail
          go_roundw
          case rel =>
            refine ⟨k + 1, _, by omega, by go_num, HS2.out, fun j hj => ?_, HKP2.out⟩
            by_cases hjk : j = k
            · simp only [hjk, if_true]; exact HZF.out
            · simp only [hjk, if_false]; exact HY.out j (by omega)
          case measure => simp [intOf]; omega
    · have hkm : k = m := by omega
      subst hkm
      have HSR := veil st
      have HY := veil hY
      clear st hY
      gi_wp2_with fail
      go_end0
      have hst := HSR.out
      refine ⟨rfl, ⟨hst.sS, hst.bB, hst.bh, hst.book, hst.l, hst.g, hst.n, hst.fz, fun i hi => ?_, hst.below⟩, HKP.out⟩
      have := hst.rows i hi
      rw [HY.out i hi] at this
      exact this
end Go.Proofs.YtimhbjlmpojhoaaGreatDoor.Bq
