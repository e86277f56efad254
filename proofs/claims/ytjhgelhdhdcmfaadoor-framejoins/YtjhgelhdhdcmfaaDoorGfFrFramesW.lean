/-
  frame's reader: frames.
-/
import Derived.Test.YtjhgelhdhdcmfaaDoorGfFrDoor
namespace Go.Proofs.YtjhgelhdhdcmfaaDoor
open Go Go.RowKit

/-- What frames answers. -/
def FramesPost (w : World) (s : SL) (x : Ending) (w' : World) : Prop :=
  (∃ e, allP s.b [] = .error e ∧ x = .returned (.tuple #[.slice none 0 0, .int .i64 (e : Int)])) ∨ (∃ (Fs : List FrM) (lv : Value), allP s.b [] = .ok (Fs.map FrM.fr).reverse ∧ x = .returned (.tuple #[lv, .int .i64 0]) ∧ w'.ownsRow (w.heap.size + 3) 39 8 lv Fs.length (vf Fs) ∧ ∀ F ∈ Fs, FrNew (w.heap.size + 3) w' F)
theorem own_shapeW {w : World} {base n : Nat} {v : Value} {xs : List Value} (h : w.ownsRow base 39 8 v n xs) : ∃ a c, v = .slice a n c := by
  rcases h.2 with ⟨rfl, rfl⟩ | ⟨g, c, _, rfl, _⟩
  · exact ⟨none, 0, rfl⟩
  · exact ⟨_, c, rfl⟩
def measL (g : Nat) (W : World) : Nat := match W.cell? ⟨g, 0, none⟩ with
  | some (.slice _ n _) => n
  | _ => 0
def depFW : Nat → List Nat
  | 2 => [1]
  | 3 => [2]
  | 4 => [0, 3]
  | 5 => [4]
  | _ => []
def valFW (g f : Nat) (lv : Value) : Nat → Value
  | 0 => lv
  | 1 => fv g f
  | _ => undef
/-- What the spine of a round brings about. -/
def frR (w : World) (g n : Nat) (s s' : SL) (lv : Value) (Fs : List FrM) : Nat → World → Value → Prop
  | 0, W, _ => Lp w g s s' n lv Fs W ∧ W.ownsRow (w.heap.size + 3) 39 8 lv Fs.length (vf Fs)
  | 1, W, u => ∃ F rest, ∃ s2 : SL, Fr.bodyP n s'.b = .ok (F.fr, rest) ∧ s2.b = rest ∧ Lp w g s s2 n lv (Fs ++ [F]) W ∧ W.ownsRow (w.heap.size + 3) 39 8 lv Fs.length (vf Fs) ∧ u = .agg F.cells
  | 2, W, u => ∃ F rest, ∃ (s2 : SL) (gN : Nat), Fr.bodyP n s'.b = .ok (F.fr, rest) ∧ s2.b = rest ∧ Lp w g s s2 n lv (Fs ++ [F]) W ∧ W.ownsRow (w.heap.size + 3) 39 8 lv Fs.length (vf Fs) ∧ u = .slice (some ⟨gN, 0, none⟩) 1 1 ∧ (∀ j v, (vf [F])[j]? = some v → W.cell? ((⟨gN, 0, none⟩ : Addr).add j) = some v)
  | 3, W, u => ∃ F rest, ∃ s2 : SL, Fr.bodyP n s'.b = .ok (F.fr, rest) ∧ s2.b = rest ∧ Lp w g s s2 n lv (Fs ++ [F]) W ∧ W.ownsRow (w.heap.size + 3) 39 8 u (Fs ++ [F]).length (vf (Fs ++ [F]))
  | _, W, _ => ∃ F rest, ∃ (s2 : SL) (lv' : Value), Fr.bodyP n s'.b = .ok (F.fr, rest) ∧ s2.b = rest ∧ Lp w g s s2 n lv' (Fs ++ [F]) W ∧ W.ownsRow (w.heap.size + 3) 39 8 lv' (Fs ++ [F]).length (vf (Fs ++ [F]))
theorem frR_cell {w W : World} {g n m : Nat} {s s' : SL} {lv u : Value} {Fs : List FrM} (h : frR w g n s s' lv Fs m W u) (hm : m ≤ 3) : W.cell? ⟨w.heap.size, 0, none⟩ = some lv := by
  match m, hm, h with
  | 0, _, h => exact h.1.rl.cell 0
  | 1, _, ⟨_, _, _, _, _, h, _⟩ => exact h.rl.cell 0
  | 2, _, ⟨_, _, _, _, _, _, h, _⟩ => exact h.rl.cell 0
  | 3, _, ⟨_, _, _, _, _, h, _⟩ => exact h.rl.cell 0
theorem vf_one (Fs : List FrM) : ∀ u ∈ vf Fs, u.oneCell' = true := by
  intro u hu
  obtain ⟨F, _, h⟩ := List.mem_flatMap.1 hu
  simp only [FrM.cells, List.mem_cons, List.not_mem_nil, or_false] at h
  rcases h with rfl | rfl | rfl | rfl | rfl | rfl | rfl | rfl <;> rfl
theorem frR_1 {w W W' : World} {g n : Nat} {s s' s2 : SL} {lv u v : Value} {Fs : List FrM} {f : Fr.Frame} {rest : List By} (h : frR w g n s s' lv Fs 0 W u) (he : Fr.bodyP n s'.b = .ok (f, rest)) (hv : frV W.heap.size f W' v) (hR : Rd W' g s2 n) (hb : s2.b = rest) (hsg : s2.g = s'.g) (hsl : s2.len ≤ s'.len) (hg : W.grownBy W' (some g)) : frR w g n s s' lv Fs 1 W' v := by
  obtain ⟨F, h1, h2, h3⟩ := hv
  have L2 := h.1.call hR hsg hsl hg
  refine ⟨F, rest, s2, by rw [h3]; exact he, hb, ⟨L2.rd, L2.sg, L2.sl, L2.rl, L2.re, L2.mp, fun G hG => ?_, L2.gro, L2.ord⟩, own_grown h.2 hg (by have := h.1.ord; omega), h1⟩
  rcases List.mem_append.1 hG with hG | hG
  · exact L2.each G hG
  · rw [List.mem_singleton.1 hG]
    exact h2.low h.1.top
theorem frR_2 {w W : World} {g n : Nat} {s s' : SL} {lv : Value} {Fs : List FrM} {F : FrM} {rest : List By} {s2 : SL} (h1 : Fr.bodyP n s'.b = .ok (F.fr, rest)) (h2 : s2.b = rest) (h3 : Lp w g s s2 n lv (Fs ++ [F]) W) (h4 : W.ownsRow (w.heap.size + 3) 39 8 lv Fs.length (vf Fs)) : frR w g n s s' lv Fs 2 (W.alloc (.cells F.cells 39)) (.slice (some ⟨W.heap.size, 0, none⟩) 1 1) := by
  have b : Below W.heap.size W (W.alloc (.cells F.cells 39)) := (Below.refl _ _).alloc (Nat.le_refl _) _
  refine ⟨F, rest, s2, W.heap.size, h1, h2, h3.keep (b.mono h3.top) (others_below b), own_below2 h4 b, rfl, fun j u hj => ?_⟩
  have rr : Row (W.alloc (.cells F.cells 39)) W.heap.size 39 F.cells := Row.new _ _ _
  rw [add_at, Nat.zero_add, rr.cell j, ← hj]
  show F.cells.toList.toArray[j]? = _
  rw [List.getElem?_toArray]
  show _ = (F.cells.toList ++ vf [])[j]?
  rw [show vf [] = [] from rfl, List.append_nil]
theorem frR_3 {w W : World} {g n gN : Nat} {s s' : SL} {lv : Value} {Fs : List FrM} (hF : Fs.length ≤ 1024) (h : frR w g n s s' lv Fs 2 W (.slice (some ⟨gN, 0, none⟩) 1 1)) :
    ∃ v' W', (Builtin.append_ #[22, 22] 22 #[lv, .slice (some ⟨gN, 0, none⟩) 1 1]).run Tryd.prog W = .ok v' W' ∧ frR w g n s s' lv Fs 3 W' v' := by
  obtain ⟨i0, hi, hz0, hz1, hz2⟩ := frame_info
  obtain ⟨F, rest, s2, gN', h1, h2, h4, h5, h6, h7⟩ := h
  injection h6 with e
  injection e with e
  injection e with e
  subst e
  obtain ⟨v', W', hr, ho, hg, _⟩ := run_append_own (P := Tryd.prog) W (w.heap.size + 3) 22 22 39 i0 (.agg zF) 8 96 Tryd.underlying22 hi hz0 hz1 hz2 rfl (by decide) lv Fs.length (vf Fs) h5 ⟨gN, 0, none⟩ 1 1 (vf [F]) rfl h7 (vf_one _) (by unfold maxLen; omega) (by omega) h4.top
  have b : Below (w.heap.size + 3) W W' := (Below.refl _ W).grown hg h4.top (fun p e => (h5.lt p e).1)
  have oth : Others (w.heap.size + 3) W W' := by
    refine ⟨hg.size, fun k hk hl hno => hg.block k hl (fun e => ?_)⟩
    rcases h5.2 with ⟨q, _⟩ | ⟨gL, c, cur, q, _, q5, _⟩
    · rw [q] at e; cases e
    · rw [q] at e
      have e2 : k = gL := Option.some.inj e
      subst e2
      exact hno _ _ q5
  refine ⟨v', W', hr, F, rest, s2, h1, h2, h4.keep b oth, ?_⟩
  rw [vf_append, List.length_append]
  exact ho

theorem run_callF {a : Act} {o : Oper} (x : Operand) (g n : Nat) (ht : Fr.isType n = true) (ho : o.op = .call { callee := .value x, args := #[], argTypes := #[] }) (hx : a.eval x = fv g (fnOf n)) (W : World) : (execOp a.eval o).run Tryd.prog W = .ok (.enter (fnOf n) #[.pointer (some ⟨g, 0, none⟩)]) W := by
  unfold execOp
  simp only [ho, resolve, hx, List.map_toArray, List.map_nil]
  rcases type_cases ht with rfl | rfl | rfl | rfl | rfl | rfl | rfl | rfl | rfl | rfl | rfl | rfl | rfl | rfl | rfl | rfl | rfl | rfl | rfl | rfl | rfl | rfl | rfl
  all_goals kernel_rfl

set_option maxRecDepth 20000 in
set_option maxHeartbeats 4000000 in
theorem fr_frames (g : Nat) (s : SL) (tb : Nat) (w : World) (h : Rd w g s tb) :
    Calls Tryd.prog 20 #[.pointer (some ⟨g, 0, none⟩)] w fun x w' => FramesPost w s x w' ∧ w.grownBy w' (some g) := by
  have hmf : ∀ (fn : Fn) (first cap : Array Value) (w : World), (Instr.makeFunc fn first cap).run Tryd.prog w = .ok (.func fn first cap) w := fun _ _ _ _ => rfl
  have hgw := h.row.lt
  have hLl := h.lens.lt
  have H := veil h
  have B0 := veil (show Below w.heap.size w ((w.alloc (.cells #[.slice none 0 0] 22)).alloc (.cells #[.int .i64 0] 27)) from ((Below.refl _ w).alloc (Nat.le_refl _) _).alloc (by simp) _)
  have RL := veil (show Row ((w.alloc (.cells #[.slice none 0 0] 22)).alloc (.cells #[.int .i64 0] 27)) w.heap.size 22 #[.slice none 0 0] from (Row.new _ _ _).alloc _)
  have RE := veil (show Row ((w.alloc (.cells #[.slice none 0 0] 22)).alloc (.cells #[.int .i64 0] 27)) (w.heap.size + 1) 27 #[.int .i64 0] from Row.new1 _ _ _ _)
  have hs0 : ((w.alloc (.cells #[.slice none 0 0] 22)).alloc (.cells #[.int .i64 0] 27)).heap.size = w.heap.size + 2 := by simp
  clear h
  refine (callsIn_wide (n := 4)).1 ?_
  refine callsIn_of_wp_defers Tryd.func20 rfl trivial ?_ rfl
  simp only [Tryd.ntmps20, List.size_toArray, List.length_cons, List.length_nil, Nat.reduceAdd, Nat.reduceSub, Array.replicate_succ, Array.replicate_zero, List.push_toArray, List.append_toArray, List.nil_append, List.cons_append]
  gi_wp2_with fail
  refine ⟨trivial, (callsIn_wide.2 (rd_rows g ((w.alloc (.cells #[.slice none 0 0] 22)).alloc (.cells #[.int .i64 0] 27)))).mono ?_⟩
  rintro x1 w1 ⟨rfl, hM1, hb1⟩
  rw [hs0] at hM1 hb1 ⊢
  have LP := veil (show Lp w g s s tb (.slice none 0 0) [] w1 from ⟨(H.out.below B0.out).below (by rw [hs0]; exact hb1), rfl, Nat.le_refl _, RL.out.below hb1 (by omega), RE.out.below hb1 (by omega), hM1, (fun F hF => by cases hF), grown_trans (grown_below B0.out) (grown_below (by rw [hs0]; exact hb1)), hgw, hLl, fun p => H.out.ok.lt p⟩)
  clear hM1 hb1 B0 RL RE hs0
  gi_wp2_with fail
  gi_loopw [5] (fun _ wr => ∃ (Fs : List FrM) (s' : SL) (tb' : Nat) (lv : Value), Lp w g s s' tb' lv Fs wr ∧ wr.ownsRow (w.heap.size + 3) 39 8 lv Fs.length (vf Fs) ∧ Fs.length ≤ 1024 ∧ allP s.b [] = allP s'.b (Fs.map FrM.fr).reverse)
    (fun _ wr => measL g wr)
  case atStart => exact ⟨[], s, tb, .slice none 0 0, LP.out, World.ownsRow_nil _ _ _ _, Nat.zero_le _, rfl⟩
  case round =>
    clear LP
    obtain ⟨Fs, s1, tb1, lv, hL, hO, hn, hE⟩ := hrel
    obtain ⟨aV, cV, rfl⟩ := own_shapeW hO
    have c0 : wr.cell? ⟨g, 0, none⟩ = some (.slice s1.a s1.len s1.cap) := hL.rd.row.cell 0
    have cl : wr.cell? ⟨w.heap.size, 0, none⟩ = some (.slice aV Fs.length cV) := hL.rl.cell 0
    have zl := hL.rl.frozen 0
    have ce : wr.cell? ⟨w.heap.size + 1, 0, none⟩ = some (.int .i64 0) := hL.re.cell 0
    have ze := hL.re.frozen 0
    have LP := veil hL
    have OW := veil hO
    have HE := veil hE
    have HM := veil (show measL g wr = s1.len by unfold measL; rw [c0])
    clear hL hO hE
    by_cases hl : s1.len = 0
    · have f1 : decide ((0 : Int) < (s1.len : Int)) = false := by simp; omega
      have f1n : decide (0 < s1.len) = false := by simp; omega
      have E := veil (show allP s.b [] = .ok (Fs.map FrM.fr).reverse by rw [HE.out, List.eq_nil_of_length_eq_zero (show s1.b.length = 0 by rw [LP.out.rd.ok.hb]; exact hl)]; rfl)
      have L2 := veil (LP.out.store (.slice aV Fs.length cV))
      have O2 := veil (own_setc (j := 0) (u := .slice aV Fs.length cV) OW.out (show w.heap.size < w.heap.size + 3 by omega))
      clear hl
      gi_wp2_with fail
      refine door_ret w.heap.size _ aV Fs.length cV ((L2.out.rl).other (a := ⟨w.heap.size + 1, 0, none⟩) (show w.heap.size ≠ w.heap.size + 1 by omega) _) (L2.out.re.set 0 _) rfl rfl ?_
      refine ⟨.inr ⟨Fs, _, E.out, rfl, own_setc O2.out (by omega), fun F hF => (L2.out.each F hF).keep ⟨by simp [World.setCell], fun k hk _ _ => Below.heap_setCell _ _ _ _ (fun e => by have e : k = w.heap.size + 1 := e; omega)⟩⟩, grown_setc L2.out.gro (by omega) _⟩
    have f1 : decide ((0 : Int) < (s1.len : Int)) = true := by simp; omega
    have f1n : decide (0 < s1.len) = true := by simp; omega
    have hbne : s1.b ≠ [] := fun e => hl (by have := LP.out.rd.ok.hb; rw [e] at this; exact this.symm)
    have HB := veil hbne
    have HL := veil hl
    clear hbne hl
    have hpan : ∀ (W : World) (e : Nat) (tmps : Array Value), allP s.b [] = .error e → Row W w.heap.size 22 #[.slice aV Fs.length cV] → Row W (w.heap.size + 1) 27 #[.int .i64 0] → w.grownBy W (some g) → tmps.getD 2 undef = .pointer (some ⟨w.heap.size, 0, none⟩) → tmps.getD 3 undef = .pointer (some ⟨w.heap.size + 1, 0, none⟩) → LeavesIn Fence.wide 4 Tryd.prog Tryd.f20 tmps (fun x w' => FramesPost w s x w' ∧ w.grownBy w' (some g)) [dfr w.heap.size] (.panicking [{ v := .iface 27 (.int .i64 (e : Int)), recovered := false }]) W :=
      fun W e tmps he hrl hre hg h2 h3 => door_pan w.heap.size e W _ _ hrl hre h2 h3 ⟨.inl ⟨e, he, rfl⟩, grown_setc (grown_setc hg (Nat.le_refl _) _) (by omega) _⟩
    have PAN := veil hpan
    clear hpan
    by_cases h1024 : Fs.length = 1024
    · have f2 : ((Fs.length : Int) == 1024) = true := by simp; omega
      have E := veil (show allP s.b [] = .error 3 by rw [HE.out]; exact allP_full HB.out (by rw [List.length_reverse, List.length_map]; exact h1024))
      clear h1024
      gi_wp2_with fail
      exact PAN.out _ 3 _ E.out LP.out.rl LP.out.re LP.out.gro rfl rfl
    have f2 : ((Fs.length : Int) == 1024) = false := by simp; omega
    have HN := veil (show (Fs.map FrM.fr).reverse.length ≠ 1024 by rw [List.length_reverse, List.length_map]; exact h1024)
    have hn2 : Fs.length < 1024 := by omega
    clear h1024
    gi_wp2_with fail
    refine ⟨trivial, (callsIn_wide.2 (rd_begin g (w.heap.size + 2) s1 tb1 wr LP.out.rd LP.out.mp (by omega))).mono ?_⟩
    rintro x2 w2 (⟨e, he, rfl, hg⟩ | ⟨n, r, s2, he, rfl, ht, hR2, hb2, hsg2, hsl2, hg2⟩)
    · exact PAN.out _ e _ (HE.out.trans (allP_err HB.out HN.out ((frameP_begin s1.b).trans (Fr.thenR_err he)))) (LP.out.rl.grown hg (by omega)) (LP.out.re.grown hg (by omega)) (grown_trans LP.out.gro hg) rfl rfl
    have EB := veil he
    have B2 := veil hb2
    have HT := veil ht
    have L2 := veil (LP.out.call hR2 hsg2 hsl2 hg2)
    have O2 := veil (own_grown OW.out hg2 (show g < w.heap.size + 3 by omega))
    have M2 := veil (show s2.len < s1.len by
      have h1 : s2.b.length < s1.b.length := by
        rw [hb2]
        unfold beginR at he
        cases hq : Fr.getN s1.b with
        | none => rw [hq] at he; cases he
        | some p =>
          obtain ⟨n', k'⟩ := p
          rw [hq] at he
          simp only at he
          obtain ⟨k1, k2, _⟩ := Fr.getN_some hq
          split at he
          · injection he with he
            injection he with _ he
            rw [← he, List.length_drop]
            omega
          · cases he
      have := LP.out.rd.ok.hb
      have := hR2.ok.hb
      omega)
    clear he hb2 ht hR2 hsg2 hsl2 hg2 cl zl ce ze c0 OW
    gi_wp2_with fail
    refine wpIn_region_any (by kernel_rfl) ?_
    refine anyIn_spine (valFW g (fnOf n) (.slice aV Fs.length cV)) (frR w g n s s2 (.slice aV Fs.length cV) Fs) undef [2, 3, 4, 5] [22, 23, 24, 25, 26, 100000] depFW depFW (by kernel_rfl) (by decide) rfl (by decide) (by decide) ?ord (by decide) ⟨L2.out.keep ((Below.refl _ _).drew) (others_below ((Below.refl _ _).drew)), O2.out⟩ ?fix ?cal ?don
    case ord =>
      intro k i j hk hk1
      match k, hk, hk1 with
      | 0, hk, hk1 => obtain rfl := Option.some.inj hk; obtain rfl := Option.some.inj hk1; decide
      | 1, hk, hk1 => obtain rfl := Option.some.inj hk; obtain rfl := Option.some.inj hk1; decide
      | 2, hk, hk1 => obtain rfl := Option.some.inj hk; obtain rfl := Option.some.inj hk1; decide
      | 3, _, hk1 => simp at hk1
      | _ + 4, hk, _ => simp at hk
    case fix =>
      intro x W m ii d u hR hdi hni hdep hlo hhi
      match ii, hdi, hdep with
      | 0, hdi, hdep =>
        obtain rfl := Option.some.inj hdi
        have hm : m ≤ 2 := hhi 2 4 rfl (by decide)
        exact OI_value rfl rfl (about_none (by intro c h; cases h)) (by intro c h; cases h) (.slice aV Fs.length cV) W (run_cellF 22 _ ⟨w.heap.size, 0, none⟩ _ _ rfl (by kernel_rfl) Tryd.underlying22 rfl W (frR_cell hR (by omega))) ⟨rfl, rfl⟩
      | 1, hdi, hdep =>
        obtain rfl := Option.some.inj hdi
        exact OI_value rfl rfl (about_none (by intro c h; cases h)) (by intro c h; cases h) (fv g (fnOf n)) W (by kernel_rfl) ⟨rfl, rfl⟩
      | 2, _, _ => exact absurd (by decide) hni
      | 3, _, _ => exact absurd (by decide) hni
      | 4, _, _ => exact absurd (by decide) hni
      | 5, _, _ => exact absurd (by decide) hni
      | _ + 6, hdi, _ => simp at hdi
    case cal =>
      intro x W k ii d u hR hk hdi hdep hu0 hup
      match k, hk, hR, hup with
      | 0, hk, hR, _ =>
        obtain rfl := Option.some.inj hk
        obtain rfl := Option.some.inj hdi
        rw [updV_self (show x 1 = _ from hdep 1 (by simp [depFW]) (by decide))]
        refine OI_callP rfl rfl (by intro c h; cases h) (fnOf n) #[.pointer (some ⟨g, 0, none⟩)] (fun _ _ => trivial) (run_callF _ g n HT.out rfl (by kernel_rfl) W) (by decide) ?_
        refine (callsIn_wide.2 (rd_row g n s2 W HT.out hR.1.rd)).mono ?_
        rintro xx ww (⟨e, he, rfl, hg⟩ | ⟨f5, b5, v5, s5, he5, rfl, hv5, hR5, hb5, hsg5, hsl5, hg5⟩)
        · right
          refine ⟨_, rfl, ?_⟩
          exact PAN.out _ e _ (HE.out.trans (allP_err HB.out HN.out ((frameP_begin s1.b).trans ((thenR_ok EB.out).trans (by rw [← B2.out]; exact he))))) (hR.1.rl.grown hg (by omega)) (hR.1.re.grown hg (by omega)) (grown_trans hR.1.gro hg) rfl rfl
        · left
          exact ⟨v5, rfl, v5, rfl, frR_1 hR he5 hv5 hR5 hb5 hsg5 hsl5 hg5⟩
      | 1, hk, hR, hup =>
        obtain rfl := Option.some.inj hk
        obtain rfl := Option.some.inj hdi
        obtain ⟨F, rest, s5, q1, q2, q3, q4, q5⟩ := hR
        have hx : x 2 = u := hup 0 2 rfl rfl
        subst q5
        rw [updV_self hx]
        exact OI_value rfl rfl (about_none (by intro c h; cases h)) (by intro c h; cases h) (.slice (some ⟨W.heap.size, 0, none⟩) 1 1) (W.alloc (.cells F.cells 39)) (by kernel_rfl) ⟨_, rfl, frR_2 q1 q2 q3 q4⟩
      | 2, hk, hR, hup =>
        obtain rfl := Option.some.inj hk
        obtain rfl := Option.some.inj hdi
        have hx : x 3 = u := hup 1 3 rfl rfl
        have hR' := hR
        obtain ⟨F, rest, s5, gN, q1, q2, q3, q4, q5, q6⟩ := hR'
        subst q5
        rw [updV_self hx, updV_self (show updV x 3 _ 0 = _ from hdep 0 (by simp [depFW]) (by decide))]
        obtain ⟨v6, W6, hr6, h6⟩ := frR_3 (by omega) hR
        exact OI_value rfl rfl (about_builtin _ _ _ rfl) (by intro c h; cases h) v6 W6 (exec_append _ _ _ _ rfl _ _ (by kernel_rfl) (by kernel_rfl) v6 W6 hr6) ⟨_, rfl, h6⟩
      | 3, hk, hR, hup =>
        obtain rfl := Option.some.inj hk
        obtain rfl := Option.some.inj hdi
        have hx : x 4 = u := hup 2 4 rfl rfl
        obtain ⟨F, rest, s5, q1, q2, q3, q4⟩ := hR
        obtain ⟨aN, cN, rfl⟩ := own_shapeW q4
        rw [updV_self hx]
        refine OI_skip rfl rfl (about_none (by intro c h; cases h)) (by intro c h; cases h) (W.setCell ⟨w.heap.size, 0, none⟩ (.slice aN (Fs ++ [F]).length cN)) ?_ ?_
        · exact run_storeS 22 _ _ ⟨w.heap.size, 0, none⟩ aN (Fs ++ [F]).length cN _ rfl (by kernel_rfl) (by kernel_rfl) (by kernel_rfl) W (q3.rl.cell 0) (q3.rl.frozen 0)
        · refine ⟨undef, (put_none _ _).trans (put_far _ _ _ (by rw [puts_size]; exact Nat.le_of_ble_eq_true rfl)).symm, F, rest, s5, _, q1, q2, q3.store _, ?_⟩
          exact own_setc q4 (by omega)
      | _ + 4, hk, _, _ => simp at hk
    case don =>
      intro x W u hR hx _
      obtain ⟨F, rest, s5, lv', q1, q2, q3, q4⟩ := hR
      have STP := veil (show ∃ (Fs' : List FrM) (s' : SL) (tb' : Nat) (lv : Value), Lp w g s s' tb' lv Fs' W ∧ W.ownsRow (w.heap.size + 3) 39 8 lv Fs'.length (vf Fs') ∧ Fs'.length ≤ 1024 ∧ allP s.b [] = allP s'.b (Fs'.map FrM.fr).reverse from
        ⟨Fs ++ [F], s5, n, lv', q3, q4, by rw [List.length_append]; simp only [List.length_cons, List.length_nil]; omega, by
          rw [HE.out, allP_ok HB.out HN.out ((frameP_begin s1.b).trans ((thenR_ok EB.out).trans (by rw [← B2.out]; exact q1))), q2, List.map_append, List.reverse_append]
          rfl⟩)
      have HMS := veil (show measL g W < s1.len by
        have h1 : W.cell? ⟨g, 0, none⟩ = some (.slice s5.a s5.len s5.cap) := q3.rd.row.cell 0
        have h2 : measL g W = s5.len := by unfold measL; rw [h1]
        have h3 : s5.b.length ≤ s2.b.length := by
          rw [q2]
          by_cases hn0 : n = 0
          · subst hn0
            have : Fr.padR 1 s2.b = .ok (F.fr, rest) := q1
            exact (Fr.padR_told _ _ _ _ this).2.1
          · have : Fr.bodyR n s2.b = .ok (F.fr, rest) := by unfold Fr.bodyP at q1; rwa [if_neg hn0] at q1
            exact Fr.shr_body n _ _ _ this
        have := M2.out
        have := q3.rd.ok.hb
        have := L2.out.rd.ok.hb
        omega)
      have z0 := hx 0 (by decide) (by decide)
      have z1 := hx 1 (by decide) (by decide)
      generalize x 2 = x2
      generalize x 3 = x3
      generalize x 4 = x4
      simp only [putsV, z0, z1, valFW, Act.put, List.setIfInBounds_toArray, List.set_cons_succ, List.set_cons_zero, Nat.reduceAdd]
      clear z0 z1 hx q1 q2 q3 q4
      gi_wp2_with fail
      go_roundw
      case rel => exact ⟨_, _, _, _, _, _, _, _, _, _, _, _, _, _, _, _, _, _, _, STP.out, rfl⟩
      case measure => rw [HM.out]; exact HMS.out
end Go.Proofs.YtjhgelhdhdcmfaaDoor
