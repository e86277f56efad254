/-
  The document's Add, and its Room.
-/
import Derived.Test.YtoajnhngcfjohaaGqTbLess
import Derived.Test.YtoajnhngcfjohaaGq4
namespace Go.Proofs.Ytoajnhngcfjohaa
open Go Go.RowKit

namespace Tb
theorem RtStep.pre {w w1 w2 : World} {h : Nat} {t' : Tab} {v v' : Value} (hb : Below w.heap.size w w1) (s : RtStep w1 h t' v w2 v') : RtStep w h t' v w2 v' :=
  ⟨s.ok, (KeepP.of_below hb).trans s.keep, fun k hk => (s.own k hk).imp id fun e => Nat.le_trans hb.size e⟩
theorem RtStep.trans {w w1 w2 : World} {h : Nat} {t1 t2 : Tab} {v v1 v2 : Value} (a : RtStep w h t1 v w1 v1) (b : RtStep w1 h t2 v1 w2 v2) : RtStep w h t2 v w2 v2 :=
  ⟨b.ok, ⟨b.keep.os.trans a.keep.os, b.keep.tape.trans a.keep.tape, b.keep.output.trans a.keep.output, Nat.le_trans a.keep.size b.keep.size, fun k hk hn =>
    (b.keep.block k (Nat.lt_of_lt_of_le hk a.keep.size) (by
      rintro (e | e)
      · exact hn (.inl e)
      · rcases a.own k e with e' | e'
        · exact hn (.inr e')
        · omega)).trans (a.keep.block k hk hn)⟩,
   fun k hk => by
    rcases b.own k hk with e | e
    · exact a.own k e
    · exact .inr (Nat.le_trans a.keep.size e)⟩
/-- A field is appended to the list. -/
theorem rt_app {W0 : World} {h : Nat} {t : Tab} {v : Value} (x : RtOk W0 h t v) (f : Fd) (ty : TypeId) (hl : t.l.length ≤ 100000) (hz : sz f ≤ 4096) (hs : size t.l ≤ 4096) :
    ∃ v2 w2, (Builtin.append_ #[49, 49] ty #[v, .slice (some ⟨W0.heap.size, 0, none⟩) 1 1]).run Try.prog (W0.alloc (.cells f.cells 23)) = .ok v2 w2 ∧
      (∃ a2 c2, v2 = .slice a2 (t.l.length + 1) c2) ∧ Row w2 h 62 (rtC t v) ∧ RtStep W0 h ⟨t.room, t.went, t.l ++ [f]⟩ v (w2.setCell ⟨h, 1, none⟩ v2) v2 := by
  have hb : Below W0.heap.size W0 (W0.alloc (.cells f.cells 23)) := (Below.refl _ W0).alloc (Nat.le_refl _) _
  have hrow := Row.new W0 23 f.cells
  have x1 := x.below hb
  have hlt := x.row.lt
  generalize W0.alloc (.cells f.cells 23) = W1 at *
  obtain ⟨v2, w2, h1, h2, h3⟩ := fds_append_from W1 ty v t.l x1.own hl [f] ⟨W0.heap.size, 0, none⟩ 1 (by simp) (fun j u hu => by
    have e : (⟨W0.heap.size, 0, none⟩ : Addr).add j = ⟨W0.heap.size, 0 + j, none⟩ := Addr.add_mid _ _ _
    rw [e, Nat.zero_add, hrow.cell j]
    rw [fds_single] at hu
    simpa using hu)
  have hk : KeepP (fun k => v.ownBlock = some k) W1 w2 := by
    rcases h3 with ⟨e1, e2, e3⟩ | ⟨e1, _⟩
    · obtain ⟨b, hbv⟩ : ∃ b, v.ownBlock = some b := by
        cases hq : v.ownBlock with
        | none => exact absurd hq e2
        | some b => exact ⟨b, rfl⟩
      rw [hbv] at e3
      exact KeepP.grown (st := fun k => v.ownBlock = some k) hbv e3
    · exact ⟨e1.os, e1.tape, e1.output, e1.size, fun k hk _ => e1.block k hk (by intro q; cases q)⟩
  have hown : ∀ k, v2.ownBlock = some k → v.ownBlock = some k ∨ W1.heap.size ≤ k := by
    intro k hk'
    rcases h3 with ⟨e1, _, _⟩ | ⟨_, e2⟩
    · exact .inl (by rw [← e1]; exact hk')
    · exact .inr (by have := e2 k hk'; omega)
  have hrow2 : Row w2 h 62 (rtC t v) := (hk.block h x1.row.lt (fun e => x.ne h e rfl)).trans x1.row
  have hvne : ∀ k, v2.ownBlock = some k → k ≠ h := by
    intro k hk' e
    rcases hown k hk' with q | q
    · exact x.ne k q e
    · have := x1.row.lt; omega
  obtain ⟨a2, c2, hv2, _, _⟩ := h2.shape
  refine ⟨v2, w2, h1, ⟨a2, c2, by rw [hv2, List.length_append]; rfl⟩, hrow2, ⟨⟨rt_setL hrow2 v2 _, ?_, ?_, x.wb⟩, ?_, ?_⟩⟩
  · exact h2.same fun k hk' => heap_setCell_other _ ⟨h, 1, none⟩ k _ (hvne k hk')
  · show size (t.l ++ [f]) ≤ _
    rw [size_append]
    show size t.l + (sz f + 0) ≤ _
    omega
  · exact (KeepP.of_below hb).trans ((hk.mono fun k e => .inr e).trans (KeepP.setCell (st := fun k => k = h ∨ v.ownBlock = some k) (.inl rfl) _ 1 v2))
  · intro k hk'
    exact (hown k hk').imp id fun e => Nat.le_trans hb.size e
def depR1 : Nat → List Nat
  | 2 => [1]
  | 3 => [2]
  | 4 => [3]
  | 6 => [5]
  | 7 => [4, 6]
  | 8 => [0]
  | 9 => [8]
  | 10 => [9, 7]
  | _ => []
def dsR1 : List Nat := [23, 24, 25, 26, 27, 28, 29, 30, 31, 32, 100000]
def valR1 (h b6 : Nat) (v v2 : Value) (fa fb : ByteArray) : Nat → Value
  | 0 => .pointer (some ⟨h, 0, none⟩)
  | 1 => .pointer (some ⟨h, 0, none⟩)
  | 2 => .pointer (some ⟨h, 0, none⟩)
  | 3 => .pointer (some ⟨h, 1, none⟩)
  | 4 => v
  | 5 => .agg (Fd.cells (fa, fb))
  | 6 => .slice (some ⟨b6, 0, none⟩) 1 1
  | 7 => v2
  | 8 => .pointer (some ⟨h, 0, none⟩)
  | 9 => .pointer (some ⟨h, 1, none⟩)
  | 10 => undef
  | _ => undef
set_option maxRecDepth 100000 in
set_option maxHeartbeats 4000000 in
theorem ref_add {w : World} {h : Nat} {t : Tab} {v : Value} (x : RtOk w h t v) (f : Fd) (hf : f.1.size + f.2.size ≤ 1000000000000000000) (ht : t.Fine) (hc : t.came ≤ 1000000000000) :
    Calls Try.prog 20 #[.pointer (some ⟨h, 0, none⟩), .agg f.cells] w fun e w' => e = .returned (.int .i64 (t.addE f : Nat)) ∧ ∃ v', RtStep w h (t.add f) v w' v' := by
  obtain ⟨fa, fb⟩ := f
  obtain ⟨La, hLa⟩ : ∃ La, fa.size = La := ⟨_, rfl⟩
  obtain ⟨Lb, hLb⟩ : ∃ Lb, fb.size = Lb := ⟨_, rfl⟩
  have hz : sz (fa, fb) = La + Lb + 32 := by rw [← hLa, ← hLb]; rfl
  have hf : La + Lb ≤ 1000000000000000000 := by rw [← hLa, ← hLb]; exact hf
  obtain ⟨r, hr⟩ : ∃ r, t.room = r := ⟨_, rfl⟩
  have hrb : r ≤ 4096 := hr ▸ ht.room
  have hll : t.l.length ≤ 128 := ht.length
  obtain ⟨b, hbs⟩ : ∃ b, w.heap.size = b := ⟨_, rfl⟩
  have w1 : IntKind.i64.wrap ((La : Int) + (Lb : Int)) = ((La + Lb : Nat) : Int) := by rw [IntKind.wrap_i64]; omega
  have w2 : IntKind.i64.wrap (((La + Lb : Nat) : Int) + 32) = ((La + Lb + 32 : Nat) : Int) := by rw [IntKind.wrap_i64]; omega
  have H := veil (show _ ∧ _ ∧ _ from ⟨x, ht, hc⟩)
  obtain ⟨wa, hwa⟩ : ∃ wa, w.alloc (.cells #[.string fa, .string fb] 23) = wa := ⟨_, rfl⟩
  have hB : Below w.heap.size w wa := hwa ▸ (Below.refl w.heap.size w).alloc (Nat.le_refl _) _
  have hbx : Row wa b 23 (Fd.cells (fa, fb)) := by rw [← hwa, ← hbs]; exact Row.new w _ _
  have x1 : RtOk wa h t v := x.below hB
  have H1 := veil (show _ ∧ _ ∧ _ from ⟨x1, hbx, hB⟩)
  have y0 : wa.cell? ⟨b, 0, none⟩ = some (.string fa) := hbx.cell 0
  have y1 : wa.cell? ⟨b, 1, none⟩ = some (.string fb) := hbx.cell 1
  have r0 : wa.cell? ⟨h, 0, none⟩ = some (.int .i64 (r : Int)) := hr ▸ x1.row.cell 0
  have HL := veil (And.intro hll hr)
  have HBS := veil hbs
  clear x ht hc x1 hbx hB hll hr
  by_cases hle : La + Lb + 32 ≤ r
  · have b2 : ¬ (r : Int) < ((La + Lb + 32 : Nat) : Int) := by omega
    have e3 : t.addE (fa, fb) = 0 ∧ t.add (fa, fb) = ⟨(t.less (sz (fa, fb))).room, (t.less (sz (fa, fb))).went, (t.less (sz (fa, fb))).l ++ [(fa, fb)]⟩ := by
      unfold Tab.addE Tab.add
      rw [if_neg (by rw [HL.out.2, hz]; omega), if_neg (by rw [HL.out.2, hz]; omega)]
      exact ⟨rfl, rfl⟩
    rw [e3.1]
    have HE := veil e3.2
    have HZ := veil (And.intro hz hle)
    clear e3 hz hle hf
    generalize La + Lb = S1 at *
    generalize S1 + 32 = S2 at *
    show Calls Try.prog 20 #[.pointer (some ⟨h, 0, none⟩), .agg #[.string fa, .string fb]] w _
    go_enter Try.func20, Try.ntmps20
    go_upto_region 1 with fail
    clear hwa hbs
    have hless := ref_less H1.out.1 S2 (by have := HZ.out.2; omega) (by rw [HL.out.2]; exact hrb) H.out.2.2 (by have := HL.out.1; omega)
    have hless := veil hless
    go_upto_region 5 with (go_at_call 37; refine hless.out.mono ?_; rintro e1 wl ⟨rfl, vl, hst⟩)
    have hst0 := RtStep.pre H1.out.2.2 hst
    have hbl : Row wl b 23 (Fd.cells (fa, fb)) := (hst.keep.block b (Row.lt H1.out.2.1) (by
      rintro (e | e)
      · have := H.out.1.row.lt
        have := HBS.out
        omega
      · have := H.out.1.own.lt b e
        have := HBS.out
        omega)).trans H1.out.2.1
    have hls := less_room t (sz (fa, fb)) (by have := HZ.out; have := HL.out.2; omega)
    have hlr : (t.less (sz (fa, fb))).room = r := HL.out.2
    have hll2 : (t.less (sz (fa, fb))).l.length ≤ 100000 := by
      have h1 := size_length (t.less (sz (fa, fb))).l
      omega
    rw [HZ.out.1] at hls hlr hll2
    have hst0' : RtStep w h (t.less S2) v wl.drew vl := hst0.below (Below.refl _ _).drew
    obtain ⟨v2, w2, happ, ⟨a2, c2, rfl⟩, hrow2, hst2⟩ := rt_app hst0'.ok (fa, fb) 49 hll2 (by have := HZ.out; omega) (by omega)
    have hfin := hst0'.trans hst2
    have hadd : t.add (fa, fb) = ⟨(t.less S2).room, (t.less S2).went, (t.less S2).l ++ [(fa, fb)]⟩ := by rw [HE.out, HZ.out.1]
    rw [← hadd] at hfin
    have HFin := veil hfin
    have HApp := veil happ
    have HW := veil (show _ ∧ _ ∧ _ from ⟨hst0', hbl, hrow2⟩)
    clear hst hst0 hbl hls hlr hll2 hst0' happ hrow2 hst2 hfin hadd hless y0 y1 r0
    obtain ⟨b6, hb6⟩ : ∃ b6, wl.heap.size = b6 := ⟨_, rfl⟩
    obtain ⟨i0, j1, j2, j3, j4⟩ := fdP_info
    go_cut [] (fun W => ∃ v9, RtStep w h (t.add (fa, fb)) v W v9)
    case first =>
      go_wp2_with fail
      refine (wpIn_wide (n := 4)).1 ?_
      refine wpIn_region_any (by kernel_rfl) ?_
      refine anyIn_line2 (valR1 h b6 vl (.slice a2 ((t.less S2).l.length + 1) c2) fa fb) (fun m W => (m = 0 → W = wl.drew) ∧ (m = 1 → W = (wl.drew.alloc (.cells (Fd.cells (fa, fb)) 23))) ∧ (m = 2 → W = w2) ∧ (m = 3 → W = w2.setCell ⟨h, 1, none⟩ (.slice a2 ((t.less S2).l.length + 1) c2))) [6, 7, 10] dsR1 depR1 (by kernel_rfl) rfl (by decide) (by decide) ?ord ?inn ?h0 ?fix ?cal ?done
      case ord =>
        intro k i j h1 h2
        match k, h1, h2 with
        | 0, h1, h2 => obtain rfl := Option.some.inj h1; obtain rfl := Option.some.inj h2; exact .inl (by decide)
        | 1, h1, h2 => obtain rfl := Option.some.inj h1; obtain rfl := Option.some.inj h2; exact .inl (by decide)
        | k + 2, _, h2 => simp at h2
      case inn => intro j hj; simp at hj; show j < 11; omega
      case h0 => exact ⟨fun _ => rfl, fun h => absurd h (by omega), fun h => absurd h (by omega), fun h => absurd h (by omega)⟩
      case fix =>
        intro x W m ii d hR hm hdi hc hdep
        match ii, hm, hdi, hc, hdep with
        | 0, _, hdi, _, _ =>
          obtain rfl := Option.some.inj hdi
          exact OI_value rfl rfl (about_none (by intro c h; cases h)) (by intro c h; cases h) (.pointer (some ⟨h, 0, none⟩)) W (by kernel_rfl) ⟨rfl, rfl⟩
        | 1, _, hdi, _, _ =>
          obtain rfl := Option.some.inj hdi
          exact OI_value rfl rfl (about_none (by intro c h; cases h)) (by intro c h; cases h) (.pointer (some ⟨h, 0, none⟩)) W (by kernel_rfl) ⟨rfl, rfl⟩
        | 2, _, hdi, _, hdep =>
          obtain rfl := Option.some.inj hdi
          rw [updV_self (show x 1 = _ from hdep 1 (by simp [depR1]))]
          exact OI_value rfl rfl (about_none (by intro c h; cases h)) (by intro c h; cases h) (.pointer (some ⟨h, 0, none⟩)) W (by kernel_rfl) ⟨rfl, rfl⟩
        | 3, _, hdi, _, hdep =>
          obtain rfl := Option.some.inj hdi
          rw [updV_self (show x 2 = _ from hdep 2 (by simp [depR1]))]
          exact OI_value rfl rfl (about_none (by intro c h; cases h)) (by intro c h; cases h) (.pointer (some ⟨h, 1, none⟩)) W (by kernel_rfl) ⟨rfl, rfl⟩
        | 4, hm, hdi, _, hdep =>
          obtain rfl := Option.some.inj hdi
          have hcl : W.cell? ⟨h, 1, none⟩ = some vl := by
            have hm1 := hm 1 7 rfl (by simp [depR1])
            rcases Nat.eq_zero_or_pos m with e | e
            · rw [hR.1 e]
              exact HW.out.1.ok.row.cell 1
            · rw [hR.2.1 (by omega)]
              exact (HW.out.1.ok.below ((Below.refl _ _).alloc (Nat.le_refl _) _)).row.cell 1
          rw [updV_self (show x 3 = _ from hdep 3 (by simp [depR1]))]
          exact OI_value rfl rfl (about_none (by intro c h; cases h)) (by intro c h; cases h) (vl) W (lgRun_cell 49 _ ⟨h, 1, none⟩ _ _ rfl (by kernel_rfl) Try.underlying49 rfl W hcl) ⟨rfl, rfl⟩
        | 5, hm, hdi, _, _ =>
          obtain rfl := Option.some.inj hdi
          have hm0 : m = 0 := by have := hm 0 6 rfl (by simp [depR1]); omega
          exact OI_value rfl rfl (about_none (by intro c h; cases h)) (by intro c h; cases h) (.agg (Fd.cells (fa, fb))) W (run_midT 23 _ b 0 (Fd.cells (fa, fb)).toList _ rfl (by kernel_rfl) Try.underlying23 rfl (by kernel_rfl) W (box_range (T := 23) (f := (fa, fb)) (by rw [hR.1 hm0]; exact HW.out.2.1))) ⟨rfl, rfl⟩
        | 6, _, _, hc, _ => exact (hc (by simp)).elim
        | 7, _, _, hc, _ => exact (hc (by simp)).elim
        | 8, _, hdi, _, hdep =>
          obtain rfl := Option.some.inj hdi
          rw [updV_self (show x 0 = _ from hdep 0 (by simp [depR1]))]
          exact OI_value rfl rfl (about_none (by intro c h; cases h)) (by intro c h; cases h) (.pointer (some ⟨h, 0, none⟩)) W (by kernel_rfl) ⟨rfl, rfl⟩
        | 9, _, hdi, _, hdep =>
          obtain rfl := Option.some.inj hdi
          rw [updV_self (show x 8 = _ from hdep 8 (by simp [depR1]))]
          exact OI_value rfl rfl (about_none (by intro c h; cases h)) (by intro c h; cases h) (.pointer (some ⟨h, 1, none⟩)) W (by kernel_rfl) ⟨rfl, rfl⟩
        | 10, _, _, hc, _ => exact (hc (by simp)).elim
        | _ + 11, _, hdi, _, _ => simp [dsR1] at hdi
      case cal =>
        intro x W k ii d hR hk hdi hdep
        match k, hk, hR with
        | 0, hk, hR =>
          obtain rfl := Option.some.inj hk
          obtain rfl := Option.some.inj hdi
          rw [updV_self (show x 5 = _ from hdep 5 (by simp [depR1]))]
          have hW := hR.1 rfl
          subst hW
          refine OI_value rfl rfl (about_none (by intro c h; cases h)) (by intro c h; cases h) (.slice (some ⟨b6, 0, none⟩) 1 1) (wl.drew.alloc (.cells (Fd.cells (fa, fb)) 23)) (by rw [← hb6]; exact lgRun_build1 49 23 _ (Fd.cells (fa, fb)) i0 _ 2 rfl (by kernel_rfl) Try.underlying49 j1 j2 j3 (by decide) (by decide) (by kernel_rfl) wl.drew) ?_
          exact ⟨rfl, fun h => absurd h (by omega), fun _ => rfl, fun h => absurd h (by omega), fun h => absurd h (by omega)⟩
        | 1, hk, hR =>
          obtain rfl := Option.some.inj hk
          obtain rfl := Option.some.inj hdi
          rw [updV_self (show x 4 = _ from hdep 4 (by simp [depR1])), updV_self (show (updV x 4 _) 6 = _ from hdep 6 (by simp [depR1]))]
          have hW := hR.2.1 rfl
          subst hW
          refine OI_value rfl rfl (about_builtin _ _ _ rfl) (by intro c h; cases h) (.slice a2 ((t.less S2).l.length + 1) c2) _ (lgRun_append _ _ _ _ _ _ _ _ rfl (by kernel_rfl) (by kernel_rfl) (hb6 ▸ HApp.out)) ?_
          exact ⟨rfl, fun h => absurd h (by omega), fun h => absurd h (by omega), fun _ => rfl, fun h => absurd h (by omega)⟩
        | 2, hk, hR =>
          obtain rfl := Option.some.inj hk
          obtain rfl := Option.some.inj hdi
          rw [updV_self (show x 9 = _ from hdep 9 (by simp [depR1])), updV_self (show (updV x 9 _) 7 = _ from hdep 7 (by simp [depR1]))]
          have hW := hR.2.2.1 rfl
          subst hW
          refine OI_skip rfl rfl (about_none (by intro c h; cases h)) (by intro c h; cases h) (W.setCell ⟨h, 1, none⟩ (.slice a2 ((t.less S2).l.length + 1) c2)) (lgRun_store 49 _ _ ⟨h, 1, none⟩ (.slice a2 ((t.less S2).l.length + 1) c2) _ rfl rfl (by kernel_rfl) (by kernel_rfl) (by kernel_rfl) _ (Row.cell HW.out.2.2 1) (Row.frozen HW.out.2.2 1)) ?_
          refine ⟨(put_none _ _).trans (put_far _ _ _ (by rw [puts_size]; exact Nat.le_of_ble_eq_true rfl)).symm, fun h => absurd h (by omega), fun h => absurd h (by omega), fun h => absurd h (by omega), fun _ => rfl⟩
        | _ + 3, hk, _ => simp at hk
      case done =>
        intro W hR
        simp only [dsR1, putsV, valR1, Act.put, List.setIfInBounds_toArray, List.set_cons_succ, List.set_cons_zero, Nat.reduceAdd]
        have HR := hR.2.2.2 rfl
        subst HR
        clear hR
        go_wp2_with fail
        go_meet
        exact ⟨_, HFin.out⟩
    case rest =>
      obtain ⟨v9, hst9⟩ := hcut
      have H9 := veil hst9
      clear hst9
      go_wp2_with fail
      go_ret
      exact ⟨rfl, v9, H9.out⟩
  · have b2 : (r : Int) < ((La + Lb + 32 : Nat) : Int) := by omega
    have e3 : t.addE (fa, fb) = 6 ∧ t.add (fa, fb) = t := addE_no (by rw [HL.out.2, hz]; omega)
    rw [e3.1, e3.2]
    clear e3 hz hle hf
    generalize La + Lb = S1 at *
    generalize S1 + 32 = S2 at *
    show Calls Try.prog 20 #[.pointer (some ⟨h, 0, none⟩), .agg #[.string fa, .string fb]] w _
    go_enter Try.func20, Try.ntmps20
    go_upto_region 1 with fail
    clear hwa hbs
    go_wp2_with fail
    go_ret
    exact ⟨rfl, v, H1.out.1, KeepP.of_below H1.out.2.2, fun k hk => .inl hk⟩
end Tb
end Go.Proofs.Ytoajnhngcfjohaa
