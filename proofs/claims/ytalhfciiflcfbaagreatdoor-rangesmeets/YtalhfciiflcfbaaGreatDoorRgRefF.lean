/-
  What the document's both answers: the walk.
-/
import Derived.Test.YtalhfciiflcfbaaGreatDoorRgRefE
namespace Go.Proofs.YtalhfciiflcfbaaGreatDoor
open Go Go.RowKit Go.Shelf

theorem rule_ff (kd : Nat) : ruleK kd false false = false := by
  unfold ruleK
  split <;> rfl
theorem last_split {l : List (Nat × Nat)} (h : 0 < l.length) : ∃ p x y, l = p ++ [(x, y)] ∧ gr l (l.length - 1) = (x, y) ∧ p.length = l.length - 1 ∧ l.getLast? = some (x, y) := by
  have hne : l ≠ [] := fun e => by rw [e] at h; exact absurd h (Nat.lt_irrefl 0)
  have key : ∀ (p : List (Nat × Nat)) (r : Nat × Nat), l = p ++ [r] → ∃ p x y, l = p ++ [(x, y)] ∧ gr l (l.length - 1) = (x, y) ∧ p.length = l.length - 1 ∧ l.getLast? = some (x, y) := by
    rintro p ⟨x, y⟩ rfl
    refine ⟨p, x, y, rfl, ?_, ?_, ?_⟩
    · simp [gr]
    · simp
    · simp
  exact key l.dropLast (l.getLast hne) (List.dropLast_concat_getLast hne).symm

set_option maxRecDepth 100000 in
set_option maxHeartbeats 1000000 in
theorem ref_both8 (kd : Nat) (hkd : kd ≤ 2) (sa sb : RL) (w : World) (oka : sa.Ok w) (okb : sb.Ok w) (hsa : Rg.setOk sa.l) (hsb : Rg.setOk sb.l) :
    Calls Tryz.prog 27 #[.int .i64 (kd : Int), .slice sa.a sa.len sa.cap, .slice sb.a sb.len sb.cap] w fun e w' => ∃ (o : RL) (E : Int), e = .returned (.tuple #[.slice o.a o.len o.cap, .int .i64 E]) ∧ Rg.Comb (ruleK kd) sa.l sb.l o.l E ∧ AnsR w.heap.size w' o ∧ Below w.heap.size w w' := by
  have la : sa.l.length = sa.len := oka.hb
  have lb : sb.l.length = sb.len := okb.hb
  have la2 : sa.len ≤ 64 := by rw [← la]; exact hsa.1
  have lb2 : sb.len ≤ 64 := by rw [← lb]; exact hsb.1
  have HA := veil oka
  have HB := veil okb
  have HSA := veil hsa
  have HSB := veil hsb
  have HLA := veil la
  have HLB := veil lb
  have O0 : Hid (w.ownsRow w.heap.size 25 2 (.slice none 0 0) ([] : List (Nat × Nat)).length (vr [])) := ⟨rfl, .inl ⟨rfl, rfl⟩⟩
  clear oka okb hsa hsb la lb
  refine (callsIn_wide (n := 4)).1 ?_
  refine callsIn_of_wp Tryz.func27 rfl trivial ?_ rfl
  simp only [Tryz.ntmps27, List.size_toArray, List.length_cons, List.length_nil, Nat.reduceAdd, Nat.reduceSub, Array.replicate_succ, Array.replicate_zero, List.push_toArray, List.append_toArray, List.nil_append, List.cons_append]
  gi_wp2_with (first
    | (with_reducible (show wpListIn _ _ _ _ _ (⟨some 14, Op.call _, _, _, _, _⟩ :: _) _ _)
       refine append_rlIn rfl _ _ rfl w.heap.size (.slice none 0 0) [] rfl O0.out sa HA.out rfl (by simp; omega) (Nat.le_refl _) ?_
       intro v1 w1 hown1 hgrow1
       rw [List.nil_append, HLA.out] at hown1
       obtain ⟨a1, c1, rfl, hv1, _⟩ := own_slice hown1
       have hb1 : Below w.heap.size w w1 := (Below.refl _ w).grown hgrow1 (Nat.le_refl _) (fun k e => by cases e)
       have HO1 := veil hown1
       have HB1 := veil hb1
       have HV1 := veil hv1
       have HBB1 := veil (HB.out.below hb1)
       clear hown1 hgrow1 hb1 hv1)
    | (with_reducible (show wpListIn _ _ _ _ _ (⟨some 17, Op.call _, _, _, _, _⟩ :: _) _ _)
       refine append_rlIn rfl _ _ rfl w.heap.size (.slice a1 sa.len c1) sa.l rfl (by rw [HLA.out]; exact HO1.out) sb HBB1.out rfl (by rw [HLA.out]; omega) HB1.out.size ?_
       intro v2 w2 hown2 hgrow2
       rw [List.length_append, HLA.out, HLB.out] at hown2
       obtain ⟨a2, c2, rfl, hv2, _⟩ := own_slice hown2
       have hb2 : Below w.heap.size w w2 := HB1.out.grown hgrow2 HB1.out.size (fun k e => HV1.out k e)
       have HO2 := veil hown2
       have HB2 := veil hb2
       clear hown2 hgrow2 hb2 hv2))
  obtain ⟨gall, ALL⟩ := ans_of_own HO2.out (by rw [List.length_append, HLA.out, HLB.out]) (fun j => by
    unfold gr
    rcases Nat.lt_or_ge j (sa.l ++ sb.l).length with h | h
    · rw [List.getElem?_eq_getElem h]
      have hm := List.getElem_mem h
      rcases List.mem_append.1 hm with hm | hm
      · obtain ⟨q, hq, e⟩ := List.mem_iff_getElem.1 hm
        have := set_at sa.l HSA.out.2 q hq
        have e2 : gr sa.l q = (sa.l ++ sb.l)[j] := by unfold gr; rw [List.getElem?_eq_getElem hq]; exact e
        rw [e2] at this
        show ((sa.l ++ sb.l)[j]).1 < _ ∧ ((sa.l ++ sb.l)[j]).2 < _
        omega
      · obtain ⟨q, hq, e⟩ := List.mem_iff_getElem.1 hm
        have := set_at sb.l HSB.out.2 q hq
        have e2 : gr sb.l q = (sa.l ++ sb.l)[j] := by unfold gr; rw [List.getElem?_eq_getElem hq]; exact e
        rw [e2] at this
        show ((sa.l ++ sb.l)[j]).1 < _ ∧ ((sa.l ++ sb.l)[j]).2 < _
        omega
    · rw [List.getElem?_eq_none h]; decide)
  have hsm : ∀ j, j < sa.len + sb.len → (gr (sa.l ++ sb.l) j).2 ≤ 4611686018427387903 := fun j h0 => by
    have h : j < (sa.l ++ sb.l).length := by rw [List.length_append, HLA.out, HLB.out]; exact h0
    unfold gr
    rw [List.getElem?_eq_getElem h]
    have hm := List.getElem_mem h
    rcases List.mem_append.1 hm with hm | hm
    · obtain ⟨q, hq, e⟩ := List.mem_iff_getElem.1 hm
      have := set_at sa.l HSA.out.2 q hq
      have e2 : gr sa.l q = (sa.l ++ sb.l)[j] := by unfold gr; rw [List.getElem?_eq_getElem hq]; exact e
      rw [e2] at this
      exact this.2.1
    · obtain ⟨q, hq, e⟩ := List.mem_iff_getElem.1 hm
      have := set_at sb.l HSB.out.2 q hq
      have e2 : gr sb.l q = (sa.l ++ sb.l)[j] := by unfold gr; rw [List.getElem?_eq_getElem hq]; exact e
      rw [e2] at this
      exact this.2.1
  have BR := ref_borders8 ⟨a2, sa.len + sb.len, c2, gall, 0, sa.l ++ sb.l⟩ w2 ALL.ok (by simp only; omega) hsm
  have HBR := veil BR
  clear BR ALL hsm
  refine ⟨trivial, (callsIn_wide.2 HBR.out).mono ?_⟩
  rintro e3 w3 ⟨v3, rfl, hown3, hb3⟩
  simp only at hown3
  obtain ⟨t, ht⟩ : ∃ t, t = Rg.bordersTo (sa.l ++ sb.l) := ⟨_, rfl⟩
  rw [← ht] at hown3
  have HT := veil ht
  obtain ⟨ta, tc, rfl, _, htg⟩ := own_slice hown3
  have B3 := HB2.out.trans (hb3.mono HB2.out.size)
  have hown3' := own_low2 hown3 HB2.out.size
  have HTO := veil hown3'
  have HB3 := veil B3
  have htl : t.length ≤ 256 := by
    rw [ht]
    have := Rg.borders_length (sa.l ++ sb.l)
    rw [List.length_append, HLA.out, HLB.out] at this
    omega
  have htb : ∀ j, Rg.gt t j < 18446744073709551616 := fun j => by
    rcases Nat.lt_or_ge j t.length with h | h
    · have := Rg.gt_mem h
      rw [ht] at this
      have := Rg.bt_bound HSA.out.2 HSB.out.2 this
      rw [← ht] at this
      omega
    · unfold Rg.gt; rw [List.getElem?_eq_none h]; decide
  have HTB := veil htb
  clear hown3 hown3' hb3 B3 ht HBR HB1 HO1 HV1 HBB1 HO2 HB2 htb
  by_cases ht0 : t.length = 0
  · have hnil : t = [] := List.eq_nil_of_length_eq_zero ht0
    subst hnil
    simp only [List.length_nil]
    have HBT := veil (show Rg.Bt (ruleK kd) sa.l sb.l (Rg.bordersTo (sa.l ++ sb.l)) 0 [] from Rg.bt_begin (rule_ff kd) sa.l sb.l)
    have HEND := veil (Rg.bt_end (rule_ff kd) HSA.out HSB.out HBT.out (by rw [← HT.out]; decide) (.inl rfl))
    clear HTO htg ht0
    gi_wp2_with fail
    refine wpIn_loop_rounds 1 ?_
    rw [roundsIn_succ]
    gi_wp2_with fail
    go_ret2
    exact ⟨⟨none, 0, 0, 0, 0, []⟩, 0, rfl, HEND.out, ans_nil _ _, HB3.out⟩
  obtain ⟨tg, _, rfl⟩ := htg (by omega)
  have BST0 := veil (show Bst w tg tc t (.slice none 0 0) [] w3 from ⟨HTO.out, ⟨rfl, .inl ⟨rfl, rfl⟩⟩, HB3.out⟩)
  have HUP := veil (show Rg.Up t by rw [HT.out]; exact Rg.borders_up _)
  have ht0p : 0 < t.length := by omega
  have HBT0 := veil (show Rg.Bt (ruleK kd) sa.l sb.l t 0 [] by rw [HT.out]; exact Rg.bt_begin (rule_ff kd) sa.l sb.l)
  clear HTO htg HB3 O0 ht0
  gi_wp2_with fail
  gi_loopw [10, 11] (fun ov iv wr => ∃ (i : Nat) (o : List (Nat × Nat)) (oa : Option Addr) (oc : Nat), ov = .slice oa o.length oc ∧ iv = .int .i64 (i : Int) ∧ (i = 0 ∨ i < t.length) ∧ Rg.Bt (ruleK kd) sa.l sb.l t i o ∧ Bst w tg tc t (.slice oa o.length oc) o wr)
    (fun _ iv _ => t.length - (intOf iv).toNat)
  case atStart => exact ⟨0, [], none, 0, rfl, rfl, .inl rfl, HBT0.out, BST0.out⟩
  case round =>
    obtain ⟨i, o, oa, oc, rfl, rfl, hi, hbt, hbst⟩ := hrel
    have HBT := veil hbt
    have BST := veil hbst
    have hol := hbt.len
    have hi256 : i ≤ 256 := by omega
    clear hbt hbst BST0 HBT0
    by_cases hlt : i + 1 < t.length
    · have d1 : decide ((i : Int) + 1 < (t.length : Int)) = true := by simp; omega
      have d1n : decide (i + 1 < t.length) = true := by simp; omega
      have ct := BST.out.cell (show i < t.length by omega)
      have hgi := HTB.out i
      have hgi1 := HTB.out (i + 1)
      have hgl := Rg.gt_lt HUP.out hlt (Nat.lt_succ_self i)
      have IN := ref_in8 kd hkd sa sb (Rg.gt t i) wr (HA.out.below BST.out.bel) (HB.out.below BST.out.bel) (by omega) (by omega)
      obtain ⟨inb, hinb⟩ : ∃ inb, inb = ruleK kd (Rg.hasL sa.l (Rg.gt t i)) (Rg.hasL sb.l (Rg.gt t i)) := ⟨_, rfl⟩
      rw [← hinb] at IN
      have HIN := veil IN
      have HINB := veil hinb
      clear IN hinb
      obtain ⟨gi, hgie⟩ : ∃ gi, gi = Rg.gt t i := ⟨_, rfl⟩
      have HGI := veil hgie
      rw [← hgie] at ct hgi hgl HIN
      clear hgie
      gi_wp2_with fail
      refine ⟨trivial, (callsIn_wide.2 HIN.out).mono ?_⟩
      rintro e4 w4 ⟨rfl, hb4⟩
      have HW := veil hb4
      have BST4 := veil (BST.out.below hb4)
      clear hb4 HIN ct
      cases inb
      · have HM := veil (show Rg.Bt (ruleK kd) sa.l sb.l t (i + 1) o by
          have h1 := HBT.out
          have h2 := HINB.out
          rw [HT.out] at h1 h2 ⊢
          exact Rg.bt_skip h1 (by rw [← HT.out]; exact hlt) h2.symm)
        gi_wp2_with fail
        go_roundw
        case rel => exact ⟨i + 1, o, oa, oc, rfl, by go_num, .inr hlt, HM.out, BST4.out⟩
        case measure => simp only [intOf]; omega
      · gi_wp2_with fail
        by_cases ho0 : o.length = 0
        · have HM := veil (show Rg.Bt (ruleK kd) sa.l sb.l t (i + 1) (o ++ [(Rg.gt t i, Rg.gt t (i + 1) - 1)]) by
            have h1 := HBT.out
            have h2 := HINB.out
            have hnil : o = [] := List.eq_nil_of_length_eq_zero ho0
            have h3 : ∀ x, o.getLast? = some x → x.2 + 1 ≠ Rg.gt t i := fun x hx => by rw [hnil] at hx; cases hx
            rw [HT.out] at h1 h2 h3 ⊢
            exact Rg.bt_more HSA.out.2 HSB.out.2 h1 (by rw [← HT.out]; exact hlt) h2.symm h3)
          refine wpIn_region_any (by kernel_rfl) ?_
          refine anyIn_vals2 (w0 := w4) (val10N oa oc o) [36, 37, 38, 39, 40, 41, 42, 43, 44, 45, 46, 47, 48, 49, 50, 51, 52, 53] dep10 (by kernel_rfl) rfl (by decide) ((Below.refl _ _).drew) ?step3 ?done3
          case step3 =>
            intro x W ii d bW2 hdi hdep
            match ii, hdi, hdep with
            | 0, hdi, _ =>
              obtain rfl := Option.some.inj hdi
              exact OI_value rfl rfl (about_none (by intro c h; cases h)) (by intro c h; cases h) (.slice oa o.length oc) W (by kernel_rfl) ⟨rfl, Below.refl _ _⟩
            | 1, hdi, hdep =>
              obtain rfl := Option.some.inj hdi
              rw [updV_self (hdep 0 (by simp [dep10]))]
              exact OI_value rfl rfl (about_builtin _ _ _ rfl) (by intro c h; cases h) (.int .i64 (o.length : Int)) W (run_lenR _ 22 25 oa o.length oc rfl (by kernel_rfl) W Tryz.underlying22) ⟨rfl, Below.refl _ _⟩
            | 2, hdi, hdep =>
              obtain rfl := Option.some.inj hdi
              rw [updV_self (hdep 1 (by simp [dep10]))]
              exact OI_value rfl rfl (about_none (by intro c h; cases h)) (by intro c h; cases h) (.bool false) W (run_gtrI 3 3 _ _ o.length 0 false (by rw [ho0]; rfl) rfl (by kernel_rfl) (by kernel_rfl) W) ⟨rfl, Below.refl _ _⟩
            | 3, hdi, hdep =>
              obtain rfl := Option.some.inj hdi
              rw [updV_self (hdep 2 (by simp [dep10]))]
              exact OI_value rfl rfl (about_none (by intro c h; cases h)) (by intro c h; cases h) (.bool false) W (by kernel_rfl) ⟨rfl, Below.refl _ _⟩
            | 4, hdi, hdep =>
              obtain rfl := Option.some.inj hdi
              rw [updV_self (hdep 3 (by simp [dep10]))]
              with_reducible refine OI_off2 ?_ ?_ ?_ ?_
              · decide
              · kernel_rfl
              · exact fun _ _ => trivial
              · exact ⟨rfl, Below.refl _ _⟩
            | 5, hdi, hdep =>
              obtain rfl := Option.some.inj hdi
              rw [updV_self (hdep 3 (by simp [dep10]))]
              with_reducible refine OI_off2 ?_ ?_ ?_ ?_
              · decide
              · kernel_rfl
              · exact fun _ _ => trivial
              · exact ⟨rfl, Below.refl _ _⟩
            | 6, hdi, hdep =>
              obtain rfl := Option.some.inj hdi
              rw [updV_self (hdep 3 (by simp [dep10])), updV_self (show updV x 3 _ 5 = _ from hdep 5 (by simp [dep10]))]
              with_reducible refine OI_off2 ?_ ?_ ?_ ?_
              · decide
              · kernel_rfl
              · exact fun _ _ => trivial
              · exact ⟨rfl, Below.refl _ _⟩
            | 7, hdi, hdep =>
              obtain rfl := Option.some.inj hdi
              rw [updV_self (hdep 3 (by simp [dep10])), updV_self (show updV x 3 _ 6 = _ from hdep 6 (by simp [dep10]))]
              with_reducible refine OI_off2 ?_ ?_ ?_ ?_
              · decide
              · kernel_rfl
              · exact fun _ _ => trivial
              · exact ⟨rfl, Below.refl _ _⟩
            | 8, hdi, hdep =>
              obtain rfl := Option.some.inj hdi
              rw [updV_self (hdep 3 (by simp [dep10])), updV_self (show updV x 3 _ 4 = _ from hdep 4 (by simp [dep10])), updV_self (show updV (updV x 3 _) 4 _ 7 = _ from hdep 7 (by simp [dep10]))]
              with_reducible refine OI_off2 ?_ ?_ ?_ ?_
              · decide
              · kernel_rfl
              · exact fun _ _ => trivial
              · exact ⟨rfl, Below.refl _ _⟩
            | 9, hdi, hdep =>
              obtain rfl := Option.some.inj hdi
              rw [updV_self (hdep 3 (by simp [dep10])), updV_self (show updV x 3 _ 8 = _ from hdep 8 (by simp [dep10]))]
              with_reducible refine OI_off2 ?_ ?_ ?_ ?_
              · decide
              · kernel_rfl
              · exact fun _ _ => trivial
              · exact ⟨rfl, Below.refl _ _⟩
            | 10, hdi, hdep =>
              obtain rfl := Option.some.inj hdi
              rw [updV_self (hdep 3 (by simp [dep10])), updV_self (show updV x 3 _ 9 = _ from hdep 9 (by simp [dep10]))]
              with_reducible refine OI_off2 ?_ ?_ ?_ ?_
              · decide
              · kernel_rfl
              · exact fun _ _ => trivial
              · exact ⟨rfl, Below.refl _ _⟩
            | 11, hdi, hdep =>
              obtain rfl := Option.some.inj hdi
              rw [updV_self (hdep 3 (by simp [dep10])), updV_self (show updV x 3 _ 10 = _ from hdep 10 (by simp [dep10]))]
              with_reducible refine OI_off2 ?_ ?_ ?_ ?_
              · decide
              · kernel_rfl
              · exact fun _ _ => trivial
              · exact ⟨rfl, Below.refl _ _⟩
            | 12, hdi, hdep =>
              obtain rfl := Option.some.inj hdi
              rw [updV_self (hdep 3 (by simp [dep10]))]
              with_reducible refine OI_off2 ?_ ?_ ?_ ?_
              · decide
              · kernel_rfl
              · exact fun _ _ => trivial
              · exact ⟨rfl, Below.refl _ _⟩
            | 13, hdi, hdep =>
              obtain rfl := Option.some.inj hdi
              rw [updV_self (hdep 3 (by simp [dep10]))]
              with_reducible refine OI_off2 ?_ ?_ ?_ ?_
              · decide
              · kernel_rfl
              · exact fun _ _ => trivial
              · exact ⟨rfl, Below.refl _ _⟩
            | 14, hdi, hdep =>
              obtain rfl := Option.some.inj hdi
              rw [updV_self (hdep 3 (by simp [dep10])), updV_self (show updV x 3 _ 12 = _ from hdep 12 (by simp [dep10])), updV_self (show updV (updV x 3 _) 12 _ 13 = _ from hdep 13 (by simp [dep10]))]
              with_reducible refine OI_off2 ?_ ?_ ?_ ?_
              · decide
              · kernel_rfl
              · exact fun _ _ => trivial
              · exact ⟨rfl, Below.refl _ _⟩
            | 15, hdi, hdep =>
              obtain rfl := Option.some.inj hdi
              rw [updV_self (hdep 3 (by simp [dep10])), updV_self (show updV x 3 _ 14 = _ from hdep 14 (by simp [dep10]))]
              with_reducible refine OI_off2 ?_ ?_ ?_ ?_
              · decide
              · kernel_rfl
              · exact fun _ _ => trivial
              · exact ⟨rfl, Below.refl _ _⟩
            | 16, hdi, hdep =>
              obtain rfl := Option.some.inj hdi
              rw [updV_self (hdep 3 (by simp [dep10])), updV_self (show updV x 3 _ 11 = _ from hdep 11 (by simp [dep10])), updV_self (show updV (updV x 3 _) 11 _ 15 = _ from hdep 15 (by simp [dep10]))]
              with_reducible refine OI_off2 ?_ ?_ ?_ ?_
              · decide
              · kernel_rfl
              · exact fun _ _ => trivial
              · exact ⟨rfl, Below.refl _ _⟩
            | 17, hdi, hdep =>
              obtain rfl := Option.some.inj hdi
              rw [updV_self (hdep 3 (by simp [dep10])), updV_self (show updV x 3 _ 16 = _ from hdep 16 (by simp [dep10]))]
              exact OI_value rfl rfl (about_none (by intro c h; cases h)) (by intro c h; cases h) (.bool false) W (by kernel_rfl) ⟨rfl, Below.refl _ _⟩
            | _ + 18, hdi, _ => simp at hdi
          case done3 =>
            intro W hW
            simp only [putsV, val10N, Act.put, List.setIfInBounds_toArray, List.set_cons_succ, List.set_cons_zero, Nat.reduceAdd]
            gi_wp2_with fail
            refine wpIn_region_any (by kernel_rfl) ?_
            refine anyIn_spine2 (val12 oa oc o tg tc t i) (spR w tg tc t (.slice oa o.length oc) o (Rg.gt t i) (Rg.gt t (i + 1) - 1)) undef [12, 13, 14] [66, 67, 68, 69, 70, 71, 72, 73, 74, 75, 76, 77, 78, 79, 10] dep12 dcl12 (by kernel_rfl) (by decide) rfl (by decide) (by decide) ?ord (by decide) (Bst.below (BST4.out.below hW) ((Below.refl _ _).drew)) ?fix ?cal ?don
            case ord =>
              intro k i j h1 h2
              match k, h1, h2 with
              | 0, h1, h2 =>
                obtain rfl := Option.some.inj h1
                obtain rfl := Option.some.inj h2
                decide
              | 1, h1, h2 =>
                obtain rfl := Option.some.inj h1
                obtain rfl := Option.some.inj h2
                decide
              | _ + 2, h1, h2 => simp at h2
            case fix =>
              intro x W m ii d u hR hdi hni hdep _ hdcl hinit
              match ii, hdi, hdep with
              | 0, hdi, _ =>
                obtain rfl := Option.some.inj hdi
                rw [updV_self (hinit 2 14 rfl (hdcl 2 14 rfl (by simp [dcl12])))]
                exact OI_value rfl rfl (about_none (by intro c h; cases h)) (by intro c h; cases h) (.slice oa o.length oc) W (by kernel_rfl) ⟨rfl, rfl⟩
              | 1, hdi, _ =>
                obtain rfl := Option.some.inj hdi
                exact OI_value rfl rfl (about_none (by intro c h; cases h)) (by intro c h; cases h) (.slice (some ⟨tg, 0, none⟩) t.length tc) W (by kernel_rfl) ⟨rfl, rfl⟩
              | 2, hdi, _ =>
                obtain rfl := Option.some.inj hdi
                exact OI_value rfl rfl (about_none (by intro c h; cases h)) (by intro c h; cases h) (.int .i64 (i : Int)) W (by kernel_rfl) ⟨rfl, rfl⟩
              | 3, hdi, hdep =>
                obtain rfl := Option.some.inj hdi
                rw [updV_self (show x 1 = _ from hdep 1 (by simp [dep12]) (by decide)), updV_self (show updV x 1 _ 2 = _ from hdep 2 (by simp [dep12]) (by decide))]
                exact OI_value rfl rfl (about_none (by intro c h; cases h)) (by intro c h; cases h) (.pointer (some ⟨tg, 0 + i * 1, none⟩)) W (run_atR 65 23 1 _ _ tg 0 t.length tc i rfl (by kernel_rfl) (by kernel_rfl) Tryz.underlying65 (by kernel_rfl) (by omega) W) ⟨rfl, rfl⟩
              | 4, hdi, hdep =>
                obtain rfl := Option.some.inj hdi
                rw [updV_self (show x 3 = _ from hdep 3 (by simp [dep12]) (by decide))]
                exact OI_value rfl rfl (about_none (by intro c h; cases h)) (by intro c h; cases h) (.int .u64 (Rg.gt t i : Int)) W (run_cellR 23 _ ⟨tg, 0 + i * 1, none⟩ _ _ rfl (by kernel_rfl) Tryz.underlying23 rfl W (by rw [Nat.zero_add, Nat.mul_one]; exact spR_at hR (by omega))) ⟨rfl, rfl⟩
              | 5, hdi, _ =>
                obtain rfl := Option.some.inj hdi
                exact OI_value rfl rfl (about_none (by intro c h; cases h)) (by intro c h; cases h) (.slice (some ⟨tg, 0, none⟩) t.length tc) W (by kernel_rfl) ⟨rfl, rfl⟩
              | 6, hdi, _ =>
                obtain rfl := Option.some.inj hdi
                exact OI_value rfl rfl (about_none (by intro c h; cases h)) (by intro c h; cases h) (.int .i64 (i : Int)) W (by kernel_rfl) ⟨rfl, rfl⟩
              | 7, hdi, hdep =>
                obtain rfl := Option.some.inj hdi
                rw [updV_self (show x 6 = _ from hdep 6 (by simp [dep12]) (by decide))]
                exact OI_value rfl rfl (about_none (by intro c h; cases h)) (by intro c h; cases h) (.int .i64 ((i + 1 : Nat) : Int)) W (run_addI 3 3 _ _ i 1 (i + 1) rfl (by omega) rfl (by kernel_rfl) (by kernel_rfl) W) ⟨rfl, rfl⟩
              | 8, hdi, hdep =>
                obtain rfl := Option.some.inj hdi
                rw [updV_self (show x 5 = _ from hdep 5 (by simp [dep12]) (by decide)), updV_self (show updV x 5 _ 7 = _ from hdep 7 (by simp [dep12]) (by decide))]
                exact OI_value rfl rfl (about_none (by intro c h; cases h)) (by intro c h; cases h) (.pointer (some ⟨tg, 0 + (i + 1) * 1, none⟩)) W (run_atR 65 23 1 _ _ tg 0 t.length tc (i + 1) rfl (by kernel_rfl) (by kernel_rfl) Tryz.underlying65 (by kernel_rfl) (by omega) W) ⟨rfl, rfl⟩
              | 9, hdi, hdep =>
                obtain rfl := Option.some.inj hdi
                rw [updV_self (show x 8 = _ from hdep 8 (by simp [dep12]) (by decide))]
                exact OI_value rfl rfl (about_none (by intro c h; cases h)) (by intro c h; cases h) (.int .u64 (Rg.gt t (i + 1) : Int)) W (run_cellR 23 _ ⟨tg, 0 + (i + 1) * 1, none⟩ _ _ rfl (by kernel_rfl) Tryz.underlying23 rfl W (by rw [Nat.zero_add, Nat.mul_one]; exact spR_at hR (by omega))) ⟨rfl, rfl⟩
              | 10, hdi, hdep =>
                obtain rfl := Option.some.inj hdi
                rw [updV_self (show x 9 = _ from hdep 9 (by simp [dep12]) (by decide))]
                exact OI_value rfl rfl (about_none (by intro c h; cases h)) (by intro c h; cases h) (.int .u64 ((Rg.gt t (i + 1) - 1 : Nat) : Int)) W (run_subU 23 23 _ _ (Rg.gt t (i + 1)) 1 (Rg.gt t (i + 1) - 1) (by omega) (by omega) rfl (by kernel_rfl) (by kernel_rfl) W) ⟨rfl, rfl⟩
              | 11, hdi, hdep =>
                obtain rfl := Option.some.inj hdi
                rw [updV_self (show x 4 = _ from hdep 4 (by simp [dep12]) (by decide)), updV_self (show updV x 4 _ 10 = _ from hdep 10 (by simp [dep12]) (by decide))]
                exact OI_value rfl rfl (about_none (by intro c h; cases h)) (by intro c h; cases h) (.agg #[.int .u64 (Rg.gt t i : Int), .int .u64 ((Rg.gt t (i + 1) - 1 : Nat) : Int)]) W (by kernel_rfl) ⟨rfl, rfl⟩
              | 12, _, _ => exact absurd (by decide) hni
              | 13, _, _ => exact absurd (by decide) hni
              | 14, _, _ => exact absurd (by decide) hni
              | _ + 15, hdi, _ => simp at hdi
            case cal =>
              intro x W k ii d u hR hk hdi hdep hu0 hup
              match k, hk, hR, hup with
              | 0, hk, hR, _ =>
                obtain rfl := Option.some.inj hk
                obtain rfl := Option.some.inj hdi
                rw [updV_self (show x 11 = _ from hdep 11 (by simp [dep12]) (by decide))]
                refine OI_value rfl rfl (about_none (by intro c h; cases h)) (by intro c h; cases h) (.slice (some ⟨W.heap.size, 0, none⟩) 1 1) (W.alloc (.cells (rC2 (Rg.gt t i, Rg.gt t (i + 1) - 1)) 25)) (by kernel_rfl) ⟨_, rfl, Bst.below hR ((Below.refl _ W).alloc (Nat.le_refl _) _), W.heap.size, rfl, cells_lit (Row.new W 25 #[.int .u64 (Rg.gt t i : Int), .int .u64 ((Rg.gt t (i + 1) - 1 : Nat) : Int)])⟩
              | 1, hk, hR, hup =>
                obtain rfl := Option.some.inj hk
                obtain rfl := Option.some.inj hdi
                have hx : x 12 = u := hup 0 12 rfl rfl
                obtain ⟨q1, gN, rfl, q2⟩ := hR
                rw [updV_self (show x 0 = _ from hdep 0 (by simp [dep12]) (by decide)), updV_self (show updV x 0 _ 12 = _ from hx)]
                obtain ⟨v6, W6, hr6, h6⟩ := bst_append q1 (by have := HBT.out.len; omega) q2 22
                exact OI_value rfl rfl (about_builtin _ _ _ rfl) (by intro c h; cases h) v6 W6 (exec_appendR _ _ _ _ rfl _ _ (by kernel_rfl) (by kernel_rfl) W v6 W6 hr6) ⟨_, rfl, h6⟩
              | 2, hk, hR, hup =>
                obtain rfl := Option.some.inj hk
                obtain rfl := Option.some.inj hdi
                have hx : x 13 = u := hup 1 13 rfl rfl
                obtain ⟨ua, uc, rfl, _⟩ := own_slice (show W.ownsRow w.heap.size 25 2 u _ _ from Bst.out hR)
                rw [updV_self hx]
                exact OI_value rfl rfl (about_none (by intro c h; cases h)) (by intro c h; cases h) (.slice ua (o ++ [(Rg.gt t i, Rg.gt t (i + 1) - 1)]).length uc) W (by kernel_rfl) ⟨_, rfl, hR⟩
              | _ + 3, hk, _, _ => simp at hk
            case don =>
              intro x W u hR hx hlast
              have hl : x 14 = u := hlast 2 14 rfl rfl
              have hB3 : Bst w tg tc t u (o ++ [(Rg.gt t i, Rg.gt t (i + 1) - 1)]) W := hR
              obtain ⟨ua, uc, rfl, _⟩ := own_slice hB3.out
              have HB3 := veil hB3
              simp only [putsV, Act.put, List.setIfInBounds_toArray, List.set_cons_succ, List.set_cons_zero, Nat.reduceAdd]
              rw [hl]
              clear hR hx hlast hl hB3
              gi_wp2_with fail
              go_roundw
              case rel => exact ⟨i + 1, _, ua, uc, rfl, by go_num, .inr (by omega), HM.out, HB3.out⟩
              case measure => simp only [intOf]; omega
        · obtain ⟨p, x, y, ho, hgr, hpl, hlast⟩ := last_split (show 0 < o.length by omega)
          obtain ⟨_, _, hsl, _, hog⟩ := own_slice BST.out.out
          obtain ⟨og, _, hoe⟩ := hog (by omega)
          injection hsl with hs1 hs2 hs3
          rw [← hs1] at hoe
          clear hs1 hs2 hs3
          subst hoe
          have HO := veil ho
          have HPL := veil hpl
          have HLAST := veil hlast
          have hyb : y ≤ 4611686018427387903 := by
            have := set_at o HBT.out.set (o.length - 1) (by omega)
            rw [hgr] at this
            exact this.2.1
          have HOG := veil ((BST4.out.out.lt og rfl).2)
          have HTG := veil BST4.out.lt
          have HCT := veil (fun j (hj : j < t.length) => BST4.out.cell hj)
          have HCY := veil (show w4.cell? ⟨og, 0 + (o.length - 1) * 2 + 1, none⟩ = some (.int .u64 (y : Int)) by
            have := own_range BST4.out.out rfl (o.length - 1) (by omega)
            rw [hgr] at this
            exact this 1 _ rfl)
          obtain ⟨lq, hlq⟩ : ∃ lq, lq = decide (y + 1 = Rg.gt t i) := ⟨_, rfl⟩
          have HLQ := veil hlq
          clear ho hgr hpl hlast
          cases lq
          · have hne := of_decide_eq_false hlq.symm
            have HM := veil (show Rg.Bt (ruleK kd) sa.l sb.l t (i + 1) (o ++ [(Rg.gt t i, Rg.gt t (i + 1) - 1)]) by
              have h1 := HBT.out
              have h2 := HINB.out
              have h3 : ∀ z, o.getLast? = some z → z.2 + 1 ≠ Rg.gt t i := fun z hz => by
                rw [HLAST.out] at hz
                rw [← Option.some.inj hz]
                exact hne
              rw [HT.out] at h1 h2 h3 ⊢
              exact Rg.bt_more HSA.out.2 HSB.out.2 h1 (by rw [← HT.out]; exact hlt) h2.symm h3)
            have hoa : ∃ oa, oa = (some ⟨og, 0, none⟩ : Option Addr) := ⟨_, rfl⟩
            clear hlq hne
            refine wpIn_region_any (by kernel_rfl) ?_
            refine anyIn_vals2 (w0 := w4) (val10Y (some ⟨og, 0, none⟩) oc o og tg tc t i y false) [36, 37, 38, 39, 40, 41, 42, 43, 44, 45, 46, 47, 48, 49, 50, 51, 52, 53] dep10 (by kernel_rfl) rfl (by decide) ((Below.refl _ _).drew) ?step3 ?done3
            case step3 =>
              intro x W ii d bW2 hdi hdep
              match ii, hdi, hdep with
              | 0, hdi, _ =>
                obtain rfl := Option.some.inj hdi
                exact OI_value rfl rfl (about_none (by intro c h; cases h)) (by intro c h; cases h) (.slice (some ⟨og, 0, none⟩) o.length oc) W (by kernel_rfl) ⟨rfl, Below.refl _ _⟩
              | 1, hdi, hdep =>
                obtain rfl := Option.some.inj hdi
                rw [updV_self (hdep 0 (by simp [dep10]))]
                exact OI_value rfl rfl (about_builtin _ _ _ rfl) (by intro c h; cases h) (.int .i64 (o.length : Int)) W (run_lenR _ 22 25 (some ⟨og, 0, none⟩) o.length oc rfl (by kernel_rfl) W Tryz.underlying22) ⟨rfl, Below.refl _ _⟩
              | 2, hdi, hdep =>
                obtain rfl := Option.some.inj hdi
                rw [updV_self (hdep 1 (by simp [dep10]))]
                exact OI_value rfl rfl (about_none (by intro c h; cases h)) (by intro c h; cases h) (.bool true) W (run_gtrI 3 3 _ _ o.length 0 true ((decide_eq_true (by omega)).symm) rfl (by kernel_rfl) (by kernel_rfl) W) ⟨rfl, Below.refl _ _⟩
              | 3, hdi, hdep =>
                obtain rfl := Option.some.inj hdi
                rw [updV_self (hdep 2 (by simp [dep10]))]
                exact OI_value rfl rfl (about_none (by intro c h; cases h)) (by intro c h; cases h) (.bool true) W (by kernel_rfl) ⟨rfl, Below.refl _ _⟩
              | 4, hdi, hdep =>
                obtain rfl := Option.some.inj hdi
                rw [updV_self (hdep 3 (by simp [dep10]))]
                with_reducible refine OI_value2 ?_ ?_ ?_ ?_ (.slice (some ⟨og, 0, none⟩) o.length oc) W ?_ ?_
                · decide
                · kernel_rfl
                · exact about_none (by intro c h; cases h)
                · intro c h; cases h
                · kernel_rfl
                · exact ⟨rfl, Below.refl _ _⟩
              | 5, hdi, hdep =>
                obtain rfl := Option.some.inj hdi
                rw [updV_self (hdep 3 (by simp [dep10]))]
                with_reducible refine OI_value2 ?_ ?_ ?_ ?_ (.slice (some ⟨og, 0, none⟩) o.length oc) W ?_ ?_
                · decide
                · kernel_rfl
                · exact about_none (by intro c h; cases h)
                · intro c h; cases h
                · kernel_rfl
                · exact ⟨rfl, Below.refl _ _⟩
              | 6, hdi, hdep =>
                obtain rfl := Option.some.inj hdi
                rw [updV_self (hdep 3 (by simp [dep10])), updV_self (show updV x 3 _ 5 = _ from hdep 5 (by simp [dep10]))]
                with_reducible refine OI_value2 ?_ ?_ ?_ ?_ (.int .i64 (o.length : Int)) W ?_ ?_
                · decide
                · kernel_rfl
                · exact about_builtin _ _ _ rfl
                · intro c h; cases h
                · exact run_lenR _ 22 25 (some ⟨og, 0, none⟩) o.length oc rfl (by kernel_rfl) W Tryz.underlying22
                · exact ⟨rfl, Below.refl _ _⟩
              | 7, hdi, hdep =>
                obtain rfl := Option.some.inj hdi
                rw [updV_self (hdep 3 (by simp [dep10])), updV_self (show updV x 3 _ 6 = _ from hdep 6 (by simp [dep10]))]
                with_reducible refine OI_value2 ?_ ?_ ?_ ?_ (.int .i64 ((o.length - 1 : Nat) : Int)) W ?_ ?_
                · decide
                · kernel_rfl
                · exact about_none (by intro c h; cases h)
                · intro c h; cases h
                · exact run_subI 3 3 _ _ o.length 1 (o.length - 1) (by omega) (by omega) rfl (by kernel_rfl) (by kernel_rfl) W
                · exact ⟨rfl, Below.refl _ _⟩
              | 8, hdi, hdep =>
                obtain rfl := Option.some.inj hdi
                rw [updV_self (hdep 3 (by simp [dep10])), updV_self (show updV x 3 _ 4 = _ from hdep 4 (by simp [dep10])), updV_self (show updV (updV x 3 _) 4 _ 7 = _ from hdep 7 (by simp [dep10]))]
                with_reducible refine OI_value2 ?_ ?_ ?_ ?_ (.pointer (some ⟨og, 0 + (o.length - 1) * 2, none⟩)) W ?_ ?_
                · decide
                · kernel_rfl
                · exact about_none (by intro c h; cases h)
                · intro c h; cases h
                · exact run_atR 22 25 2 _ _ og 0 o.length oc (o.length - 1) rfl (by kernel_rfl) (by kernel_rfl) Tryz.underlying22 (by kernel_rfl) (by omega) W
                · exact ⟨rfl, Below.refl _ _⟩
              | 9, hdi, hdep =>
                obtain rfl := Option.some.inj hdi
                rw [updV_self (hdep 3 (by simp [dep10])), updV_self (show updV x 3 _ 8 = _ from hdep 8 (by simp [dep10]))]
                with_reducible refine OI_value2 ?_ ?_ ?_ ?_ (.pointer (some ⟨og, 0 + (o.length - 1) * 2 + 1, none⟩)) W ?_ ?_
                · decide
                · kernel_rfl
                · exact about_none (by intro c h; cases h)
                · intro c h; cases h
                · kernel_rfl
                · exact ⟨rfl, Below.refl _ _⟩
              | 10, hdi, hdep =>
                obtain rfl := Option.some.inj hdi
                rw [updV_self (hdep 3 (by simp [dep10])), updV_self (show updV x 3 _ 9 = _ from hdep 9 (by simp [dep10]))]
                with_reducible refine OI_value2 ?_ ?_ ?_ ?_ (.int .u64 (y : Int)) W ?_ ?_
                · decide
                · kernel_rfl
                · exact about_none (by intro c h; cases h)
                · intro c h; cases h
                · exact run_cellR 23 _ ⟨og, 0 + (o.length - 1) * 2 + 1, none⟩ _ _ rfl (by kernel_rfl) Tryz.underlying23 rfl W (bW2.cell (p := ⟨og, 0 + (o.length - 1) * 2 + 1, none⟩) HOG.out |>.trans HCY.out)
                · exact ⟨rfl, Below.refl _ _⟩
              | 11, hdi, hdep =>
                obtain rfl := Option.some.inj hdi
                rw [updV_self (hdep 3 (by simp [dep10])), updV_self (show updV x 3 _ 10 = _ from hdep 10 (by simp [dep10]))]
                with_reducible refine OI_value2 ?_ ?_ ?_ ?_ (.int .u64 ((y + 1 : Nat) : Int)) W ?_ ?_
                · decide
                · kernel_rfl
                · exact about_none (by intro c h; cases h)
                · intro c h; cases h
                · exact run_addU 23 23 _ _ y 1 (y + 1) rfl (by omega) rfl (by kernel_rfl) (by kernel_rfl) W
                · exact ⟨rfl, Below.refl _ _⟩
              | 12, hdi, hdep =>
                obtain rfl := Option.some.inj hdi
                rw [updV_self (hdep 3 (by simp [dep10]))]
                with_reducible refine OI_value2 ?_ ?_ ?_ ?_ (.slice (some ⟨tg, 0, none⟩) t.length tc) W ?_ ?_
                · decide
                · kernel_rfl
                · exact about_none (by intro c h; cases h)
                · intro c h; cases h
                · kernel_rfl
                · exact ⟨rfl, Below.refl _ _⟩
              | 13, hdi, hdep =>
                obtain rfl := Option.some.inj hdi
                rw [updV_self (hdep 3 (by simp [dep10]))]
                with_reducible refine OI_value2 ?_ ?_ ?_ ?_ (.int .i64 (i : Int)) W ?_ ?_
                · decide
                · kernel_rfl
                · exact about_none (by intro c h; cases h)
                · intro c h; cases h
                · kernel_rfl
                · exact ⟨rfl, Below.refl _ _⟩
              | 14, hdi, hdep =>
                obtain rfl := Option.some.inj hdi
                rw [updV_self (hdep 3 (by simp [dep10])), updV_self (show updV x 3 _ 12 = _ from hdep 12 (by simp [dep10])), updV_self (show updV (updV x 3 _) 12 _ 13 = _ from hdep 13 (by simp [dep10]))]
                with_reducible refine OI_value2 ?_ ?_ ?_ ?_ (.pointer (some ⟨tg, 0 + i * 1, none⟩)) W ?_ ?_
                · decide
                · kernel_rfl
                · exact about_none (by intro c h; cases h)
                · intro c h; cases h
                · exact run_atR 65 23 1 _ _ tg 0 t.length tc i rfl (by kernel_rfl) (by kernel_rfl) Tryz.underlying65 (by kernel_rfl) (by omega) W
                · exact ⟨rfl, Below.refl _ _⟩
              | 15, hdi, hdep =>
                obtain rfl := Option.some.inj hdi
                rw [updV_self (hdep 3 (by simp [dep10])), updV_self (show updV x 3 _ 14 = _ from hdep 14 (by simp [dep10]))]
                with_reducible refine OI_value2 ?_ ?_ ?_ ?_ (.int .u64 (Rg.gt t i : Int)) W ?_ ?_
                · decide
                · kernel_rfl
                · exact about_none (by intro c h; cases h)
                · intro c h; cases h
                · exact run_cellR 23 _ ⟨tg, 0 + i * 1, none⟩ _ _ rfl (by kernel_rfl) Tryz.underlying23 rfl W (by rw [Nat.zero_add, Nat.mul_one, bW2.cell (p := ⟨tg, i, none⟩) HTG.out]; exact HCT.out i (by omega))
                · exact ⟨rfl, Below.refl _ _⟩
              | 16, hdi, hdep =>
                obtain rfl := Option.some.inj hdi
                rw [updV_self (hdep 3 (by simp [dep10])), updV_self (show updV x 3 _ 11 = _ from hdep 11 (by simp [dep10])), updV_self (show updV (updV x 3 _) 11 _ 15 = _ from hdep 15 (by simp [dep10]))]
                with_reducible refine OI_value2 ?_ ?_ ?_ ?_ (.bool false) W ?_ ?_
                · decide
                · kernel_rfl
                · exact about_none (by intro c h; cases h)
                · intro c h; cases h
                · exact run_eqlU 23 23 _ _ (y + 1) (Rg.gt t i) false HLQ.out rfl (by kernel_rfl) (by kernel_rfl) W
                · exact ⟨rfl, Below.refl _ _⟩
              | 17, hdi, hdep =>
                obtain rfl := Option.some.inj hdi
                rw [updV_self (hdep 3 (by simp [dep10])), updV_self (show updV x 3 _ 16 = _ from hdep 16 (by simp [dep10]))]
                exact OI_value rfl rfl (about_none (by intro c h; cases h)) (by intro c h; cases h) (.bool false) W (by kernel_rfl) ⟨rfl, Below.refl _ _⟩
              | _ + 18, hdi, _ => simp at hdi
            case done3 =>
              intro W hW
              simp only [putsV, val10Y, Act.put, List.setIfInBounds_toArray, List.set_cons_succ, List.set_cons_zero, Nat.reduceAdd]
              gi_wp2_with fail
              refine wpIn_region_any (by kernel_rfl) ?_
              refine anyIn_spine2 (val12 (some ⟨og, 0, none⟩) oc o tg tc t i) (spR w tg tc t (.slice (some ⟨og, 0, none⟩) o.length oc) o (Rg.gt t i) (Rg.gt t (i + 1) - 1)) undef [12, 13, 14] [66, 67, 68, 69, 70, 71, 72, 73, 74, 75, 76, 77, 78, 79, 10] dep12 dcl12 (by kernel_rfl) (by decide) rfl (by decide) (by decide) ?ord (by decide) (Bst.below (BST4.out.below hW) ((Below.refl _ _).drew)) ?fix ?cal ?don
              case ord =>
                intro k i j h1 h2
                match k, h1, h2 with
                | 0, h1, h2 =>
                  obtain rfl := Option.some.inj h1
                  obtain rfl := Option.some.inj h2
                  decide
                | 1, h1, h2 =>
                  obtain rfl := Option.some.inj h1
                  obtain rfl := Option.some.inj h2
                  decide
                | _ + 2, h1, h2 => simp at h2
              case fix =>
                intro x W m ii d u hR hdi hni hdep _ hdcl hinit
                match ii, hdi, hdep with
                | 0, hdi, _ =>
                  obtain rfl := Option.some.inj hdi
                  rw [updV_self (hinit 2 14 rfl (hdcl 2 14 rfl (by simp [dcl12])))]
                  exact OI_value rfl rfl (about_none (by intro c h; cases h)) (by intro c h; cases h) (.slice (some ⟨og, 0, none⟩) o.length oc) W (by kernel_rfl) ⟨rfl, rfl⟩
                | 1, hdi, _ =>
                  obtain rfl := Option.some.inj hdi
                  exact OI_value rfl rfl (about_none (by intro c h; cases h)) (by intro c h; cases h) (.slice (some ⟨tg, 0, none⟩) t.length tc) W (by kernel_rfl) ⟨rfl, rfl⟩
                | 2, hdi, _ =>
                  obtain rfl := Option.some.inj hdi
                  exact OI_value rfl rfl (about_none (by intro c h; cases h)) (by intro c h; cases h) (.int .i64 (i : Int)) W (by kernel_rfl) ⟨rfl, rfl⟩
                | 3, hdi, hdep =>
                  obtain rfl := Option.some.inj hdi
                  rw [updV_self (show x 1 = _ from hdep 1 (by simp [dep12]) (by decide)), updV_self (show updV x 1 _ 2 = _ from hdep 2 (by simp [dep12]) (by decide))]
                  exact OI_value rfl rfl (about_none (by intro c h; cases h)) (by intro c h; cases h) (.pointer (some ⟨tg, 0 + i * 1, none⟩)) W (run_atR 65 23 1 _ _ tg 0 t.length tc i rfl (by kernel_rfl) (by kernel_rfl) Tryz.underlying65 (by kernel_rfl) (by omega) W) ⟨rfl, rfl⟩
                | 4, hdi, hdep =>
                  obtain rfl := Option.some.inj hdi
                  rw [updV_self (show x 3 = _ from hdep 3 (by simp [dep12]) (by decide))]
                  exact OI_value rfl rfl (about_none (by intro c h; cases h)) (by intro c h; cases h) (.int .u64 (Rg.gt t i : Int)) W (run_cellR 23 _ ⟨tg, 0 + i * 1, none⟩ _ _ rfl (by kernel_rfl) Tryz.underlying23 rfl W (by rw [Nat.zero_add, Nat.mul_one]; exact spR_at hR (by omega))) ⟨rfl, rfl⟩
                | 5, hdi, _ =>
                  obtain rfl := Option.some.inj hdi
                  exact OI_value rfl rfl (about_none (by intro c h; cases h)) (by intro c h; cases h) (.slice (some ⟨tg, 0, none⟩) t.length tc) W (by kernel_rfl) ⟨rfl, rfl⟩
                | 6, hdi, _ =>
                  obtain rfl := Option.some.inj hdi
                  exact OI_value rfl rfl (about_none (by intro c h; cases h)) (by intro c h; cases h) (.int .i64 (i : Int)) W (by kernel_rfl) ⟨rfl, rfl⟩
                | 7, hdi, hdep =>
                  obtain rfl := Option.some.inj hdi
                  rw [updV_self (show x 6 = _ from hdep 6 (by simp [dep12]) (by decide))]
                  exact OI_value rfl rfl (about_none (by intro c h; cases h)) (by intro c h; cases h) (.int .i64 ((i + 1 : Nat) : Int)) W (run_addI 3 3 _ _ i 1 (i + 1) rfl (by omega) rfl (by kernel_rfl) (by kernel_rfl) W) ⟨rfl, rfl⟩
                | 8, hdi, hdep =>
                  obtain rfl := Option.some.inj hdi
                  rw [updV_self (show x 5 = _ from hdep 5 (by simp [dep12]) (by decide)), updV_self (show updV x 5 _ 7 = _ from hdep 7 (by simp [dep12]) (by decide))]
                  exact OI_value rfl rfl (about_none (by intro c h; cases h)) (by intro c h; cases h) (.pointer (some ⟨tg, 0 + (i + 1) * 1, none⟩)) W (run_atR 65 23 1 _ _ tg 0 t.length tc (i + 1) rfl (by kernel_rfl) (by kernel_rfl) Tryz.underlying65 (by kernel_rfl) (by omega) W) ⟨rfl, rfl⟩
                | 9, hdi, hdep =>
                  obtain rfl := Option.some.inj hdi
                  rw [updV_self (show x 8 = _ from hdep 8 (by simp [dep12]) (by decide))]
                  exact OI_value rfl rfl (about_none (by intro c h; cases h)) (by intro c h; cases h) (.int .u64 (Rg.gt t (i + 1) : Int)) W (run_cellR 23 _ ⟨tg, 0 + (i + 1) * 1, none⟩ _ _ rfl (by kernel_rfl) Tryz.underlying23 rfl W (by rw [Nat.zero_add, Nat.mul_one]; exact spR_at hR (by omega))) ⟨rfl, rfl⟩
                | 10, hdi, hdep =>
                  obtain rfl := Option.some.inj hdi
                  rw [updV_self (show x 9 = _ from hdep 9 (by simp [dep12]) (by decide))]
                  exact OI_value rfl rfl (about_none (by intro c h; cases h)) (by intro c h; cases h) (.int .u64 ((Rg.gt t (i + 1) - 1 : Nat) : Int)) W (run_subU 23 23 _ _ (Rg.gt t (i + 1)) 1 (Rg.gt t (i + 1) - 1) (by omega) (by omega) rfl (by kernel_rfl) (by kernel_rfl) W) ⟨rfl, rfl⟩
                | 11, hdi, hdep =>
                  obtain rfl := Option.some.inj hdi
                  rw [updV_self (show x 4 = _ from hdep 4 (by simp [dep12]) (by decide)), updV_self (show updV x 4 _ 10 = _ from hdep 10 (by simp [dep12]) (by decide))]
                  exact OI_value rfl rfl (about_none (by intro c h; cases h)) (by intro c h; cases h) (.agg #[.int .u64 (Rg.gt t i : Int), .int .u64 ((Rg.gt t (i + 1) - 1 : Nat) : Int)]) W (by kernel_rfl) ⟨rfl, rfl⟩
                | 12, _, _ => exact absurd (by decide) hni
                | 13, _, _ => exact absurd (by decide) hni
                | 14, _, _ => exact absurd (by decide) hni
                | _ + 15, hdi, _ => simp at hdi
              case cal =>
                intro x W k ii d u hR hk hdi hdep hu0 hup
                match k, hk, hR, hup with
                | 0, hk, hR, _ =>
                  obtain rfl := Option.some.inj hk
                  obtain rfl := Option.some.inj hdi
                  rw [updV_self (show x 11 = _ from hdep 11 (by simp [dep12]) (by decide))]
                  refine OI_value rfl rfl (about_none (by intro c h; cases h)) (by intro c h; cases h) (.slice (some ⟨W.heap.size, 0, none⟩) 1 1) (W.alloc (.cells (rC2 (Rg.gt t i, Rg.gt t (i + 1) - 1)) 25)) (by kernel_rfl) ⟨_, rfl, Bst.below hR ((Below.refl _ W).alloc (Nat.le_refl _) _), W.heap.size, rfl, cells_lit (Row.new W 25 #[.int .u64 (Rg.gt t i : Int), .int .u64 ((Rg.gt t (i + 1) - 1 : Nat) : Int)])⟩
                | 1, hk, hR, hup =>
                  obtain rfl := Option.some.inj hk
                  obtain rfl := Option.some.inj hdi
                  have hx : x 12 = u := hup 0 12 rfl rfl
                  obtain ⟨q1, gN, rfl, q2⟩ := hR
                  rw [updV_self (show x 0 = _ from hdep 0 (by simp [dep12]) (by decide)), updV_self (show updV x 0 _ 12 = _ from hx)]
                  obtain ⟨v6, W6, hr6, h6⟩ := bst_append q1 (by have := HBT.out.len; omega) q2 22
                  exact OI_value rfl rfl (about_builtin _ _ _ rfl) (by intro c h; cases h) v6 W6 (exec_appendR _ _ _ _ rfl _ _ (by kernel_rfl) (by kernel_rfl) W v6 W6 hr6) ⟨_, rfl, h6⟩
                | 2, hk, hR, hup =>
                  obtain rfl := Option.some.inj hk
                  obtain rfl := Option.some.inj hdi
                  have hx : x 13 = u := hup 1 13 rfl rfl
                  obtain ⟨ua, uc, rfl, _⟩ := own_slice (show W.ownsRow w.heap.size 25 2 u _ _ from Bst.out hR)
                  rw [updV_self hx]
                  exact OI_value rfl rfl (about_none (by intro c h; cases h)) (by intro c h; cases h) (.slice ua (o ++ [(Rg.gt t i, Rg.gt t (i + 1) - 1)]).length uc) W (by kernel_rfl) ⟨_, rfl, hR⟩
                | _ + 3, hk, _, _ => simp at hk
              case don =>
                intro x W u hR hx hlast
                have hl : x 14 = u := hlast 2 14 rfl rfl
                have hB3 : Bst w tg tc t u (o ++ [(Rg.gt t i, Rg.gt t (i + 1) - 1)]) W := hR
                obtain ⟨ua, uc, rfl, _⟩ := own_slice hB3.out
                have HB3 := veil hB3
                simp only [putsV, Act.put, List.setIfInBounds_toArray, List.set_cons_succ, List.set_cons_zero, Nat.reduceAdd]
                rw [hl]
                clear hR hx hlast hl hB3
                gi_wp2_with fail
                go_roundw
                case rel => exact ⟨i + 1, _, ua, uc, rfl, by go_num, .inr (by omega), HM.out, HB3.out⟩
                case measure => simp only [intOf]; omega
          · have heq := of_decide_eq_true hlq.symm
            have HM := veil (show Rg.Bt (ruleK kd) sa.l sb.l t (i + 1) (p ++ [(x, Rg.gt t (i + 1) - 1)]) by
              have h1 := HBT.out
              have h2 := HINB.out
              have h3 := heq
              rw [HO.out] at h1
              rw [HT.out] at h1 h2 h3 ⊢
              exact Rg.bt_on HSA.out.2 HSB.out.2 h1 (by rw [← HT.out]; exact hlt) h2.symm h3)
            clear hlq heq
            refine wpIn_region_any (by kernel_rfl) ?_
            refine anyIn_vals2 (w0 := w4) (val10Y (some ⟨og, 0, none⟩) oc o og tg tc t i y true) [36, 37, 38, 39, 40, 41, 42, 43, 44, 45, 46, 47, 48, 49, 50, 51, 52, 53] dep10 (by kernel_rfl) rfl (by decide) ((Below.refl _ _).drew) ?step3 ?done3
            case step3 =>
              intro x W ii d bW2 hdi hdep
              match ii, hdi, hdep with
              | 0, hdi, _ =>
                obtain rfl := Option.some.inj hdi
                exact OI_value rfl rfl (about_none (by intro c h; cases h)) (by intro c h; cases h) (.slice (some ⟨og, 0, none⟩) o.length oc) W (by kernel_rfl) ⟨rfl, Below.refl _ _⟩
              | 1, hdi, hdep =>
                obtain rfl := Option.some.inj hdi
                rw [updV_self (hdep 0 (by simp [dep10]))]
                exact OI_value rfl rfl (about_builtin _ _ _ rfl) (by intro c h; cases h) (.int .i64 (o.length : Int)) W (run_lenR _ 22 25 (some ⟨og, 0, none⟩) o.length oc rfl (by kernel_rfl) W Tryz.underlying22) ⟨rfl, Below.refl _ _⟩
              | 2, hdi, hdep =>
                obtain rfl := Option.some.inj hdi
                rw [updV_self (hdep 1 (by simp [dep10]))]
                exact OI_value rfl rfl (about_none (by intro c h; cases h)) (by intro c h; cases h) (.bool true) W (run_gtrI 3 3 _ _ o.length 0 true ((decide_eq_true (by omega)).symm) rfl (by kernel_rfl) (by kernel_rfl) W) ⟨rfl, Below.refl _ _⟩
              | 3, hdi, hdep =>
                obtain rfl := Option.some.inj hdi
                rw [updV_self (hdep 2 (by simp [dep10]))]
                exact OI_value rfl rfl (about_none (by intro c h; cases h)) (by intro c h; cases h) (.bool true) W (by kernel_rfl) ⟨rfl, Below.refl _ _⟩
              | 4, hdi, hdep =>
                obtain rfl := Option.some.inj hdi
                rw [updV_self (hdep 3 (by simp [dep10]))]
                with_reducible refine OI_value2 ?_ ?_ ?_ ?_ (.slice (some ⟨og, 0, none⟩) o.length oc) W ?_ ?_
                · decide
                · kernel_rfl
                · exact about_none (by intro c h; cases h)
                · intro c h; cases h
                · kernel_rfl
                · exact ⟨rfl, Below.refl _ _⟩
              | 5, hdi, hdep =>
                obtain rfl := Option.some.inj hdi
                rw [updV_self (hdep 3 (by simp [dep10]))]
                with_reducible refine OI_value2 ?_ ?_ ?_ ?_ (.slice (some ⟨og, 0, none⟩) o.length oc) W ?_ ?_
                · decide
                · kernel_rfl
                · exact about_none (by intro c h; cases h)
                · intro c h; cases h
                · kernel_rfl
                · exact ⟨rfl, Below.refl _ _⟩
              | 6, hdi, hdep =>
                obtain rfl := Option.some.inj hdi
                rw [updV_self (hdep 3 (by simp [dep10])), updV_self (show updV x 3 _ 5 = _ from hdep 5 (by simp [dep10]))]
                with_reducible refine OI_value2 ?_ ?_ ?_ ?_ (.int .i64 (o.length : Int)) W ?_ ?_
                · decide
                · kernel_rfl
                · exact about_builtin _ _ _ rfl
                · intro c h; cases h
                · exact run_lenR _ 22 25 (some ⟨og, 0, none⟩) o.length oc rfl (by kernel_rfl) W Tryz.underlying22
                · exact ⟨rfl, Below.refl _ _⟩
              | 7, hdi, hdep =>
                obtain rfl := Option.some.inj hdi
                rw [updV_self (hdep 3 (by simp [dep10])), updV_self (show updV x 3 _ 6 = _ from hdep 6 (by simp [dep10]))]
                with_reducible refine OI_value2 ?_ ?_ ?_ ?_ (.int .i64 ((o.length - 1 : Nat) : Int)) W ?_ ?_
                · decide
                · kernel_rfl
                · exact about_none (by intro c h; cases h)
                · intro c h; cases h
                · exact run_subI 3 3 _ _ o.length 1 (o.length - 1) (by omega) (by omega) rfl (by kernel_rfl) (by kernel_rfl) W
                · exact ⟨rfl, Below.refl _ _⟩
              | 8, hdi, hdep =>
                obtain rfl := Option.some.inj hdi
                rw [updV_self (hdep 3 (by simp [dep10])), updV_self (show updV x 3 _ 4 = _ from hdep 4 (by simp [dep10])), updV_self (show updV (updV x 3 _) 4 _ 7 = _ from hdep 7 (by simp [dep10]))]
                with_reducible refine OI_value2 ?_ ?_ ?_ ?_ (.pointer (some ⟨og, 0 + (o.length - 1) * 2, none⟩)) W ?_ ?_
                · decide
                · kernel_rfl
                · exact about_none (by intro c h; cases h)
                · intro c h; cases h
                · exact run_atR 22 25 2 _ _ og 0 o.length oc (o.length - 1) rfl (by kernel_rfl) (by kernel_rfl) Tryz.underlying22 (by kernel_rfl) (by omega) W
                · exact ⟨rfl, Below.refl _ _⟩
              | 9, hdi, hdep =>
                obtain rfl := Option.some.inj hdi
                rw [updV_self (hdep 3 (by simp [dep10])), updV_self (show updV x 3 _ 8 = _ from hdep 8 (by simp [dep10]))]
                with_reducible refine OI_value2 ?_ ?_ ?_ ?_ (.pointer (some ⟨og, 0 + (o.length - 1) * 2 + 1, none⟩)) W ?_ ?_
                · decide
                · kernel_rfl
                · exact about_none (by intro c h; cases h)
                · intro c h; cases h
                · kernel_rfl
                · exact ⟨rfl, Below.refl _ _⟩
              | 10, hdi, hdep =>
                obtain rfl := Option.some.inj hdi
                rw [updV_self (hdep 3 (by simp [dep10])), updV_self (show updV x 3 _ 9 = _ from hdep 9 (by simp [dep10]))]
                with_reducible refine OI_value2 ?_ ?_ ?_ ?_ (.int .u64 (y : Int)) W ?_ ?_
                · decide
                · kernel_rfl
                · exact about_none (by intro c h; cases h)
                · intro c h; cases h
                · exact run_cellR 23 _ ⟨og, 0 + (o.length - 1) * 2 + 1, none⟩ _ _ rfl (by kernel_rfl) Tryz.underlying23 rfl W (bW2.cell (p := ⟨og, 0 + (o.length - 1) * 2 + 1, none⟩) HOG.out |>.trans HCY.out)
                · exact ⟨rfl, Below.refl _ _⟩
              | 11, hdi, hdep =>
                obtain rfl := Option.some.inj hdi
                rw [updV_self (hdep 3 (by simp [dep10])), updV_self (show updV x 3 _ 10 = _ from hdep 10 (by simp [dep10]))]
                with_reducible refine OI_value2 ?_ ?_ ?_ ?_ (.int .u64 ((y + 1 : Nat) : Int)) W ?_ ?_
                · decide
                · kernel_rfl
                · exact about_none (by intro c h; cases h)
                · intro c h; cases h
                · exact run_addU 23 23 _ _ y 1 (y + 1) rfl (by omega) rfl (by kernel_rfl) (by kernel_rfl) W
                · exact ⟨rfl, Below.refl _ _⟩
              | 12, hdi, hdep =>
                obtain rfl := Option.some.inj hdi
                rw [updV_self (hdep 3 (by simp [dep10]))]
                with_reducible refine OI_value2 ?_ ?_ ?_ ?_ (.slice (some ⟨tg, 0, none⟩) t.length tc) W ?_ ?_
                · decide
                · kernel_rfl
                · exact about_none (by intro c h; cases h)
                · intro c h; cases h
                · kernel_rfl
                · exact ⟨rfl, Below.refl _ _⟩
              | 13, hdi, hdep =>
                obtain rfl := Option.some.inj hdi
                rw [updV_self (hdep 3 (by simp [dep10]))]
                with_reducible refine OI_value2 ?_ ?_ ?_ ?_ (.int .i64 (i : Int)) W ?_ ?_
                · decide
                · kernel_rfl
                · exact about_none (by intro c h; cases h)
                · intro c h; cases h
                · kernel_rfl
                · exact ⟨rfl, Below.refl _ _⟩
              | 14, hdi, hdep =>
                obtain rfl := Option.some.inj hdi
                rw [updV_self (hdep 3 (by simp [dep10])), updV_self (show updV x 3 _ 12 = _ from hdep 12 (by simp [dep10])), updV_self (show updV (updV x 3 _) 12 _ 13 = _ from hdep 13 (by simp [dep10]))]
                with_reducible refine OI_value2 ?_ ?_ ?_ ?_ (.pointer (some ⟨tg, 0 + i * 1, none⟩)) W ?_ ?_
                · decide
                · kernel_rfl
                · exact about_none (by intro c h; cases h)
                · intro c h; cases h
                · exact run_atR 65 23 1 _ _ tg 0 t.length tc i rfl (by kernel_rfl) (by kernel_rfl) Tryz.underlying65 (by kernel_rfl) (by omega) W
                · exact ⟨rfl, Below.refl _ _⟩
              | 15, hdi, hdep =>
                obtain rfl := Option.some.inj hdi
                rw [updV_self (hdep 3 (by simp [dep10])), updV_self (show updV x 3 _ 14 = _ from hdep 14 (by simp [dep10]))]
                with_reducible refine OI_value2 ?_ ?_ ?_ ?_ (.int .u64 (Rg.gt t i : Int)) W ?_ ?_
                · decide
                · kernel_rfl
                · exact about_none (by intro c h; cases h)
                · intro c h; cases h
                · exact run_cellR 23 _ ⟨tg, 0 + i * 1, none⟩ _ _ rfl (by kernel_rfl) Tryz.underlying23 rfl W (by rw [Nat.zero_add, Nat.mul_one, bW2.cell (p := ⟨tg, i, none⟩) HTG.out]; exact HCT.out i (by omega))
                · exact ⟨rfl, Below.refl _ _⟩
              | 16, hdi, hdep =>
                obtain rfl := Option.some.inj hdi
                rw [updV_self (hdep 3 (by simp [dep10])), updV_self (show updV x 3 _ 11 = _ from hdep 11 (by simp [dep10])), updV_self (show updV (updV x 3 _) 11 _ 15 = _ from hdep 15 (by simp [dep10]))]
                with_reducible refine OI_value2 ?_ ?_ ?_ ?_ (.bool true) W ?_ ?_
                · decide
                · kernel_rfl
                · exact about_none (by intro c h; cases h)
                · intro c h; cases h
                · exact run_eqlU 23 23 _ _ (y + 1) (Rg.gt t i) true HLQ.out rfl (by kernel_rfl) (by kernel_rfl) W
                · exact ⟨rfl, Below.refl _ _⟩
              | 17, hdi, hdep =>
                obtain rfl := Option.some.inj hdi
                rw [updV_self (hdep 3 (by simp [dep10])), updV_self (show updV x 3 _ 16 = _ from hdep 16 (by simp [dep10]))]
                exact OI_value rfl rfl (about_none (by intro c h; cases h)) (by intro c h; cases h) (.bool true) W (by kernel_rfl) ⟨rfl, Below.refl _ _⟩
              | _ + 18, hdi, _ => simp at hdi
            case done3 =>
              intro W hW
              simp only [putsV, val10Y, Act.put, List.setIfInBounds_toArray, List.set_cons_succ, List.set_cons_zero, Nat.reduceAdd]
              have BSTW := BST4.out.below hW
              have hcg := BSTW.cell hlt
              rw [HO.out] at BSTW
              obtain ⟨⟨cL, fL⟩, hB5⟩ := bst_last (Rg.gt t (i + 1) - 1) BSTW
              rw [HPL.out] at cL fL hB5
              have hpl2 : (p ++ [(x, Rg.gt t (i + 1) - 1)]).length = o.length := by rw [List.length_append, List.length_singleton, HPL.out]; omega
              have HB5 := veil hB5
              have hw1 : IntKind.u64.wrap ((Rg.gt t (i + 1) : Int) - 1) = ((Rg.gt t (i + 1) - 1 : Nat) : Int) := by rw [IntKind.wrap_u64]; omega
              have hn1 : (o.length : Int) - 1 = ((o.length - 1 : Nat) : Int) := by omega
              have hn2 : o.length - 1 < o.length := by omega
              have hn3 : IntKind.i64.wrap ((o.length - 1 : Nat) : Int) = ((o.length - 1 : Nat) : Int) := by rw [IntKind.wrap_i64]; omega
              have hi1 : ((i + 1 : Nat) : Int) = (i : Int) + 1 := by omega
              have HPL2 := veil hpl2
              clear hB5 BSTW hpl2
              gi_wp2_with fail
              go_roundw
              case rel => exact ⟨i + 1, _, some ⟨og, 0, none⟩, oc, by rw [HPL2.out], by go_num, .inr hlt, HM.out, by have := HB5.out; rw [HPL2.out] at this ⊢; exact this⟩
              case measure => simp only [intOf]; omega
    · have d1 : decide ((i : Int) + 1 < (t.length : Int)) = false := by simp; omega
      have d1n : decide (i + 1 < t.length) = false := by simp; omega
      have HEND := veil (show Rg.Comb (ruleK kd) sa.l sb.l (if o.length ≤ 64 then o else []) (if o.length ≤ 64 then 0 else 6) by
        have h1 := HBT.out
        rw [HT.out] at h1
        exact Rg.bt_end (rule_ff kd) HSA.out HSB.out h1 (by rw [← HT.out]; omega) (by rw [← HT.out]; exact hi))
      by_cases h64 : o.length ≤ 64
      · have d2 : decide ((64 : Int) < (o.length : Int)) = false := by simp; omega
        have d2n : decide (64 < o.length) = false := by simp; omega
        rw [if_pos h64, if_pos h64] at HEND
        obtain ⟨go, ANS⟩ := ans_of_own BST.out.out rfl (small_set HBT.out.set)
        have HANS := veil ANS
        have HBEL := veil BST.out.bel
        clear ANS h64
        gi_wp2_with fail
        go_ret2
        exact ⟨_, 0, rfl, HEND.out, HANS.out, HBEL.out⟩
      · have d2 : decide ((64 : Int) < (o.length : Int)) = true := by simp; omega
        have d2n : decide (64 < o.length) = true := by simp; omega
        rw [if_neg h64, if_neg h64] at HEND
        have HBEL := veil BST.out.bel
        clear h64
        gi_wp2_with fail
        go_ret2
        exact ⟨⟨none, 0, 0, 0, 0, []⟩, 6, rfl, HEND.out, ans_nil _ _, HBEL.out⟩
end Go.Proofs.YtalhfciiflcfbaaGreatDoor
