/-
  Out of KyRefN, KyRefM.
-/
import Derived.Test.YtbheoldakmcppaaGreatDoorGs11
import Derived.Test.YtbheoldakmcppaaGreatDoorGs41
import Derived.Test.YtbheoldakmcppaaGreatDoorGs12
import Derived.Test.YtbheoldakmcppaaGreatDoorGs32
import Derived.Deep.QuietTactic
import Derived.BigQuiet
import Derived.Deep.RegionHeld3

/-! What the document's Nonce and Mask answer. -/
namespace Go.Proofs.YtbheoldakmcppaaGreatDoor
open Go Go.RowKit

/-- A row of one's own, as a slice. -/
theorem sl_of_wide {w : World} {base g n c : Nat} {xs : List By} (h : RowW w base 5 1 (.slice (some ⟨g, 0, none⟩) n c) n (vb xs)) : (⟨some ⟨g, 0, none⟩, n, c, g, 0, xs⟩ : SL).Ok w := by
  have hl : xs.length = n := by have := h.1; rw [vb_length] at this; omega
  have hlt := (h.lt g rfl).2
  have hcap : n ≤ c := by
    rcases h.2 with ⟨e, _⟩ | ⟨g', c', cur, e, _, _, hn, _⟩
    · cases e
    · cases e; exact hn
  refine ⟨hl, hcap, (fun e => by cases e), fun _ => rfl, fun _ => hlt, fun j hj => ?_⟩
  show w.cell? ⟨g, 0 + j, none⟩ = _
  rw [Nat.zero_add, h.cellAt j (by rw [Nat.mul_one]; exact hj)]
  exact vb_get xs j (by rw [hl]; exact hj)
theorem kyVb_set (xs : List By) (j : Nat) (y : By) : (vb xs).set j (.int .u8 (v8 y)) = vb (xs.set j y) := by
  unfold vb
  rw [List.map_set]

set_option maxRecDepth 20000 in
set_option maxHeartbeats 2000000 in
theorem refNonce_any (q : SL) (n : Nat) (w : World) (hq : q.Ok w) (hl : q.len = 12) (hn : n ≤ 4611686018427387903) :
    Calls Tryz.prog 29 #[.slice q.a q.len q.cap, .int .u64 (n : Int)] w fun e w' => ∃ z : SL, e = .returned (.tuple #[.slice z.a z.len z.cap, .int .i64 0]) ∧ z.Ok w' ∧ z.b = nonceL q.b n ∧ Below w.heap.size w w' := by
  obtain ⟨i0, hi, hz0, hz1, hz2⟩ := info_parts Tryz.infoByteS
  have HQ := veil hq
  have HL := veil hl
  have hne : ((q.len : Int) != 12) = false := by rw [hl]; rfl
  have hgt : decide ((4611686018427387903 : Int) < (n : Int)) = false := decide_eq_false (by omega)
  have HB12 := veil (show q.b.length = 12 by rw [hq.hb, hl])
  clear hq hl hn
  go_enter Tryz.func29, Tryz.ntmps29
  go_wp2_with (with_reducible (show wpList _ _ _ (⟨some 16, Op.call _, _, _, _, _⟩ :: _) _ _); refine Hid.out ?_)
  refine show wpList _ _ _ _ _ _ from ?_
  refine append_sl rfl _ _ 22 rfl w.heap.size i0 Tryz.underlying22 hi hz0 hz1 hz2 (.slice none 0 0) 0 [] rfl (World.ownsRow_nil _ _ _ _) q HQ.out rfl (by have := HL.out; omega) (Nat.le_refl _) ?_
  intro v1 w1 ho1 hg1
  have hb1 : Below w.heap.size w w1 := (Below.refl _ _).grown hg1 (Nat.le_refl _) (fun k e => by cases e)
  rw [HL.out, Nat.zero_add, List.nil_append] at ho1
  obtain ⟨G, C, rfl, hG1, hG2, _⟩ := own_slice ho1 (by decide)
  have hr1 : RowW w1 w.heap.size 5 1 (.slice (some ⟨G, 0, none⟩) 12 C) 12 (vb (nonceTo q.b n 0)) := by
    rw [nonceTo_zero q.b n HB12.out]
    exact RowW.of_own ho1
  have R1 := veil hr1
  have B1 := veil hb1
  have HG2 := veil hG2
  clear ho1 hg1 hb1 hr1 hG1 hG2
  go_wp2_with fail
  go_loopw [7] (fun i wr => ∃ t : Nat, t ≤ 8 ∧ i = .int .i64 (t : Int) ∧ RowW wr w.heap.size 5 1 (.slice (some ⟨G, 0, none⟩) 12 C) 12 (vb (nonceTo q.b n t)) ∧ Below w.heap.size w wr)
    (fun i _ => 8 - (intOf i).toNat)
  case atStart => exact ⟨0, Nat.zero_le _, rfl, R1.out, B1.out⟩
  case round =>
    obtain ⟨t, ht, rfl, hr, hbel⟩ := hrel
    have HR := veil hr
    have HB := veil hbel
    clear hr hbel
    by_cases hlt : t < 8
    · have hc : wr.cell? ⟨G, 11 - t, none⟩ = some (.int .u8 (v8 (gb (nonceTo q.b n t) (11 - t)))) := (HR.out.cellAt (11 - t) (by omega)).trans (vb_get _ _ (by rw [nonceTo_length]; omega))
      rw [nonceTo_get _ _ _ _ (by omega), if_neg (by omega)] at hc
      have hf := HR.out.frozenAt (11 - t)
      obtain ⟨J, hJ⟩ : ∃ J : Nat, 11 - t = J := ⟨_, rfl⟩
      have hsub : (11 : Int) - (t : Int) = (J : Int) := by omega
      rw [hJ] at hc hf
      have hJ12 : J < 12 := by omega
      have hx := b8x (gb q.b J) (nb8 n t)
      obtain ⟨T8, hT8⟩ : ∃ T8 : Nat, 8 * t = T8 := ⟨_, rfl⟩
      have hmul : (8 : Int) * (t : Int) = (T8 : Int) := by omega
      have hT64 : T8 < 64 := by omega
      have hshr := nb8_shr n t
      rw [hT8] at hshr
      have HJ := veil hJ
      clear hJ hT8
      go_wp2_with fail
      go_region
      have hr2 : RowW (wr.setCell ⟨G, J, none⟩ (.int .u8 (v8 (gb q.b J ^^^ nb8 n t)))).drew w.heap.size 5 1 (.slice (some ⟨G, 0, none⟩) 12 C) 12 (vb (nonceTo q.b n (t + 1))) := by
        have := (HR.out.stored J (.int .u8 (v8 (gb q.b J ^^^ nb8 n t)))).1
        rw [kyVb_set] at this
        have e := nonceTo_set q.b n t (by omega)
        rw [HJ.out] at e
        rw [e] at this
        exact this.drew
      have b3 : Below w.heap.size w (wr.setCell ⟨G, J, none⟩ (.int .u8 (v8 (gb q.b J ^^^ nb8 n t)))).drew := (HB.out.setCell (p := ⟨G, J, none⟩) HG2.out _).drew
      have HR2 := veil hr2
      have HB3 := veil b3
      clear hr2 b3 hc hf hshr hx
      go_wp2_with fail
      go_roundw
      case rel => exact ⟨t + 1, by omega, by go_num, HR2.out, HB3.out⟩
      case measure => simp [intOf]; omega
    · obtain rfl : t = 8 := by omega
      have ok := sl_of_wide HR.out
      have OK := veil ok
      clear hlt ht ok
      go_wp2_with fail
      go_ret2
      exact ⟨_, rfl, OK.out, rfl, HB.out⟩

end Go.Proofs.YtbheoldakmcppaaGreatDoor

/-! What the document's Mask answers. -/
namespace Go.Proofs.YtbheoldakmcppaaGreatDoor
open Go Go.RowKit

theorem step_copy {P : Program} {ops : Array Oper} {o : Oper} {a : Act} {w : World} {K : Act → World → Prop} {Q : Exit → Act → World → Prop} {E : Prop} (hw : Region.wanted o (yielded ops a.tmps) = true) (s x : Operand) (t1 t2 : TypeId) (ho : o.op = .call { callee := .builtin .copy, args := #[s, x], argTypes := #[t1, t2] }) (vs vx : Value) (hs : a.eval s = vs) (hx : a.eval x = vx)
    (v : Value) (w' : World) (hr : (Builtin.copy_ #[t1, t2] o.type #[vs, vx]).run P w = .ok v w') (h : K (a.put o.dst v) w') : if Region.wanted o (yielded ops a.tmps) = true then Oper.wp P o a w K Q else E := by
  rw [if_pos hw]
  unfold Oper.wp
  rw [exec_copy s x t1 t2 ho vs vx hs hx v w' hr]
  exact h

set_option maxRecDepth 20000 in
set_option maxHeartbeats 2000000 in
theorem refMask_new (k s : SL) (w : World) (hk : k.Ok w) (hs : s.Ok w) (hkl : k.len = 32) (hsl : s.len = 16) :
    Calls Tryz.prog 84 #[.slice k.a k.len k.cap, .slice s.a s.len s.cap] w fun e w' => ∃ z : SL, e = .returned (.tuple #[.slice z.a z.len z.cap, .int .i64 0]) ∧ z.Ok w' ∧ z.b = maskL k.b s.b ∧ w.heap.size ≤ z.g ∧ Below w.heap.size w w' := by
  obtain ⟨i0, hi, hz0, hz1, hz2⟩ := info_parts Tryz.infoByteS
  obtain ⟨w0, hw0⟩ : ∃ w0, w0 = (w.alloc (.cells (bs (List.replicate 32 0)) 78)).alloc (.cells (bs (List.replicate 12 0)) 76) := ⟨_, rfl⟩
  have b0 : Below w.heap.size w w0 := by rw [hw0]; exact ((Below.refl _ w).alloc (Nat.le_refl _) _).alloc (by simp) _
  have p0 : Row w0 w.heap.size 78 (bs (List.replicate 32 0)) := by rw [hw0]; exact (Row.new _ _ _).alloc _
  have p1 : Row w0 (w.heap.size + 1) 76 (bs (List.replicate 12 0)) := by rw [hw0]; exact Row.new1 _ _ _ _
  obtain ⟨w2, hc2, rk, hk2⟩ := copy_sl w0 w.heap.size _ (List.replicate 32 0) 32 k p0 rfl (hk.below b0) (by omega)
  have hb32 : k.b.length = 32 := by rw [hk.hb, hkl]
  have hb16 : s.b.length = 16 := by rw [hs.hb, hsl]
  rw [hkl, List.drop_replicate, show 32 - 32 = 0 by rfl, List.replicate_zero, List.append_nil] at rk
  have m1 := hk2.row p1 (by omega)
  have hs0 := b0.size
  have b2 := b0.trans (hk2.below (B := w.heap.size) (by omega) (by omega))
  have s2 := hs.below b2
  obtain ⟨d, hdut, ⟨hdl, hdb⟩, hdok, _⟩ := cut_lo s w hs 4 (by omega)
  have hd12 : d.b.length = 12 := by rw [hdb, List.length_drop, hb16]
  have hdl12 : d.len = 12 := by omega
  obtain ⟨w3, hc3, rn, hk3⟩ := copy_sl w2.drew (w.heap.size + 1) _ (List.replicate 12 0) 12 d m1.drew rfl ((hdok _ s2).below ((Below.refl _ _).drew)) (by omega)
  rw [hdl12, List.drop_replicate, show 12 - 12 = 0 by rfl, List.replicate_zero, List.append_nil] at rn
  have rk3 := hk3.row rk.drew (by omega)
  have b3 := b2.drew.trans (hk3.below (B := w.heap.size) (by omega) (by have := b2.size; simp; omega))
  have hne : ((k.len : Int) != 32) = false := by rw [hkl]; rfl
  have hne2 : ((s.len : Int) != 16) = false := by rw [hsl]; rfl
  have hkz : (bs k.b).size = 32 := by rw [bs_size, hb32]
  have hdz : (bs d.b).size = 12 := by rw [bs_size, hd12]
  have s3 := hs.below b3
  have ha := s3.at_ (by omega)
  have x0 := s3.cell 0 (by omega)
  have x1 := s3.cell 1 (by omega)
  have x2 := s3.cell 2 (by omega)
  have x3 := s3.cell 3 (by omega)
  rw [v8_ex, Nat.add_zero] at x0
  rw [v8_ex] at x1 x2 x3
  have hcnt : countL s.b = oo (oo (oo (ex (gb s.b 0)) (sl (ex (gb s.b 1)) 8)) (sl (ex (gb s.b 2)) 16)) (sl (ex (gb s.b 3)) 24) := rfl
  have HMS : Hid (maskL k.b s.b = (blockL k.b (countL s.b) d.b).take 5) := show _ = _ by unfold maskL; rw [hdb]
  have HBL := veil (chaRefBlock_any k.b (countL s.b) d.b hb32 hd12)
  rw [hcnt] at HMS HBL
  generalize ex (gb s.b 0) = y0 at *
  generalize ex (gb s.b 1) = y1 at *
  generalize ex (gb s.b 2) = y2 at *
  generalize ex (gb s.b 3) = y3 at *
  have u0 := u_nn y0
  have u1 := u_nn y1
  have u2 := u_nn y2
  have u3 := u_nn y3
  have v0 := u_le y0
  have v1 := u_le y1
  have v2 := u_le y2
  have v3 := u_le y3
  have q1 : u y1 * 256 % 4294967296 = u (sl y1 8) := wsl y1 8
  have q2 : u y2 * 65536 % 4294967296 = u (sl y2 16) := wsl y2 16
  have q3 : u y3 * 16777216 % 4294967296 = u (sl y3 24) := wsl y3 24
  have o1 := bo y0 (sl y1 8)
  have o2 := bo (oo y0 (sl y1 8)) (sl y2 16)
  have o3 := bo (oo (oo y0 (sl y1 8)) (sl y2 16)) (sl y3 24)
  obtain ⟨CN, hCN⟩ : ∃ C, oo (oo (oo y0 (sl y1 8)) (sl y2 16)) (sl y3 24) = C := ⟨_, rfl⟩
  rw [hCN] at o3 HMS HBL
  have hbl := blockL_length k.b CN d.b
  obtain ⟨B, hB⟩ : ∃ B, blockL k.b CN d.b = B := ⟨_, rfl⟩
  rw [hB] at hbl HMS HBL
  have hbz : (bs B).size = 64 := by rw [bs_size, hbl]
  rw [hw0] at hc2
  rw [hdl12] at hc3
  rw [hdl12] at hdut
  have RK3 := veil rk3
  have RN := veil rn
  have B3 := veil b3
  have HBZ := veil hbz
  have HBLL := veil hbl
  have HM := veil HMS.out
  clear hw0 b0 p0 p1 m1 hs0 b2 s2 hdok hdb hdl hd12 rk rn hk2 hk3 rk3 b3 hk hs hkl hsl hb32 hb16 s3 hcnt HMS hCN hB hbl hbz hdl12
  have hL0 : (0 : Int) < (s.len : Int) := by simp at hne2; omega
  have hL1 : (1 : Int) < (s.len : Int) := by simp at hne2; omega
  have hL2 : (2 : Int) < (s.len : Int) := by simp at hne2; omega
  have hL3 : (3 : Int) < (s.len : Int) := by simp at hne2; omega
  rw [ha] at hdut ⊢
  replace hdut : ∀ W, (Instr.sliceAt 22 (.slice (some ⟨s.g, s.off, none⟩) s.len s.cap) (some (.int .i64 4)) none none).run Tryz.prog W = .ok (.slice d.a 12 d.cap) W := hdut
  clear ha
  go_enter Tryz.func84, Tryz.ntmps84
  go_wp2_with (first
    | (with_reducible (show wpList _ _ _ (⟨_, Op.alloc 78, _, _, _, _⟩ :: _) _ _)
       refine alloc_row rfl 78 rfl (bs (List.replicate 32 0)) (by kernel_rfl) ?_)
    | (with_reducible (show wpList _ _ _ (⟨_, Op.alloc 76, _, _, _, _⟩ :: _) _ _)
       refine alloc_row rfl 76 rfl (bs (List.replicate 12 0)) (by kernel_rfl) ?_)
    | (with_reducible (show wpList _ _ _ (⟨some 20, Op.call _, _, _, _, _⟩ :: _) _ _)
       refine wpList_copy rfl _ _ _ _ rfl _ _ rfl rfl _ w2 hc2 ?_))
  simp only [Act.put, List.setIfInBounds_toArray, List.set_cons_succ, List.set_cons_zero]
  go_region_held3 (fun _ => True) (trivial) (first
    | (refine step_copy (by kernel_rfl) _ _ _ _ rfl _ _ (by kernel_rfl) (by kernel_rfl) _ w3 hc3 ?_))
  go_wp2_with fail
  go_quiet (fail)
  go_wp2_with (first
    | (with_reducible (show wpList _ _ _ (⟨_, Op.load 78 _, _, _, _, _⟩ :: _) _ _)
       refine load_row rfl 78 _ rfl w.heap.size rfl _ _ RK3.out 32 5 Tryz.underlying78 (by kernel_rfl) hkz ?_)
    | (with_reducible (show wpList _ _ _ (⟨_, Op.load 76 _, _, _, _, _⟩ :: _) _ _)
       refine load_row rfl 76 _ rfl (w.heap.size + 1) rfl _ _ RN.out 12 5 Tryz.underlying76 (by kernel_rfl) hdz ?_))
  refine (HBL.out (w3.drewN nq)).mono ?_
  rintro e4 w4 ⟨rfl, hb4⟩
  have B4 := veil ((below_drewN B3.out nq).trans (hb4.mono B3.out.size))
  have qB : (⟨some ⟨w4.heap.size, 0, none⟩, 5, 64, w4.heap.size, 0, B.take 5⟩ : SL).Ok (w4.alloc (.cells (bs B) 187)) := by
    have h := rowN_ok (n := 64) (Row.new w4 187 (bs B)) HBLL.out
    refine ⟨by show (B.take 5).length = 5; rw [List.length_take, HBLL.out]; rfl, (show 5 ≤ 64 by decide), (fun e => by cases e), fun _ => rfl, fun _ => h.lt (by show 0 < 64; decide), fun j hj => ?_⟩
    have hj' : j < 5 := hj
    have := h.cell j (by show j < 64; omega)
    refine this.trans ?_
    show some (Value.int .u8 (v8 (gb B j))) = some (.int .u8 (v8 (gb (B.take 5) j)))
    unfold gb
    rw [List.getElem?_take, if_pos hj']
  have QB := veil qB
  have B5 := veil (B4.out.alloc B4.out.size (.cells (bs B) 187))
  clear hb4 qB x0 x1 x2 x3 q1 q2 q3 o1 o2 o3
  go_wp2_with (first
    | (with_reducible (show wpList _ _ _ (⟨_, Op.alloc 187, _, _, _, _⟩ :: _) _ _)
       refine alloc_row rfl 187 rfl (bs Z64) (by kernel_rfl) ?_)
    | (with_reducible (show wpList _ _ _ (⟨_, Op.store 187 _ _, _, _, _, _⟩ :: _) _ _)
       refine store_new (w := w4) (by rfl) 187 _ _ (by rfl) w4.heap.size (bs B) (by rfl) (by rfl) 187 (bs Z64) (by rfl) 64 (by kernel_rfl) (by rfl) HBZ.out (bs_one _) ?_)
    | (with_reducible (show wpList _ _ _ (⟨some 52, Op.call _, _, _, _, _⟩ :: _) _ _); refine Hid.out ?_))
  refine show wpList _ _ _ _ _ _ from ?_
  generalize w4.alloc (.cells (bs B) 187) = W5 at *
  refine append_sl rfl _ _ 22 rfl w.heap.size i0 Tryz.underlying22 hi hz0 hz1 hz2 (.slice none 0 0) 0 [] rfl (World.ownsRow_nil _ _ _ _) _ QB.out rfl (by show 0 + 5 ≤ 8388608; decide) B5.out.size ?_
  intro v6 w6 ho6 hg6
  have hb6 : Below w.heap.size w w6 := B5.out.grown hg6 B5.out.size (fun k e => by cases e)
  obtain ⟨p, hpv, hpl, hpb, hpo, hpg⟩ := SL.of_own ho6
  obtain rfl : Value.slice p.a p.len p.cap = v6 := hpv
  have HPG := veil (hpg (show 0 < 0 + 5 by decide))
  have HP := veil hpo
  have HPB := veil (show p.b = maskL k.b s.b by rw [hpb, HM.out]; rfl)
  have HB6 := veil hb6
  clear ho6 hg6 hb6 hpl hpb hpo hpg
  go_wp2_with fail
  go_ret2
  exact ⟨p, rfl, HP.out, HPB.out, HPG.out, HB6.out⟩
end Go.Proofs.YtbheoldakmcppaaGreatDoor
