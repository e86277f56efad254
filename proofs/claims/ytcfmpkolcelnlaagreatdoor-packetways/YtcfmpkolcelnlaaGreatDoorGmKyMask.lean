/-
  What keys.countOf and keys.Mask answer.
-/
import Derived.Test.YtcfmpkolcelnlaaGreatDoorGm11
import Derived.Test.YtcfmpkolcelnlaaGreatDoorGmChaBlock
import Derived.Test.YtcfmpkolcelnlaaGreatDoorGm5
namespace Go.Proofs.YtcfmpkolcelnlaaGreatDoor
open Go Go.RowKit

set_option maxRecDepth 20000 in
set_option maxHeartbeats 1000000 in
theorem countOf_any (q : SL) (w : World) (hq : q.Ok w) (hl : q.len = 4) :
    Calls Tryz.prog 148 #[.slice q.a q.len q.cap] w fun e w' => e = .returned (.int .u32 (u (countL q.b))) ∧ w' = w := by
  have ha := hq.at_ (by omega)
  have hc := hq.cell
  rw [ha, hl]
  rw [hl] at hc
  have HC := veil hc
  clear hq hl ha hc
  generalize q.g = g at *
  generalize q.off = o at *
  generalize q.b = b at *
  generalize q.cap = cp at *
  clear q
  go_enter Tryz.func148, Tryz.ntmps148
  go_wp2_with fail
  go_loopw [3, 8] (fun v i wr => ∃ j : Nat, j ≤ 4 ∧ i = .int .i64 j ∧ v = .int .u32 (u (wordTo b 0 j)) ∧ wr = w) (fun _ i _ => 4 - (intOf i).toNat)
  case atStart => exact ⟨0, by omega, rfl, rfl, rfl⟩
  case round =>
    obtain ⟨j, hj, rfl, rfl, rfl⟩ := hrel
    by_cases hlt : j < 4
    · have c0 := HC.out j hlt
      rw [v8_ex] at c0
      have HE : Hid (wordTo b 0 (j + 1) = oo (wordTo b 0 j) (sl (ex (gb b j)) (8 * j))) := by
        have : wordTo b 0 (j + 1) = oo (wordTo b 0 j) (sl (ex (gb b (4 * 0 + j))) (8 * j)) := rfl
        rw [Nat.mul_zero, Nat.zero_add] at this
        exact this
      have u0 := u_nn (ex (gb b j))
      have u1 := u_le (ex (gb b j))
      generalize ex (gb b j) = x at *
      have hs := wsl x (8 * j)
      have ho := bo (wordTo b 0 j) (sl x (8 * j))
      generalize wordTo b 0 j = y at *
      have q1 : (8 * (j : Int)).toNat = 8 * j := by omega
      go_wp2_with fail
      go_roundw
      case rel => exact ⟨j + 1, by omega, by go_num, by rw [HE.out], trivial⟩
      case measure => simp [intOf]; omega
    · have HE : Hid (j = 4) := show j = 4 by omega
      have hd : decide ((j : Int) < 4) = false := by simp; omega
      go_wp2_with fail
      go_ret
      exact ⟨by rw [HE.out, wordTo_all]; rfl, rfl⟩

section
variable {F : Fence} {n : Nat} {P : Program} {ops : Array Oper} {rest : List Oper} {o : Oper} {a : Act} {w : World} {Q : Exit → Act → World → Prop}
theorem copyIn (hgd : o.guard = none) (s x : Operand) (t1 t2 : TypeId) (ho : o.op = .call { callee := .builtin .copy, args := #[s, x], argTypes := #[t1, t2] }) (vs vx : Value) (hs : a.eval s = vs) (hx : a.eval x = vx)
    (v : Value) (w' : World) (hr : (Builtin.copy_ #[t1, t2] o.type #[vs, vx]).run P w = .ok v w') (h : wpListIn F n P ops Q rest (a.put o.dst v) w') : wpListIn F n P ops Q (o :: rest) a w :=
  wpListIn_plain hgd fun _ hK => ⟨(fun f hf => by rw [about_builtin _ _ _ ho] at hf; cases hf), (by rw [Oper.semAt_eq _ _ _ (by simp [ho]), exec_copy s x t1 t2 ho vs vx hs hx v w' hr]; exact hK _ _ h)⟩
theorem run_sliceOp (t : TypeId) (x : Operand) (lo hi mx : Option Operand) (ho : o.op = .slice t x lo hi mx) (vx : Value) (vl vh vm : Option Value) (hx : a.eval x = vx) (hl : lo.map a.eval = vl) (hh : hi.map a.eval = vh) (hm : mx.map a.eval = vm) (v : Value) (W : World)
    (hr : (Instr.sliceAt t vx vl vh vm).run P W = .ok v W) : (execOp a.eval o).run P W = .ok (.value v) W := by
  subst hx hl hh hm
  unfold execOp
  simp only [ho]
  rw [Sem.run_bind, hr]
  rfl
end
def Z64 : List By := List.replicate 64 0
def depM : Nat → List Nat
  | 2 => [1]
  | 3 => [2]
  | 5 => [4]
  | 6 => [5, 3]
  | 7 => [0, 3, 6]
  | 9 => [0, 1, 2, 3, 4, 5, 6, 7, 8]
  | _ => []
def valM (k s c d : SL) (B : List By) (S : Nat) : Nat → World → Value → Prop
  | 0, _, v => v = .agg (bs k.b)
  | 1, _, v => v = .slice s.a s.len s.cap
  | 2, _, v => v = .slice c.a c.len c.cap
  | 3, _, v => v = .int .u32 (u (countL c.b))
  | 4, _, v => v = .slice s.a s.len s.cap
  | 5, _, v => v = .slice d.a d.len d.cap
  | 6, _, v => v = .agg (bs d.b)
  | 7, _, v => v = .agg (bs B)
  | 8, W, v => ∃ g, v = .pointer (some ⟨g, 0, none⟩) ∧ S ≤ g ∧ Row W g 216 (bs Z64)
  | _, _, _ => True
theorem valM_mono {k s c d : SL} {B : List By} {S : Nat} : ∀ (j : Nat) (W W' : World) (v : Value), Below W.heap.size W W' → valM k s c d B S j W v → valM k s c d B S j W' v
  | 0, _, _, _, _, h => h
  | 1, _, _, _, _, h => h
  | 2, _, _, _, _, h => h
  | 3, _, _, _, _, h => h
  | 4, _, _, _, _, h => h
  | 5, _, _, _, _, h => h
  | 6, _, _, _, _, h => h
  | 7, _, _, _, _, h => h
  | 8, _, _, _, hb, ⟨g, h1, h2, h3⟩ => ⟨g, h1, h2, h3.below hb h3.lt⟩
  | _ + 9, _, _, _, _, _ => trivial

set_option maxRecDepth 20000 in
set_option maxHeartbeats 2000000 in
theorem mask_any (k s : SL) (w : World) (hg : Glob w) (hk : k.Ok w) (hs : s.Ok w) (hkl : k.len = 32) (hsl : s.len = 16) :
    Calls Tryz.prog 100 #[.slice k.a k.len k.cap, .slice s.a s.len s.cap] w fun e w' => ∃ g, e = .returned (.tuple #[.slice (some ⟨g, 0, none⟩) 5 5, .int .i64 0]) ∧ w.heap.size ≤ g ∧ Row w' g 216 (bs (blockL k.b (countL s.b) (s.b.drop 4))) ∧ Below w.heap.size w w' := by
  obtain ⟨w0, hw0⟩ : ∃ w0, w0 = w.alloc (.cells (bs (List.replicate 32 0)) 112) := ⟨_, rfl⟩
  have b0 : Below w.heap.size w w0 := by rw [hw0]; exact (Below.refl _ w).alloc (Nat.le_refl _) _
  have p0 : Row w0 w.heap.size 112 (bs (List.replicate 32 0)) := by rw [hw0]; exact Row.new _ _ _
  obtain ⟨w2, hc2, rk, hk2⟩ := copy_sl w0 w.heap.size _ (List.replicate 32 0) 32 k p0 rfl (hk.below b0) (by omega)
  have hb32 : k.b.length = 32 := by rw [hk.hb, hkl]
  have hb16 : s.b.length = 16 := by rw [hs.hb, hsl]
  rw [hkl, List.drop_replicate, show 32 - 32 = 0 by rfl, List.replicate_zero, List.append_nil] at rk
  have b2 := b0.trans (hk2.below (B := w.heap.size) (by omega) (by have := b0.size; omega))
  have hne : ((k.len : Int) != 32) = false := by rw [hkl]; rfl
  have hne2 : ((s.len : Int) != 16) = false := by rw [hsl]; rfl
  have hs2 := b2.size
  obtain ⟨c, hcut, ⟨hcl, hcb⟩, hcok, _⟩ := cut_tight s w hs 4 (by decide) (by omega)
  obtain ⟨d, hdut, ⟨hdl, hdb⟩, hdok, _⟩ := cut_lo s w hs 4 (by omega)
  have hcnt : countL s.b = countL c.b := by
    rw [hcb]
    unfold countL wordLE gb
    simp only [List.getElem?_take]
    rfl
  rw [hcnt, ← hdb]
  have hd12 : d.b.length = 12 := by rw [hdb, List.length_drop, hb16]
  have hkz : (bs k.b).size = 32 := by rw [bs_size, hb32]
  have hbl := blockL_length k.b (countL c.b) d.b
  have HBL := veil (block_any k.b (countL c.b) d.b hb32 hd12)
  obtain ⟨B, hB⟩ : ∃ B, blockL k.b (countL c.b) d.b = B := ⟨_, rfl⟩
  rw [hB] at hbl HBL ⊢
  have hbz : (bs B).size = 64 := by rw [bs_size, hbl]
  rw [hw0] at hc2
  have HC := veil (hcok _ (hs.below b2))
  have HD := veil (hdok _ (hs.below b2))
  have HG := veil (hg.below b2 (Nat.le_refl _))
  have HCL := veil hcl
  have HDL := veil (show d.len = 12 by omega)
  have HCU := veil hcut
  have HDU := veil hdut
  have RK := veil rk
  have B2 := veil b2
  have HS2 := veil hs2
  have HBZ := veil hbz
  clear hw0 b0 p0 hk2 rk b2 hkl hk hs hg hsl hs2 hcl hdl hcb hdb hcnt hB hbl hb32 hb16 hd12 hcut hdut hcok hdok hbz
  refine (callsIn_wide (n := 4)).1 ?_
  refine callsIn_of_wp Tryz.func100 rfl trivial ?_ rfl
  simp only [Tryz.ntmps100, List.size_toArray, List.length_cons, List.length_nil, Nat.reduceAdd, Nat.reduceSub, Array.replicate_succ, Array.replicate_zero, List.push_toArray, List.append_toArray, List.nil_append, List.cons_append]
  gi_wp2_with (first
    | (with_reducible (show wpListIn _ _ _ _ _ (⟨_, Op.alloc 112, _, _, _, _⟩ :: _) _ _)
       refine alloc_rowIn rfl 112 rfl (bs (List.replicate 32 0)) (by kernel_rfl) ?_)
    | (with_reducible (show wpListIn _ _ _ _ _ (⟨some 18, Op.call _, _, _, _, _⟩ :: _) _ _)
       refine copyIn rfl _ _ _ _ rfl _ _ rfl rfl _ w2 hc2 ?_))
  simp only [Act.put, List.setIfInBounds_toArray, List.set_cons_succ, List.set_cons_zero]
  refine wpIn_region_any (by kernel_rfl) ?_
  refine anyIn_store (w0 := w2) (valM k s c d B w2.heap.size) valM_mono [19, 20, 21, 22, 23, 24, 25, 26, 7] depM (by kernel_rfl) rfl (by decide) (by intro j hj; have : j < 9 := hj; simp [depM]; omega) (by kernel_rfl) ((Below.refl _ _).drew)
    (fun x U => ∃ g, x 8 = .pointer (some ⟨g, 0, none⟩) ∧ Below w.heap.size w U ∧ w.heap.size ≤ g ∧ Row U g 216 (bs B)) ?step ?last ?done
  case step =>
    intro x W i e hW hdi hdep
    match i, hdi, hdep with
    | 0, hdi, _ =>
      obtain rfl := Option.some.inj hdi
      exact OI_value rfl rfl (about_none (by intro c h; cases h)) (by intro c h; cases h) (.agg (bs k.b)) W (run_load_row 112 _ rfl w.heap.size (by kernel_rfl) _ _ 32 5 Tryz.underlying112 (by kernel_rfl) hkz W (RK.out.below hW RK.out.lt)) ⟨_, rfl, Below.refl _ _, rfl⟩
    | 1, hdi, _ =>
      obtain rfl := Option.some.inj hdi
      exact OI_value rfl rfl (about_none (by intro c h; cases h)) (by intro c h; cases h) (.slice s.a s.len s.cap) W (by kernel_rfl) ⟨_, rfl, Below.refl _ _, rfl⟩
    | 2, hdi, hdep =>
      obtain rfl := Option.some.inj hdi
      rw [updV_self (show x 1 = _ from hdep 1 (by simp [depM]))]
      exact OI_value rfl rfl (about_none (by intro c h; cases h)) (by intro c h; cases h) (.slice c.a c.len c.cap) W (run_sliceOp _ _ _ _ _ rfl _ _ _ _ (by kernel_rfl) (by kernel_rfl) (by kernel_rfl) (by kernel_rfl) _ W (HCU.out W)) ⟨_, rfl, Below.refl _ _, rfl⟩
    | 3, hdi, hdep =>
      obtain rfl := Option.some.inj hdi
      rw [updV_self (show x 2 = _ from hdep 2 (by simp [depM]))]
      refine OI_call rfl rfl (by intro c h; cases h) 148 #[.slice c.a c.len c.cap] (fun _ _ => trivial) (by kernel_rfl) (by decide) ?_
      refine (callsIn_wide.2 (countOf_any c W (HC.out.below hW) HCL.out)).mono ?_
      rintro e w' ⟨rfl, hw'⟩
      exact ⟨_, rfl, _, rfl, by rw [hw']; exact Below.refl _ _, rfl⟩
    | 4, hdi, _ =>
      obtain rfl := Option.some.inj hdi
      exact OI_value rfl rfl (about_none (by intro c h; cases h)) (by intro c h; cases h) (.slice s.a s.len s.cap) W (by kernel_rfl) ⟨_, rfl, Below.refl _ _, rfl⟩
    | 5, hdi, hdep =>
      obtain rfl := Option.some.inj hdi
      rw [updV_self (show x 4 = _ from hdep 4 (by simp [depM]))]
      exact OI_value rfl rfl (about_none (by intro c h; cases h)) (by intro c h; cases h) (.slice d.a d.len d.cap) W (run_sliceOp _ _ _ _ _ rfl _ _ _ _ (by kernel_rfl) (by kernel_rfl) (by kernel_rfl) (by kernel_rfl) _ W (HDU.out W)) ⟨_, rfl, Below.refl _ _, rfl⟩
    | 6, hdi, hdep =>
      obtain rfl := Option.some.inj hdi
      rw [updV_self (show x 5 = _ from hdep 5 (by simp [depM]))]
      refine OI_call rfl rfl (by intro c h; cases h) 96 #[.slice d.a d.len d.cap] (fun _ _ => trivial) (by kernel_rfl) (by decide) ?_
      refine (callsIn_wide.2 (nonceOf_any d W (HD.out.below hW) HDL.out)).mono ?_
      rintro e w' ⟨rfl, hb'⟩
      exact ⟨_, rfl, _, rfl, hb', rfl⟩
    | 7, hdi, hdep =>
      obtain rfl := Option.some.inj hdi
      have e0 : x 0 = .agg (bs k.b) := hdep 0 (by simp [depM])
      have e3 : x 3 = .int .u32 (u (countL c.b)) := hdep 3 (by simp [depM])
      have e6 : x 6 = .agg (bs d.b) := hdep 6 (by simp [depM])
      rw [updV_self e0, updV_self (show updV x 0 _ 3 = _ from e3), updV_self (show updV (updV x 0 _) 3 _ 6 = _ from e6)]
      refine OI_call rfl rfl (by intro c h; cases h) 145 #[.agg (bs k.b), .int .u32 (u (countL c.b)), .agg (bs d.b)] (fun _ _ => trivial) (by kernel_rfl) (by decide) ?_
      refine (callsIn_wide.2 (HBL.out W (HG.out.below hW (Nat.le_refl _)))).mono ?_
      rintro e w' ⟨rfl, hb'⟩
      exact ⟨_, rfl, _, rfl, hb', rfl⟩
    | 8, hdi, _ =>
      obtain rfl := Option.some.inj hdi
      refine OI_value rfl rfl (about_none (by intro c h; cases h)) (by intro c h; cases h) (.pointer (some ⟨W.heap.size, 0, none⟩)) (W.alloc (.cells (bs Z64) 216)) (exec_alloc_row 216 rfl (bs Z64) (by kernel_rfl)) ?_
      exact ⟨_, rfl, (Below.refl _ W).alloc (Nat.le_refl _) _, ⟨_, rfl, hW.size, Row.new _ _ _⟩⟩
    | _ + 9, hdi, _ => simp at hdi
  case last =>
    intro x U hU hx
    obtain ⟨g, e8, hgl, rU⟩ := hx 8 (by decide)
    have e7 : x 7 = .agg (bs B) := hx 7 (by decide)
    rw [updV_self e7, updV_self (show updV x 7 _ 8 = _ from e8)]
    refine OI_skip rfl rfl (about_none (by intro c h; cases h)) (by intro c h; cases h) (U.setRow g (bs B)) (run_store_row 216 _ _ rfl g (bs B) (by kernel_rfl) (by kernel_rfl) _ _ rU 64 (by kernel_rfl) (by rfl) HBZ.out (bs_one _)) ?_
    have hgw : w.heap.size ≤ g := Nat.le_trans HS2.out hgl
    exact ⟨by kernel_rfl, g, rfl, bSetRow (B2.out.trans (hU.mono HS2.out)) hgw _, hgw, rU.put _⟩
  case done =>
    rintro x U ⟨g, e8, bU, hgw, rU⟩
    simp only [putsV, Act.put, List.setIfInBounds_toArray, List.set_cons_succ, List.set_cons_zero, Nat.reduceAdd, e8]
    generalize x 0 = x0
    generalize x 1 = x1
    generalize x 2 = x2
    generalize x 3 = x3
    generalize x 4 = x4
    generalize x 5 = x5
    generalize x 6 = x6
    generalize x 7 = x7
    have RU := veil rU
    have BU := veil bU
    clear rU bU e8
    gi_wp2_with fail
    exact bodyPost_ret (v := .tuple #[.slice (some ⟨g, 0, none⟩) 5 5, .int .i64 0]) (by simp [results, Tryz.results100, go_sem]) rfl ⟨g, rfl, hgw, RU.out, BU.out⟩

end Go.Proofs.YtcfmpkolcelnlaaGreatDoor
