/-
  AeadTag's walk.
-/
import Derived.Test.YtffokggejbmadaaDoorGdAeBackW
import Derived.Test.YtffokggejbmadaaDoorGdAeRun
namespace Go.Proofs.YtffokggejbmadaaDoor
open Go Go.RowKit

theorem value_GIn {F : Fence} {n : Nat} {P : Program} {ops : Array Oper} {rest : List Oper} {o : Oper} {a : Act} {w : World} {Q : Exit → Act → World → Prop} (hgd : Region.wanted o (yielded ops a.tmps) = true) (hc : ∀ c, o.op ≠ .call c) (hd : ∀ c, o.op ≠ .defer c) (v : Value) (he : (execOp a.eval o).run P w = .ok (.value v) w)
    (h : wpListIn F n P ops Q rest (a.put o.dst v) w) : wpListIn F n P ops Q (o :: rest) a w :=
  wpListIn_step fun K hK => by
    simp only [hgd, if_true]
    exact ⟨(fun f hf => by rw [about_none hc] at hf; cases hf), (by rw [Oper.semAt_eq _ _ _ hd, he]; exact hK _ _ h)⟩
/-- Another byte in the tag. -/
theorem open_changed (k n p b : List By) (h1 : k.length = 32 ∧ n.length = 12) (h2 : p.length ≤ 1048576 ∧ b.length ≤ 1048576) (r : Nat) (hr : r < 16) (t : By) (ht : t ≠ 0) :
    openE k n ((sealL k n p b).set (p.length + 15 - r) (xb (gb (sealL k n p b) (p.length + 15 - r)) t)) b = 11 ∧ openO k n ((sealL k n p b).set (p.length + 15 - r) (xb (gb (sealL k n p b) (p.length + 15 - r)) t)) b = [] := by
  have hl := sealL_length k n p b
  have hh := hid_seal k n p b
  have hg := tagO_seal k n p b
  generalize sealL k n p b = s at *
  have hl' : (s.set (p.length + 15 - r) (xb (gb s (p.length + 15 - r)) t)).length = p.length + 16 := by rw [List.length_set, hl]
  refine open_tag h1 (by rw [hl']; omega) (by rw [hl']; omega) ?_
  have e1 : hidO (s.set (p.length + 15 - r) (xb (gb s (p.length + 15 - r)) t)) = hidO s := by
    unfold hidO
    rw [List.length_set, hl, Nat.add_sub_cancel, List.take_set, List.set_eq_of_length_le (by rw [List.length_take]; omega)]
  rw [e1, hh, ← hg]
  intro e
  apply ht
  unfold tagO at e
  rw [List.length_set, hl, Nat.add_sub_cancel] at e
  have e2 := congrArg (fun l => gb l (15 - r)) e
  simp only [gb, List.getElem?_drop] at e2
  rw [show p.length + (15 - r) = p.length + 15 - r by omega, List.getElem?_set_self (by omega), List.getElem?_eq_getElem (by omega)] at e2
  simp only [Option.getD_some] at e2
  unfold xb at e2
  have e3 := congrArg (fun z => s[p.length + 15 - r]'(by omega) ^^^ z) e2
  simpa [← BitVec.xor_assoc] using e3

theorem own_frozen {w : World} {base g n c : Nat} {xs : List Value} (h : w.ownsRow base 5 1 (.slice (some ⟨g, 0, none⟩) n c) n xs) (j : Nat) : w.frozen? ⟨g, j, none⟩ = false := by
  rcases h.2 with ⟨e, _⟩ | ⟨g', cap, cur, e, _, hh, _⟩
  · cases e
  · simp only [Value.slice.injEq, Option.some.injEq, Addr.mk.injEq, and_true] at e
    rw [e.1]
    simp [World.frozen?, hh]
theorem SL.Ok.setCell {W : World} {g n c : Nat} {s : List By} (h : (SL.mk (some ⟨g, 0, none⟩) n c g 0 s).Ok W) (kk : Nat) (hk : kk < n) (x : By) : (SL.mk (some ⟨g, 0, none⟩) n c g 0 (s.set kk x)).Ok (W.setCell ⟨g, kk, none⟩ (.int .u8 (v8 x))) := by
  have hb : s.length = n := h.hb
  have h0 : 0 < n := by omega
  refine ⟨by show (s.set kk x).length = n; rw [List.length_set, hb], h.hcap, h.nil, h.at_, fun _ => ?_, fun j hj => ?_⟩
  · have := h.lt h0
    simpa using this
  · have hj' : j < n := hj
    show (W.setCell ⟨g, kk, none⟩ _).cell? ⟨g, 0 + j, none⟩ = some (.int .u8 (v8 (gb (s.set kk x) j)))
    rw [gb_set _ (by omega)]
    have hc := h.cell j hj
    rw [show (SL.mk (some ⟨g, 0, none⟩) n c g 0 s).off + j = 0 + j from rfl, Nat.zero_add] at hc
    rw [Nat.zero_add]
    split
    · rename_i e; subst e; exact World.cell?_setCell_same _ _ _ hc
    · rename_i e
      have hne : (⟨g, kk, none⟩ : Addr) ≠ ⟨g, j, none⟩ := fun q => e (by injection q)
      exact (World.cell?_setCell_other _ _ _ _ hne).trans hc

def depG : Nat → List Nat
  | 1 => [0]
  | 3 => [2]
  | 6 => [5]
  | 8 => [7]
  | 9 => [8]
  | 10 => [9]
  | 11 => [6, 10]
  | 12 => [4, 11]
  | 14 => [13]
  | 15 => [1, 3, 12, 14]
  | 16 => [15]
  | 17 => [16]
  | 18 => [16]
  | 19 => [17]
  | 20 => [18]
  | _ => []
/-- What each operation of the region that opens too few bytes brings about. -/
def valG (k n b : SL) (s : SL) (S r : Nat) (t0 : By) : Nat → Value → Prop
  | 0, v => v = .pointer (some ⟨S, 0, none⟩)
  | 1, v => v = .slice k.a k.len k.cap
  | 2, v => v = .pointer (some ⟨S, 1, none⟩)
  | 3, v => v = .slice n.a n.len n.cap
  | 4, v => v = .slice (some ⟨s.g, s.off, none⟩) s.len s.cap
  | 5, v => v = .slice (some ⟨s.g, s.off, none⟩) s.len s.cap
  | 6, v => v = .int .i64 (s.len : Int)
  | 7, v => v = .pointer (some ⟨S + 1, 0, none⟩)
  | 8, v => v = .int .u8 (v8 t0)
  | 9, v => v = .int .u8 (r : Int)
  | 10, v => v = .int .i64 (r : Int)
  | 11, v => v = .int .i64 ((s.len - r : Nat) : Int)
  | 12, v => v = .slice (cutS s (s.len - r)).a (cutS s (s.len - r)).len (cutS s (s.len - r)).cap
  | 13, v => v = .pointer (some ⟨S, 2, none⟩)
  | 14, v => v = .slice b.a b.len b.cap
  | 15, v => ∃ a c, v = .tuple #[.slice a 0 c, .int .i64 4]
  | 16, v => ∃ a c, v = .tuple #[.slice a 0 c, .int .i64 4]
  | 17, v => ∃ a c, v = .slice a 0 c
  | 18, v => v = .int .i64 4
  | 19, v => ∃ a c, v = .slice a 0 c
  | 20, v => v = .int .i64 4
  | _, _ => True
/-- And of the region that makes a byte another one. -/
def depS : Nat → List Nat
  | 4 => [2, 3]
  | 5 => [4]
  | 7 => [6]
  | 8 => [5, 7]
  | 9 => [0, 1]
  | 10 => [0, 1, 2, 3, 4, 5, 6, 7, 8, 9]
  | _ => []
def valS (s : SL) (S kk : Nat) (x0 t1 : By) : Nat → Value → Prop
  | 0, v => v = .slice (some ⟨s.g, s.off, none⟩) s.len s.cap
  | 1, v => v = .int .i64 (kk : Int)
  | 2, v => v = .slice (some ⟨s.g, s.off, none⟩) s.len s.cap
  | 3, v => v = .int .i64 (kk : Int)
  | 4, v => v = .pointer (some ⟨s.g, s.off + kk, none⟩)
  | 5, v => v = .int .u8 (v8 x0)
  | 6, v => v = .pointer (some ⟨S + 1, 1, none⟩)
  | 7, v => v = .int .u8 (v8 t1)
  | 8, v => v = .int .u8 (v8 (xb x0 t1))
  | 9, v => v = .pointer (some ⟨s.g, s.off + kk, none⟩)
  | _, _ => True

set_option maxRecDepth 20000 in
set_option maxHeartbeats 2000000 in
theorem tagd_walk (k n b p : SL) (xt : List By) (hxt : xt.length = 2) (w : World) (hg : Glob w) (hk : k.Ok w) (hn : n.Ok w) (hb : b.Ok w) (hp : p.Ok w) (lk : k.len ≤ 140737488355328) (ln : n.len ≤ 140737488355328) (lb : b.len ≤ 140737488355328) (lp : p.len ≤ 140737488355328) :
    Calls Tryd.prog 4 #[.agg (withC k n b), .slice p.a p.len p.cap, .agg (bs xt)] w fun e w' => e = .returned (.bool true) ∧ Below w.heap.size w w' := by
  have HG := veil hg
  have HK := veil hk
  have HN := veil hn
  have HB := veil hb
  have HP := veil hp
  have HLK := veil lk
  have HLN := veil ln
  have HLB := veil lb
  have HLP := veil lp
  have hpb := hp.hb
  have HXT := veil hxt
  clear hg hk hn hb hp lk ln lb lp hxt
  have hz3 : (withC k n b).size = 3 := rfl
  obtain ⟨w0, hw0⟩ : ∃ w0, w0 = (w.alloc (.cells (withC k n b) 24)).alloc (.cells (bs xt) 31) := ⟨_, rfl⟩
  have r0 : Row w0 w.heap.size 24 (withC k n b) := by rw [hw0]; exact (Row.new _ _ _).alloc _
  have x0 : Row w0 (w.heap.size + 1) 31 (bs xt) := by rw [hw0]; exact Row.new1 _ _ _ _
  have b0 : Below w.heap.size w w0 := by rw [hw0]; exact ((Below.refl _ w).alloc (Nat.le_refl _) _).alloc (by simp) _
  have HW0 := veil hw0
  clear hw0
  refine (callsIn_wide (n := 4)).1 ?_
  refine callsIn_of_wp Tryd.func4 rfl trivial ?_ rfl
  simp only [Tryd.ntmps4, List.size_toArray, List.length_cons, List.length_nil, Nat.reduceAdd, Nat.reduceSub, Array.replicate_succ, Array.replicate_zero, List.push_toArray, List.append_toArray, List.nil_append, List.cons_append]
  gi_wp2_with fail
  rw [← HW0.out]
  refine ⟨trivial, (callsIn_wide.2 (alive_any _ (HG.out.below b0 (Nat.le_refl _)))).mono ?_⟩
  rintro e1 w1 ⟨rfl, hb1⟩
  have r1 := r0.below hb1 r0.lt
  have x1 := x0.below hb1 x0.lt
  have b1 := b0.trans (hb1.mono b0.size)
  clear hb1 r0 b0 x0 HW0
  gi_wp2_with (with_reducible (show wpListIn _ _ _ _ _ (⟨some 17, Op.load 24 _, _, _, _, _⟩ :: _) _ _)
               refine value_GIn (by rfl) (by intro c h; cases h) (by intro c h; cases h) (.agg (withC k n b)) (run_mid 24 _ w.heap.size 0 (withC k n b) _ rfl rfl Tryd.underlying24 rfl (by rw [hz3]; kernel_rfl) _ (lock_whole r1)) ?_)
  refine ⟨trivial, (callsIn_wide.2 (great_any k n b p HLK.out HLN.out HLB.out HLP.out w1)).mono ?_⟩
  rintro e2 w2 ⟨rfl, hb2⟩
  have b2 := b1.trans (hb2.mono b1.size)
  have r2 := r1.below hb2 r1.lt
  have x2 := x1.below hb2 x1.lt
  clear hb2 r1 b1 x1
  cases hG : greatB k.len n.len b.len p.len with
  | true =>
    gi_wp2_with fail
    refine ⟨trivial, (callsIn_wide.2 (alive_any _ (HG.out.below b2 (Nat.le_refl _)))).mono ?_⟩
    rintro e3 w3 ⟨rfl, hb3⟩
    have b3 := b2.trans (hb3.mono b2.size)
    clear hb3
    gi_wp2_with fail
    go_ret
    exact ⟨rfl, b3⟩
  | false =>
    clear hG
    obtain ⟨c0, c1, c2⟩ := with_cells r2
    have HR2 := veil r2
    have HX2 := veil x2
    have HB2 := veil b2
    have hs2 := b2.size
    clear r2 b2 x2
    gi_wp2_with fail
    refine ⟨trivial, (callsIn_wide.2 (seal_any k n p b w2 (HG.out.below HB2.out (Nat.le_refl _)) (HK.out.below HB2.out) (HN.out.below HB2.out) (HP.out.below HB2.out) (HB.out.below HB2.out))).mono ?_⟩
    rintro e3 w3 ⟨a3, c3, rfl, own3, hb3⟩
    have b3 := HB2.out.trans (hb3.mono hs2)
    have r3 := HR2.out.below hb3 HR2.out.lt
    have x3 := HX2.out.below hb3 HX2.out.lt
    clear hb3 c0 c1 c2
    rcases seal_three k.b n.b p.b b.b with ⟨hE, hO⟩ | ⟨hE, hO⟩ | ⟨hE, hO, h32, hle⟩
    · rw [hE, hO, List.length_nil]
      clear hE hO
      gi_wp2_with fail
      go_ret
      exact ⟨rfl, b3⟩
    · rw [hE, hO, List.length_nil]
      clear hE hO
      gi_wp2_with fail
      go_ret
      exact ⟨rfl, b3⟩
    · rw [hO, sealL_length, hpb] at own3
      rw [hE, hO, sealL_length, hpb]
      clear hE hO
      obtain ⟨g3, rfl⟩ := own_some own3 (by omega)
      have hge : w.heap.size ≤ g3 := Nat.le_trans hs2 (own3.lt g3 rfl).1
      have hlt3 := (own3.lt g3 rfl).2
      have hne3 : w.heap.size ≠ g3 := by have := HR2.out.lt; have := (own3.lt g3 rfl).1; omega
      obtain ⟨s, hs⟩ : ∃ s : SL, s = ⟨some ⟨g3, 0, none⟩, p.len + 16, c3, g3, 0, sealL k.b n.b p.b b.b⟩ := ⟨_, rfl⟩
      have hok3 : s.Ok w3 := by rw [hs]; exact own_ok6 own3
      have hsl : s.len = p.len + 16 := by rw [hs]
      have hsc : s.cap = c3 := by rw [hs]
      have hsb : s.b = sealL k.b n.b p.b b.b := by rw [hs]
      have hsg : s.g = g3 ∧ s.off = 0 := by rw [hs]; exact ⟨rfl, rfl⟩
      obtain ⟨t0, ht0⟩ : ∃ t0, t0 = gb xt 0 := ⟨_, rfl⟩
      obtain ⟨t1, ht1⟩ : ∃ t1, t1 = gb xt 1 := ⟨_, rfl⟩
      obtain ⟨r, hr⟩ : ∃ r, r = t0.toNat % 16 := ⟨_, rfl⟩
      have hr16 : r < 16 := by rw [hr]; exact Nat.mod_lt _ (by decide)
      have d0 := x3.cellB (j := 0) (by rw [HXT.out]; omega)
      have d1 := x3.cellB (j := 1) (by rw [HXT.out]; omega)
      rw [← ht0] at d0
      rw [← ht1] at d1
      have HRR := veil hr
      have HT0 := veil ht0
      have HT1 := veil ht1
      have HS := veil hs
      have H32 := veil h32
      have HLE := veil hle
      have HLEN : Hid (s.len ≤ 140737488355328) := show _ ≤ _ by rw [hsl]; have := HLE.out.1; rw [hpb] at this; omega
      have HO3 := veil own3
      have HOK := veil hok3
      have HB3 := veil b3
      have HR3 := veil r3
      have HX3 := veil x3
      have hs3 := b3.size
      clear own3 h32 hle b3 r3 x3 HR2 HB2 HX2 hok3 hs hr ht0 ht1 d0 d1
      gi_wp2_with fail
      refine wpIn_region_any (by kernel_rfl) ?_
      refine anyIn_gen (w0 := w3) (fun j _ v => valG k n b s w.heap.size r t0 j v) (fun _ _ _ _ _ h => h) [36, 37, 38, 39, 40, 41, 42, 43, 44, 45, 46, 47, 48, 49, 50, 51, 35, 52, 53, 9, 10] depG (by kernel_rfl) rfl (by decide) (by kernel_rfl) ((Below.refl _ _).drew) ?step ?done
      case step =>
        intro x W i d hW hdi hdep
        have rW := HR3.out.below hW HR3.out.lt
        have xW := HX3.out.below hW HX3.out.lt
        obtain ⟨c0, c1, c2⟩ := with_cells rW
        match i, hdi, hdep with
        | 0, hdi, _ =>
          obtain rfl := Option.some.inj hdi
          exact OI_value rfl rfl (about_none (by intro c h; cases h)) (by intro c h; cases h) (.pointer (some ⟨w.heap.size, 0, none⟩)) W (by kernel_rfl) ⟨_, rfl, Below.refl _ _, rfl⟩
        | 1, hdi, hdep =>
          obtain rfl := Option.some.inj hdi
          rw [updV_self (show x 0 = _ from hdep 0 (by simp [depG]))]
          exact OI_value rfl rfl (about_none (by intro c h; cases h)) (by intro c h; cases h) (.slice k.a k.len k.cap) W (run_cell 22 _ ⟨w.heap.size, 0, none⟩ _ _ rfl (by kernel_rfl) Tryd.underlying22 rfl W c0) ⟨_, rfl, Below.refl _ _, rfl⟩
        | 2, hdi, _ =>
          obtain rfl := Option.some.inj hdi
          exact OI_value rfl rfl (about_none (by intro c h; cases h)) (by intro c h; cases h) (.pointer (some ⟨w.heap.size, 1, none⟩)) W (by kernel_rfl) ⟨_, rfl, Below.refl _ _, rfl⟩
        | 3, hdi, hdep =>
          obtain rfl := Option.some.inj hdi
          rw [updV_self (show x 2 = _ from hdep 2 (by simp [depG]))]
          exact OI_value rfl rfl (about_none (by intro c h; cases h)) (by intro c h; cases h) (.slice n.a n.len n.cap) W (run_cell 22 _ ⟨w.heap.size, 1, none⟩ _ _ rfl (by kernel_rfl) Tryd.underlying22 rfl W c1) ⟨_, rfl, Below.refl _ _, rfl⟩
        | 4, hdi, _ =>
          obtain rfl := Option.some.inj hdi
          exact OI_value rfl rfl (about_none (by intro c h; cases h)) (by intro c h; cases h) (.slice (some ⟨g3, 0, none⟩) (p.len + 16) c3) W (by kernel_rfl) ⟨_, rfl, Below.refl _ _, by show _ = _; rw [HS.out]⟩
        | 5, hdi, _ =>
          obtain rfl := Option.some.inj hdi
          exact OI_value rfl rfl (about_none (by intro c h; cases h)) (by intro c h; cases h) (.slice (some ⟨g3, 0, none⟩) (p.len + 16) c3) W (by kernel_rfl) ⟨_, rfl, Below.refl _ _, by show _ = _; rw [HS.out]⟩
        | 6, hdi, hdep =>
          obtain rfl := Option.some.inj hdi
          rw [updV_self (show x 5 = _ from hdep 5 (by simp [depG]))]
          exact OI_value rfl rfl (about_builtin _ _ _ rfl) (by intro c h; cases h) (.int .i64 (s.len : Int)) W (by kernel_rfl) ⟨_, rfl, Below.refl _ _, rfl⟩
        | 7, hdi, _ =>
          obtain rfl := Option.some.inj hdi
          exact OI_value rfl rfl (about_none (by intro c h; cases h)) (by intro c h; cases h) (.pointer (some ⟨w.heap.size + 1, 0, none⟩)) W (run_addr 31 5 2 _ _ (w.heap.size + 1) 0 rfl (by kernel_rfl) (by kernel_rfl) Tryd.underlying31 (by kernel_rfl) (by omega) W) ⟨_, rfl, Below.refl _ _, rfl⟩
        | 8, hdi, hdep =>
          obtain rfl := Option.some.inj hdi
          rw [updV_self (show x 7 = _ from hdep 7 (by simp [depG]))]
          have d0 := xW.cellB (j := 0) (by rw [HXT.out]; omega)
          rw [← HT0.out] at d0
          exact OI_value rfl rfl (about_none (by intro c h; cases h)) (by intro c h; cases h) (.int .u8 (v8 t0)) W (run_cell 5 _ ⟨w.heap.size + 1, 0, none⟩ _ _ rfl (by kernel_rfl) Tryd.underlying5 rfl W d0) ⟨_, rfl, Below.refl _ _, rfl⟩
        | 9, hdi, hdep =>
          obtain rfl := Option.some.inj hdi
          rw [updV_self (show x 8 = _ from hdep 8 (by simp [depG]))]
          exact OI_value rfl rfl (about_none (by intro c h; cases h)) (by intro c h; cases h) _ W (run_rem16 _ _ _ _ t0 rfl (by kernel_rfl) (by kernel_rfl) W) ⟨_, rfl, Below.refl _ _, by show _ = _; rw [HRR.out]⟩
        | 10, hdi, hdep =>
          obtain rfl := Option.some.inj hdi
          rw [updV_self (show x 9 = _ from hdep 9 (by simp [depG]))]
          exact OI_value rfl rfl (about_none (by intro c h; cases h)) (by intro c h; cases h) _ W (run_conv8 5 3 _ r (by omega) rfl (by kernel_rfl) Tryd.underlying5 Tryd.underlying3 W) ⟨_, rfl, Below.refl _ _, rfl⟩
        | 11, hdi, hdep =>
          obtain rfl := Option.some.inj hdi
          rw [updV_self (show x 6 = _ from hdep 6 (by simp [depG])), updV_self (show updV x 6 _ 10 = _ from hdep 10 (by simp [depG]))]
          exact OI_value rfl rfl (about_none (by intro c h; cases h)) (by intro c h; cases h) _ W (run_subN _ _ _ _ s.len r (by omega) HLEN.out rfl (by kernel_rfl) (by kernel_rfl) W) ⟨_, rfl, Below.refl _ _, rfl⟩
        | 12, hdi, hdep =>
          obtain rfl := Option.some.inj hdi
          rw [updV_self (show x 4 = _ from hdep 4 (by simp [depG])), updV_self (show updV x 4 _ 11 = _ from hdep 11 (by simp [depG]))]
          exact OI_value rfl rfl (about_none (by intro c h; cases h)) (by intro c h; cases h) _ W (run_cut_end 22 5 _ _ s (s.len - r) rfl (by kernel_rfl) (by kernel_rfl) Tryd.underlying22 (by kernel_rfl) (by omega) W) ⟨_, rfl, Below.refl _ _, rfl⟩
        | 13, hdi, _ =>
          obtain rfl := Option.some.inj hdi
          exact OI_value rfl rfl (about_none (by intro c h; cases h)) (by intro c h; cases h) (.pointer (some ⟨w.heap.size, 2, none⟩)) W (by kernel_rfl) ⟨_, rfl, Below.refl _ _, rfl⟩
        | 14, hdi, hdep =>
          obtain rfl := Option.some.inj hdi
          rw [updV_self (show x 13 = _ from hdep 13 (by simp [depG]))]
          exact OI_value rfl rfl (about_none (by intro c h; cases h)) (by intro c h; cases h) (.slice b.a b.len b.cap) W (run_cell 22 _ ⟨w.heap.size, 2, none⟩ _ _ rfl (by kernel_rfl) Tryd.underlying22 rfl W c2) ⟨_, rfl, Below.refl _ _, rfl⟩
        | 15, hdi, hdep =>
          obtain rfl := Option.some.inj hdi
          rw [updV_self (show x 1 = _ from hdep 1 (by simp [depG])), updV_self (show updV x 1 _ 3 = _ from hdep 3 (by simp [depG])), updV_self (show updV (updV x 1 _) 3 _ 12 = _ from hdep 12 (by simp [depG])), updV_self (show updV (updV (updV x 1 _) 3 _) 12 _ 14 = _ from hdep 14 (by simp [depG]))]
          obtain ⟨ok1, ok2, ok3⟩ := cutS_ok (HOK.out.below hW) (s.len - r) (by omega)
          have bW := HB3.out.trans (hW.mono hs3)
          refine OI_call rfl rfl (by intro c h; cases h) 9 #[.slice k.a k.len k.cap, .slice n.a n.len n.cap, .slice (cutS s (s.len - r)).a (cutS s (s.len - r)).len (cutS s (s.len - r)).cap, .slice b.a b.len b.cap] (fun _ _ => trivial) (by kernel_rfl) (by decide) ?_
          have hO := open_any k n (cutS s (s.len - r)) b W (HG.out.below bW (Nat.le_refl _)) (HK.out.below bW) (HN.out.below bW) ok1 (HB.out.below bW) (by rw [ok2]; have := HLEN.out; omega)
          obtain ⟨hE, hOO⟩ := open_short (k := k.b) (n := n.b) (s := (cutS s (s.len - r)).b) (b := b.b) H32.out (by rw [ok1.hb, ok2]; omega)
          rw [hE, hOO, List.length_nil] at hO
          refine (callsIn_wide.2 hO).mono ?_
          rintro e w' ⟨a', c', rfl, _, hb'⟩
          exact ⟨_, rfl, _, rfl, hb', ⟨a', c', rfl⟩⟩
        | 16, hdi, hdep =>
          obtain rfl := Option.some.inj hdi
          obtain ⟨a', c', e15⟩ := hdep 15 (by simp [depG])
          rw [updV_self (show x 15 = _ from e15)]
          exact OI_value rfl rfl (about_none (by intro c h; cases h)) (by intro c h; cases h) _ W (by kernel_rfl) ⟨_, rfl, Below.refl _ _, ⟨a', c', rfl⟩⟩
        | 17, hdi, hdep =>
          obtain rfl := Option.some.inj hdi
          obtain ⟨a', c', e15⟩ := hdep 16 (by simp [depG])
          rw [updV_self (show x 16 = _ from e15)]
          exact OI_value rfl rfl (about_none (by intro c h; cases h)) (by intro c h; cases h) (.slice a' 0 c') W (by kernel_rfl) ⟨_, rfl, Below.refl _ _, ⟨a', c', rfl⟩⟩
        | 18, hdi, hdep =>
          obtain rfl := Option.some.inj hdi
          obtain ⟨a', c', e15⟩ := hdep 16 (by simp [depG])
          rw [updV_self (show x 16 = _ from e15)]
          exact OI_value rfl rfl (about_none (by intro c h; cases h)) (by intro c h; cases h) (.int .i64 4) W (by kernel_rfl) ⟨_, rfl, Below.refl _ _, rfl⟩
        | 19, hdi, hdep =>
          obtain rfl := Option.some.inj hdi
          obtain ⟨a', c', e15⟩ := hdep 17 (by simp [depG])
          rw [updV_self (show x 17 = _ from e15)]
          exact OI_value rfl rfl (about_none (by intro c h; cases h)) (by intro c h; cases h) (.slice a' 0 c') W (by kernel_rfl) ⟨_, rfl, Below.refl _ _, ⟨a', c', rfl⟩⟩
        | 20, hdi, hdep =>
          obtain rfl := Option.some.inj hdi
          rw [updV_self (show x 18 = _ from hdep 18 (by simp [depG]))]
          exact OI_value rfl rfl (about_none (by intro c h; cases h)) (by intro c h; cases h) (.int .i64 4) W (by kernel_rfl) ⟨_, rfl, Below.refl _ _, rfl⟩
        | _ + 21, hdi, _ => simp at hdi
      case done =>
        intro x W hW hx
        have e20 : x 20 = .int .i64 4 := hx 20 (by decide)
        have b5 := HB3.out.trans (hW.mono hs3)
        have r5 := HR3.out.below hW HR3.out.lt
        have x5 := HX3.out.below hW HX3.out.lt
        have ok5 := HOK.out.below hW
        have own5 := own_below HO3.out hW
        have d1 := x5.cellB (j := 1) (by rw [HXT.out]; omega)
        have d0 := x5.cellB (j := 0) (by rw [HXT.out]; omega)
        rw [← HT0.out] at d0
        rw [← HT1.out] at d1
        simp only [putsV, Act.put, List.setIfInBounds_toArray, List.set_cons_succ, List.set_cons_zero, Nat.reduceAdd, e20]
        generalize x 0 = y0, x 1 = y1, x 2 = y2, x 3 = y3, x 4 = y4, x 5 = y5, x 6 = y6, x 7 = y7, x 8 = y8, x 9 = y9, x 10 = y10, x 11 = y11, x 12 = y12, x 13 = y13, x 14 = y14, x 15 = y15, x 16 = y16, x 17 = y17, x 18 = y18, x 19 = y19
        have HB5 := veil b5
        have HR5 := veil r5
        have HX5 := veil x5
        have HOK5 := veil ok5
        have HO5 := veil own5
        have hs5 := b5.size
        have hgW : g3 < W.heap.size := Nat.lt_of_lt_of_le hlt3 hW.size
        clear hx e20 b5 r5 x5 ok5 own5 hW HB3 HR3 HX3 HOK HO3
        by_cases ht : t1 = 0
        · have dz : (v8 t1 == 0) = true := by rw [ht]; rfl
          clear d0
          gi_wp2_with fail
          go_ret
          exact ⟨rfl, HB5.out⟩
        · have dz : (v8 t1 == 0) = false := by rw [v8_zero_iff]; exact decide_eq_false ht
          obtain ⟨kk, hkk⟩ : ∃ kk, kk = p.len + 15 - r := ⟨_, rfl⟩
          have hk1 : kk < p.len + 16 := by omega
          have HKK := veil hkk
          have hrm : (v8 t0).tmod 16 = (r : Int) := by rw [Int.tmod_eq_emod_of_nonneg (v8_nn t0), HRR.out]; unfold v8; omega
          have hkz : ((p.len : Int) + 16 - 1 - (r : Int)) = (kk : Int) := by omega
          have hwk : wrap64 (wrap64 ((p.len : Int) + 16 - 1) - (r : Int)) = (kk : Int) := by
            have := HLE.out.1
            rw [hpb] at this
            rw [← hkz]
            unfold wrap64
            omega
          clear hkz hkk
          gi_wp2_with fail
          rw [hwk]
          clear hwk d0 d1
          have hk2 : kk < s.len := by omega
          refine wpIn_region_any (by kernel_rfl) ?_
          refine anyIn_store (w0 := W) (fun j _ v => valS s w.heap.size kk (gb s.b kk) t1 j v) (fun _ _ _ _ _ h => h) [67, 68, 69, 70, 71, 72, 73, 74, 75, 76] depS (by kernel_rfl) rfl (by decide) (by intro j hj; have : j < 10 := hj; simp [depS]; omega) (by kernel_rfl) ((Below.refl _ _).drew) (fun _ U => Below w.heap.size w U ∧ Row U w.heap.size 24 (withC k n b) ∧ (SL.mk (some ⟨g3, 0, none⟩) (p.len + 16) c3 g3 0 ((sealL k.b n.b p.b b.b).set kk (xb (gb (sealL k.b n.b p.b b.b) kk) t1))).Ok U) ?step2 ?last2 ?done2
          case step2 =>
            intro x U i d hU hdi hdep
            have xU := HX5.out.below hU HX5.out.lt
            have okU := HOK5.out.below hU
            match i, hdi, hdep with
            | 0, hdi, _ =>
              obtain rfl := Option.some.inj hdi
              exact OI_value rfl rfl (about_none (by intro c h; cases h)) (by intro c h; cases h) (.slice (some ⟨g3, 0, none⟩) (p.len + 16) c3) U (by kernel_rfl) ⟨_, rfl, Below.refl _ _, by show _ = _; rw [HS.out]⟩
            | 1, hdi, _ =>
              obtain rfl := Option.some.inj hdi
              exact OI_value rfl rfl (about_none (by intro c h; cases h)) (by intro c h; cases h) (.int .i64 (kk : Int)) U (by kernel_rfl) ⟨_, rfl, Below.refl _ _, rfl⟩
            | 2, hdi, _ =>
              obtain rfl := Option.some.inj hdi
              exact OI_value rfl rfl (about_none (by intro c h; cases h)) (by intro c h; cases h) (.slice (some ⟨g3, 0, none⟩) (p.len + 16) c3) U (by kernel_rfl) ⟨_, rfl, Below.refl _ _, by show _ = _; rw [HS.out]⟩
            | 3, hdi, _ =>
              obtain rfl := Option.some.inj hdi
              exact OI_value rfl rfl (about_none (by intro c h; cases h)) (by intro c h; cases h) (.int .i64 (kk : Int)) U (by kernel_rfl) ⟨_, rfl, Below.refl _ _, rfl⟩
            | 4, hdi, hdep =>
              obtain rfl := Option.some.inj hdi
              rw [updV_self (show x 2 = _ from hdep 2 (by simp [depS])), updV_self (show updV x 2 _ 3 = _ from hdep 3 (by simp [depS]))]
              exact OI_value rfl rfl (about_none (by intro c h; cases h)) (by intro c h; cases h) _ U (run_at6 22 5 _ _ s.g s.off s.len s.cap kk rfl (by kernel_rfl) (by kernel_rfl) Tryd.underlying22 (by kernel_rfl) hk2 U) ⟨_, rfl, Below.refl _ _, rfl⟩
            | 5, hdi, hdep =>
              obtain rfl := Option.some.inj hdi
              rw [updV_self (show x 4 = _ from hdep 4 (by simp [depS]))]
              exact OI_value rfl rfl (about_none (by intro c h; cases h)) (by intro c h; cases h) _ U (run_cell 5 _ ⟨s.g, s.off + kk, none⟩ _ _ rfl (by kernel_rfl) Tryd.underlying5 rfl U (okU.cell kk hk2)) ⟨_, rfl, Below.refl _ _, rfl⟩
            | 6, hdi, _ =>
              obtain rfl := Option.some.inj hdi
              exact OI_value rfl rfl (about_none (by intro c h; cases h)) (by intro c h; cases h) (.pointer (some ⟨w.heap.size + 1, 1, none⟩)) U (run_addr 31 5 2 _ _ (w.heap.size + 1) 1 rfl (by kernel_rfl) (by kernel_rfl) Tryd.underlying31 (by kernel_rfl) (by omega) U) ⟨_, rfl, Below.refl _ _, rfl⟩
            | 7, hdi, hdep =>
              obtain rfl := Option.some.inj hdi
              rw [updV_self (show x 6 = _ from hdep 6 (by simp [depS]))]
              have d1 := xU.cellB (j := 1) (by rw [HXT.out]; omega)
              rw [← HT1.out] at d1
              exact OI_value rfl rfl (about_none (by intro c h; cases h)) (by intro c h; cases h) (.int .u8 (v8 t1)) U (run_cell 5 _ ⟨w.heap.size + 1, 1, none⟩ _ _ rfl (by kernel_rfl) Tryd.underlying5 rfl U d1) ⟨_, rfl, Below.refl _ _, rfl⟩
            | 8, hdi, hdep =>
              obtain rfl := Option.some.inj hdi
              rw [updV_self (show x 5 = _ from hdep 5 (by simp [depS])), updV_self (show updV x 5 _ 7 = _ from hdep 7 (by simp [depS]))]
              exact OI_value rfl rfl (about_none (by intro c h; cases h)) (by intro c h; cases h) _ U (run_xorB _ _ _ _ (gb s.b kk) t1 rfl (by kernel_rfl) (by kernel_rfl) U) ⟨_, rfl, Below.refl _ _, rfl⟩
            | 9, hdi, hdep =>
              obtain rfl := Option.some.inj hdi
              rw [updV_self (show x 0 = _ from hdep 0 (by simp [depS])), updV_self (show updV x 0 _ 1 = _ from hdep 1 (by simp [depS]))]
              exact OI_value rfl rfl (about_none (by intro c h; cases h)) (by intro c h; cases h) _ U (run_at6 22 5 _ _ s.g s.off s.len s.cap kk rfl (by kernel_rfl) (by kernel_rfl) Tryd.underlying22 (by kernel_rfl) hk2 U) ⟨_, rfl, Below.refl _ _, rfl⟩
            | _ + 10, hdi, _ => simp at hdi
          case last2 =>
            intro x U hU hx
            have e8 : x 8 = .int .u8 (v8 (xb (gb s.b kk) t1)) := hx 8 (by decide)
            have e9 : x 9 = .pointer (some ⟨g3, kk, none⟩) := by
              have : x 9 = .pointer (some ⟨s.g, s.off + kk, none⟩) := hx 9 (by decide)
              rw [this, hsg.1, hsg.2, Nat.zero_add]
            have ownU := own_below HO5.out hU
            have okU := own_ok6 ownU
            have bU := HB5.out.trans (hU.mono hs5)
            have rU := HR5.out.below hU HR5.out.lt
            have cU : U.cell? ⟨g3, kk, none⟩ = some (.int .u8 (v8 (gb (sealL k.b n.b p.b b.b) kk))) := by
              have := okU.cell kk hk1
              rw [show (SL.mk (some ⟨g3, 0, none⟩) (p.len + 16) c3 g3 0 (sealL k.b n.b p.b b.b)).off + kk = 0 + kk from rfl, Nat.zero_add] at this
              exact this
            rw [updV_self e8, updV_self (show updV x 8 _ 9 = _ from e9)]
            refine OI_skip rfl rfl (about_none (by intro c h; cases h)) (by intro c h; cases h) (U.setCell ⟨g3, kk, none⟩ (.int .u8 (v8 (xb (gb s.b kk) t1)))) (run_storeCell 5 _ _ ⟨g3, kk, none⟩ .u8 (v8 (xb (gb s.b kk) t1)) _ rfl (by kernel_rfl) (by kernel_rfl) (by kernel_rfl) U cU (own_frozen ownU kk)) ?_
            refine ⟨by kernel_rfl, bU.setCell (p := ⟨g3, kk, none⟩) hge _, rU.other hne3 _, ?_⟩
            rw [hsb]
            exact okU.setCell kk hk1 _
          case done2 =>
            rintro x U ⟨bU, rU, okU⟩
            simp only [putsV, Act.put, List.setIfInBounds_toArray, List.set_cons_succ, List.set_cons_zero, Nat.reduceAdd]
            generalize x 0 = z0, x 1 = z1, x 2 = z2, x 3 = z3, x 4 = z4, x 5 = z5, x 6 = z6, x 7 = z7, x 8 = z8, x 9 = z9
            obtain ⟨c0, c1, c2⟩ := with_cells rU
            obtain ⟨hE, hO⟩ := open_changed k.b n.b p.b b.b H32.out HLE.out r hr16 t1 ht
            rw [show p.b.length + 15 - r = kk by rw [hpb, HKK.out]] at hE hO
            have HOKU := veil okU
            have HBU := veil bU
            have hsU := bU.size
            clear bU rU okU
            gi_wp2_with fail
            have hOO := open_any k n _ b U (HG.out.below HBU.out (Nat.le_refl _)) (HK.out.below HBU.out) (HN.out.below HBU.out) HOKU.out (HB.out.below HBU.out) (by show p.len + 16 ≤ 140737488355328; have := HLE.out.1; rw [hpb] at this; omega)
            simp only [] at hOO
            rw [hE, hO, List.length_nil] at hOO
            refine ⟨trivial, (callsIn_wide.2 hOO).mono ?_⟩
            rintro e6 w6 ⟨a6, c6, rfl, _, hb6⟩
            have b6 := HBU.out.trans (hb6.mono hsU)
            clear hOO hE hO hb6 c0 c1 c2
            gi_wp2_with fail
            go_ret
            exact ⟨rfl, b6⟩
end Go.Proofs.YtffokggejbmadaaDoor
