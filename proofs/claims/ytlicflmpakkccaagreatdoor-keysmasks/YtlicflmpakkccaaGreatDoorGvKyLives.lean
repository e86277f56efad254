/-
  The chapter's examples: lives answers yes.
-/
import Derived.Test.YtlicflmpakkccaaGreatDoorGvKyMask
import Derived.Test.YtlicflmpakkccaaGreatDoorGv6
import Derived.Test.YtlicflmpakkccaaGreatDoorGv5
import Derived.Test.YtlicflmpakkccaaGreatDoorGvKyTell
namespace Go.Proofs.YtlicflmpakkccaaGreatDoor
open Go Go.RowKit

/-- The first bytes of a row, as a slice. -/
def rowT (g n : Nat) (b : List By) : SL := ⟨some ⟨g, 0, none⟩, n, n, g, 0, b.take n⟩
theorem rowT_ok {w : World} {g n : Nat} {t : TypeId} {b : List By} (h : Row w g t (bs b)) (hn : n ≤ b.length) : (rowT g n b).Ok w := by
  refine ⟨by show (b.take n).length = n; rw [List.length_take]; omega, Nat.le_refl _, (fun e => by cases e), fun _ => rfl, fun _ => h.lt, fun j hj => ?_⟩
  have hj' : j < n := hj
  show w.cell? ⟨g, 0 + j, none⟩ = some (.int .u8 (v8 (gb (b.take n) j)))
  rw [Nat.zero_add, h.cellB (by omega)]
  unfold gb
  rw [List.getElem?_take, if_pos hj']
theorem own1_ok {w : World} {B g n : Nat} {xs : List By} (h : w.ownsRow B 5 1 (own1 g n) n (vb xs)) : (⟨some ⟨g, 0, none⟩, n, n, g, 0, xs⟩ : SL).Ok w := by
  obtain ⟨s, hv, hl, hb, hok, _⟩ := SL.of_own h
  have hxl : xs.length = n := by rw [← hb, hok.hb, hl]
  refine ⟨hxl, Nat.le_refl _, (fun e => by cases e), fun _ => rfl, fun _ => (h.lt g rfl).2, fun j hj => ?_⟩
  have := h.cells (g := g) rfl j _ (vb_get xs j (by rw [hxl]; exact hj))
  rw [add_off] at this
  show w.cell? ⟨g, 0 + j, none⟩ = _
  rw [Nat.zero_add]
  exact this

/-- A call behind a guard that holds, in a region that draws its order. -/
theorem step_callG {P : Program} {ops : Array Oper} {o : Oper} {a : Act} {w : World} {K : Act → World → Prop} {Q : Exit → Act → World → Prop} {E : Prop} (hw : Region.wanted o (yielded ops a.tmps) = true) (f : Nat) (args : Array Value)
    (he : (execOp a.eval o).run P w = .ok (.enter f args) w) (hc : Calls P f args w fun e w' => ∃ v, e = .returned v ∧ K (a.put o.dst v) w') :
    if Region.wanted o (yielded ops a.tmps) = true then Oper.wp P o a w K Q else E := by
  rw [if_pos hw]
  unfold Oper.wp
  rw [he]
  exact hc.mono (by rintro e w' ⟨v, rfl, h⟩; exact h)
theorem same_yes12 (p q : SL) (w : World) (hp : p.Ok w) (hq : q.Ok w) (hl : p.len ≤ 8388608) (hb : p.b = q.b) :
    Calls Tryz.prog 10 #[.slice p.a p.len p.cap, .slice q.a q.len q.cap] w fun e w' => e = .returned (.bool true) ∧ Below w.heap.size w w' := by
  have h := same_bool p q w hp hq hl (by rw [← hq.hb, ← hb, hp.hb]; omega)
  rw [decide_eq_true hb] at h
  exact h

set_option maxRecDepth 20000 in
set_option maxHeartbeats 1000000 in
theorem known_any (w : World) : Calls Tryz.prog 24 #[] w fun e w' => ∃ p : SL, e = .returned (.slice p.a p.len p.cap) ∧ p.Ok w' ∧ p.b = knownV ∧ Below w.heap.size w w' := by
  go_enter Tryz.func24, Tryz.ntmps24
  go_wp2_with fail
  refine (unhex_any knownT (by decide) w).mono ?_
  rintro e1 w1 ⟨p, rfl, hp, hpb, hb1⟩
  rw [hex_known] at hpb
  have HP := veil hp
  have HPB := veil hpb
  have HB := veil hb1
  clear hp hpb hb1
  go_wp2_with fail
  go_ret
  exact ⟨p, rfl, HP.out, HPB.out, HB.out⟩

set_option maxRecDepth 20000 in
set_option maxHeartbeats 2000000 in
theorem lives_any (w : World) (hg : Glob w) : Calls Tryz.prog 6 #[] w fun e w' => e = .returned (.bool true) ∧ Below w.heap.size w w' := by
  have HG := veil hg
  clear hg
  go_enter Tryz.func6, Tryz.ntmps6
  go_wp2_with fail
  refine (known_any w).mono ?_
  rintro e1 w1 ⟨p, rfl, hp, hpb, hb1⟩
  have hpl : p.len = 32 := by rw [← hp.hb, hpb]; rfl
  have HP := veil hp
  have HPB := veil hpb
  have HPL := veil hpl
  have B1 := veil hb1
  clear hp hpb hb1 hpl
  go_wp2_with fail
  refine (of_any p w1 HP.out HPL.out).mono ?_
  rintro e2 w2 ⟨g0, g1, g2, rfl, ho0, ho1, ho2, _, _, hb2⟩
  rw [HPB.out, vec_key12] at ho0
  rw [HPB.out, vec_iv12] at ho1
  rw [HPB.out, vec_hp12] at ho2
  have B2 := veil (B1.out.trans (hb2.mono B1.out.size))
  have rK : Row (w2.alloc (.cells (keysC (own1 g0 32) (own1 g1 12) (own1 g2 32)) 46)) w2.heap.size 46 (keysC (own1 g0 32) (own1 g1 12) (own1 g2 32)) := Row.new _ _ _
  have b3 := B2.out.alloc B2.out.size (.cells (keysC (own1 g0 32) (own1 g1 12) (own1 g2 32)) 46)
  have O0 := veil ((own1_ok ho0).alloc (.cells (keysC (own1 g0 32) (own1 g1 12) (own1 g2 32)) 46))
  have O1 := veil ((own1_ok ho1).alloc (.cells (keysC (own1 g0 32) (own1 g1 12) (own1 g2 32)) 46))
  have O2 := veil ((own1_ok ho2).alloc (.cells (keysC (own1 g0 32) (own1 g1 12) (own1 g2 32)) 46))
  have RK := veil rK
  have B3 := veil b3
  clear ho0 ho1 ho2 hb2 HP HPB HPL B1 rK b3 B2
  go_wp2_with fail
  show Calls _ _ _ (w2.alloc (.cells (keysC (own1 g0 32) (own1 g1 12) (own1 g2 32)) 46)) _
  obtain ⟨W3, hW3⟩ : ∃ W, W = w2.alloc (.cells (keysC (own1 g0 32) (own1 g1 12) (own1 g2 32)) 46) := ⟨_, rfl⟩
  rw [← hW3] at RK B3 O0 O1 O2
  rw [← hW3]
  clear hW3
  refine (nonce_any ⟨some ⟨g1, 0, none⟩, 12, 12, g1, 0, ivV12⟩ 654360564 W3 O1.out rfl (by decide)).mono ?_
  rintro e4 w4 ⟨gn, rfl, _, rN, hb4⟩
  replace rN : Row w4 gn 72 (bs nonV12) := by rw [← vec_non12]; exact rN
  have B4 := veil (B3.out.trans (hb4.mono B3.out.size))
  have ON4 := veil (rowN_ok (n := 12) rN rfl)
  have RK4 := veil (RK.out.below hb4 RK.out.lt)
  have O04 := veil (O0.out.below hb4)
  have O14 := veil (O1.out.below hb4)
  have O24 := veil (O2.out.below hb4)
  obtain ⟨gk, hgk⟩ : ∃ g, w2.heap.size = g := ⟨_, rfl⟩
  rw [hgk] at RK4
  rw [hgk]
  have c2 : w4.cell? ⟨gk, 2, none⟩ = some (own1 g2 32) := RK4.out.cell 2
  clear rN hb4 RK B3 O0 O1 O2 hgk
  go_wp2_with fail
  go_region_held3 (fun w' => w'.cell? ⟨gk, 2, none⟩ = some (own1 g2 32)) (first | go_keep | exact c2 | exact (RK4.out.below b5.out RK4.out.lt).cell 2 | exact (RK4.out.below (b5.out.trans (b6.out.mono b5.out.size)) RK4.out.lt).cell 2) (first
    | (go_at_call 21; refine (mask_any ⟨some ⟨g2, 0, none⟩, 32, 32, g2, 0, hpV12⟩ ps _ (HG.out.below (B4.out.trans (b5.out.mono B4.out.size)) (Nat.le_refl _)) (O24.out.below b5.out) PS.out rfl PL.out).mono ?_; rintro e6 w6 ⟨gm, rfl, _, rM, hb6⟩; have b6 := veil hb6; have RM := veil rM; clear hb6 rM)
    | (go_at_call 25; refine (unhex_any sampT (by decide) _).mono ?_; rintro e5 w5 ⟨ps, rfl, hps, hpsb, hb5⟩; have b5 := veil (((Below.refl _ w4).drew).trans hb5); have PS := veil hps; have PB := veil (hpsb.trans hex_samp); have PL := veil (show ps.len = 16 by rw [← hps.hb, hpsb, hex_samp]; rfl); clear hps hpsb hb5))
  obtain ⟨MB, hMB⟩ : ∃ B, blockL hpV12 (countL ps.b) (ps.b.drop 4) = B := ⟨_, rfl⟩
  have rM6 : Row w6 gm 74 (bs MB) := by rw [← hMB]; exact RM.out
  have hbl : MB.length = 64 := by rw [← hMB]; exact blockL_length _ _ _
  have MBE : Hid ((rowT gm 5 MB).b = maskV12) := show MB.take 5 = maskV12 by
    rw [← hMB, PB.out]
    exact vec_mask12
  have OM6 := veil (rowT_ok (n := 5) rM6 (by omega))
  have bb : Below w4.heap.size w4 w6 := b5.out.trans (b6.out.mono b5.out.size)
  have B6 := veil (B4.out.trans (bb.mono B4.out.size))
  have O06 := veil (O04.out.below bb)
  have O16 := veil (O14.out.below bb)
  have ON6 := veil (ON4.out.below bb)
  have RK6 := veil (RK4.out.below bb RK4.out.lt)
  have KC : Hid (∀ W, Below w6.heap.size w6 W → W.cell? ⟨gk, 0, none⟩ = some (own1 g0 32) ∧ W.cell? ⟨gk, 1, none⟩ = some (own1 g1 12)) := fun W hW => ⟨(RK6.out.below hW RK6.out.lt).cell 0, (RK6.out.below hW RK6.out.lt).cell 1⟩
  have k0 : w6.cell? ⟨gk, 0, none⟩ = some (own1 g0 32) := RK6.out.cell 0
  have k1 : w6.cell? ⟨gk, 1, none⟩ = some (own1 g1 12) := RK6.out.cell 1
  clear hMB rM6 hbl bb RM b5 b6 PS PB PL ON4 O04 O14 O24 RK4 c2 B4
  go_wp2_with fail
  go_region_held3 (fun w' => w'.cell? ⟨gk, 0, none⟩ = some (own1 g0 32) ∧ w'.cell? ⟨gk, 1, none⟩ = some (own1 g1 12)) (first | exact KC.out _ d8.out | exact KC.out _ d7.out | exact KC.out _ d6.out | exact KC.out _ d5.out | exact KC.out _ d4.out | exact KC.out _ d3.out | exact KC.out _ d2.out | exact KC.out _ d1.out | exact KC.out _ (Below.refl _ _) | go_keep) (first
    | (have hd9 := d7; clear hd9; refine step_callG (by kernel_rfl) 10 #[.slice (some ⟨gm, 0, none⟩) 5 5, .slice u3.a u3.len u3.cap] (by kernel_rfl) ?_; refine (same_yes12 (rowT gm 5 MB) u3 _ (OM6.out.below d7.out) U3.out (show 5 ≤ 8388608 by decide) (MBE.out.trans V3.out.symm)).mono ?_; rintro e9 w9 ⟨rfl, hb9⟩; have d8 := veil (d7.out.trans (hb9.mono d7.out.size)); clear hb9; refine ⟨_, rfl, ?_⟩)
    | (have hd9 := d6; clear hd9; refine step_callG (by kernel_rfl) 25 #[.string maskX] (by kernel_rfl) ?_; refine (unhex_any maskX (by decide) _).mono ?_; rintro e9 w9 ⟨u3, rfl, hu9, hub9, hb9⟩; have d7 := veil (d6.out.trans (hb9.mono d6.out.size)); have U3 := veil hu9; have V3 := veil (hub9.trans hex_mask); clear hu9 hub9 hb9; refine ⟨_, rfl, ?_⟩)
    | (have hd9 := d5; clear hd9; refine step_callG (by kernel_rfl) 10 #[.slice (some ⟨gn, 0, none⟩) 12 12, .slice u2.a u2.len u2.cap] (by kernel_rfl) ?_; refine (same_yes12 (rowN gn 12 nonV12) u2 _ (ON6.out.below d5.out) U2.out (show 12 ≤ 8388608 by decide) (V2.out.symm)).mono ?_; rintro e9 w9 ⟨rfl, hb9⟩; have d6 := veil (d5.out.trans (hb9.mono d5.out.size)); clear hb9; refine ⟨_, rfl, ?_⟩)
    | (have hd9 := d4; clear hd9; refine step_callG (by kernel_rfl) 25 #[.string nonX] (by kernel_rfl) ?_; refine (unhex_any nonX (by decide) _).mono ?_; rintro e9 w9 ⟨u2, rfl, hu9, hub9, hb9⟩; have d5 := veil (d4.out.trans (hb9.mono d4.out.size)); have U2 := veil hu9; have V2 := veil (hub9.trans hex_non); clear hu9 hub9 hb9; refine ⟨_, rfl, ?_⟩)
    | (have hd9 := d3; clear hd9; refine step_callG (by kernel_rfl) 10 #[.slice (some ⟨g1, 0, none⟩) 12 12, .slice u1.a u1.len u1.cap] (by kernel_rfl) ?_; refine (same_yes12 ⟨some ⟨g1, 0, none⟩, 12, 12, g1, 0, ivV12⟩ u1 _ (O16.out.below d3.out) U1.out (show 12 ≤ 8388608 by decide) (V1.out.symm)).mono ?_; rintro e9 w9 ⟨rfl, hb9⟩; have d4 := veil (d3.out.trans (hb9.mono d3.out.size)); clear hb9; refine ⟨_, rfl, ?_⟩)
    | (have hd9 := d2; clear hd9; refine step_callG (by kernel_rfl) 25 #[.string ivX] (by kernel_rfl) ?_; refine (unhex_any ivX (by decide) _).mono ?_; rintro e9 w9 ⟨u1, rfl, hu9, hub9, hb9⟩; have d3 := veil (d2.out.trans (hb9.mono d2.out.size)); have U1 := veil hu9; have V1 := veil (hub9.trans hex_iv); clear hu9 hub9 hb9; refine ⟨_, rfl, ?_⟩)
    | (have hd9 := d1; clear hd9; refine step_callG (by kernel_rfl) 10 #[.slice (some ⟨g0, 0, none⟩) 32 32, .slice u0.a u0.len u0.cap] (by kernel_rfl) ?_; refine (same_yes12 ⟨some ⟨g0, 0, none⟩, 32, 32, g0, 0, keyV12⟩ u0 _ (O06.out.below d1.out) U0.out (show 32 ≤ 8388608 by decide) (V0.out.symm)).mono ?_; rintro e9 w9 ⟨rfl, hb9⟩; have d2 := veil (d1.out.trans (hb9.mono d1.out.size)); clear hb9; refine ⟨_, rfl, ?_⟩)
    | (refine step_callG (by kernel_rfl) 25 #[.string keyX] (by kernel_rfl) ?_; refine (unhex_any keyX (by decide) _).mono ?_; rintro e9 w9 ⟨u0, rfl, hu9, hub9, hb9⟩; have d1 := veil (((Below.refl _ w6).drew).trans hb9); have U0 := veil hu9; have V0 := veil (hub9.trans hex_key); clear hu9 hub9 hb9; refine ⟨_, rfl, ?_⟩))
  have B14 := veil (B6.out.trans (d8.out.mono B6.out.size))
  clear d1 d2 d3 d4 d5 d6 d7 d8 k0 k1 KC
  go_wp2_with fail
  go_ret
  exact ⟨rfl, B14.out⟩
end Go.Proofs.YtlicflmpakkccaaGreatDoor
