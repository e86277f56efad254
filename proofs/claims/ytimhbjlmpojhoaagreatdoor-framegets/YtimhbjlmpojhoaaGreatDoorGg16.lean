/-
  Out of FrFrmH, FrFrmA.
-/
import Derived.Test.YtimhbjlmpojhoaaGreatDoorGgFrStrR

/-! A frame that is answered: what is asked besides. -/
namespace Go.Proofs.YtimhbjlmpojhoaaGreatDoor
open Go Go.RowKit

theorem frM_one (F : FrM) : F.cells.all (·.oneCell') = true := by simp [FrM.cells, Value.oneCell']
theorem own_setRow {w : World} {B e z n : Nat} {v : Value} {xs : List Value} (h : w.ownsRow B e z v n xs) (f : Nat) (cs : Array Value) (hp : ∀ j, v.ownBlock = some j → j ≠ f) : (w.setRow f cs).ownsRow B e z v n xs :=
  h.kept (row := some f) ⟨rfl, rfl, rfl, by simp, fun b _ hb => setRow_other _ _ _ _ (fun e => hb (by rw [e]))⟩ (by
    cases hv : v.ownBlock with
    | none => exact .inl rfl
    | some j => exact .inr (fun e => hp j hv (Option.some.inj e)))
theorem FrNew.lowR {base base' : Nat} {w : World} {F : FrM} (h : FrNew base w F) (hb : base' ≤ base) : FrNew base' w F :=
  ⟨own_low h.data hb, h.dok, own_low2 h.ranges hb, h.rok, h.k8, h.st, h.of, h.li, h.co⟩
theorem FrNew.setRow {base f : Nat} {w : World} {F : FrM} (h : FrNew base w F) (hf : f < base) (cs : Array Value) : FrNew base (w.setRow f cs) F := by
  have h1 := own_setRow h.data f cs (fun j hj => by have := (h.data.lt j hj).1; omega)
  have h2 := own_setRow h.ranges f cs (fun j hj => by have := (h.ranges.lt j hj).1; omega)
  refine ⟨h1, h.dok.same (fun p => setRow_other _ _ _ _ ?_) (by simp), h2, h.rok.same (fun p => setRow_other _ _ _ _ ?_) (by simp), h.k8, h.st, h.of, h.li, h.co⟩
  · have e := h.dok.at_ p
    have := (h.data.lt F.data.g (by rw [e]; rfl)).1
    omega
  · have e := h.rok.at_ p
    have := (h.ranges.lt F.ranges.g (by rw [e]; rfl)).1
    omega
theorem sim_wrongN {α : Type} {m : Fr.R α} {p : Prop} [Decidable p] {b b' : List By} {e e' E : Nat} {a : α} (so : Bool) (hso : so = true ↔ ¬ p) (hE : E ≠ 0) (h : Fr.Sim m b (if so = true ∧ e = 0 then E else e) a b' e') : Fr.Sim (if p then m else Fr.noR E) b e a b' e' := by
  have := Fr.sim_wrong (p := ¬ p) so hso hE h
  by_cases hp : p
  · rw [if_pos hp]; rw [if_neg (fun q => q hp)] at this; exact this
  · rw [if_neg hp]; rw [if_pos hp] at this; exact this
theorem Fr.body_none {N : Nat} (h : ∀ c ∈ ([0, 1, 2, 4, 5, 6, 8, 9, 10, 11, 12, 13, 14, 15, 16, 17, 18, 19, 20, 21, 28, 29, 30] : List Nat), N ≠ c) : ∀ b, Fr.bodyR N b = .error 5 := by
  intro b
  apply Fr.body_not
  unfold Fr.isType
  split <;> first | rfl | exact absurd rfl (h _ (by decide))
theorem sim_no {m : Fr.R Fr.Frame} {b : List By} {e : Nat} {a : Fr.Frame} (h : ∀ c, m c = .error 5) : Fr.Sim m b e a b (if true = true ∧ e = 0 then 5 else e) := by
  refine ⟨fun h0 => .inr ⟨by rw [if_pos ⟨rfl, h0⟩]; decide, by rw [h, if_pos ⟨rfl, h0⟩]⟩, fun h0 => by rw [if_neg (fun q => h0 q.2)]⟩
end Go.Proofs.YtimhbjlmpojhoaaGreatDoor

/-! The document's reader: frame. -/
namespace Go.Proofs.YtimhbjlmpojhoaaGreatDoor
open Go Go.RowKit

set_option maxRecDepth 20000 in
set_option maxHeartbeats 2000000 in
theorem frame0 {base g : Nat} {b : List By} {w : World} (h : Rr base g b 0 w) (hb : base ≤ w.heap.size) (hk : (rdN b 0).1 = 0) :
    Calls Tryz.prog 71 #[.pointer (some ⟨g, 0, none⟩)] w fun x w' => FrOut base g Fr.frameR b 0 w x w' := by
  obtain ⟨W0, hW0⟩ : ∃ W, W = w.alloc (.cells (frC8 0 0 0 0 0 false (.slice none 0 0) (.slice none 0 0)) 37) := ⟨_, rfl⟩
  have r0 : Row W0 w.heap.size 37 (frC8 0 0 0 0 0 false (.slice none 0 0) (.slice none 0 0)) := by rw [hW0]; exact Row.new _ _ _
  have g0 : w.grownBy W0 (some g) := by rw [hW0]; exact grown_alloc _ _
  have KI := veil (kindC (show Rr base g b 0 W0 by rw [hW0]; exact h.alloc hb _))
  have hlt := h.lt
  have HLT := veil hlt
  have HRG := veil (show w.heap.size ≠ g by omega)
  have HRW := veil (Nat.le_refl w.heap.size)
  have HRB := veil hb
  have G0 := veil g0
  have R0 := veil r0
  have HK := veil hk
  clear r0 g0 h hb hlt hk
  go_enter Tryz.func71, Tryz.ntmps71
  go_wp2_with fail
  show Calls _ _ _ (w.alloc (.cells (frC8 0 0 0 0 0 false (.slice none 0 0) (.slice none 0 0)) 37)) _
  rw [← hW0]
  clear hW0
  refine KI.out.mono ?_
  rintro xx w1 ⟨nk, b0, e0, rfl, hnk, hs, hr, hg⟩
  obtain rfl : nk = 0 := by rw [hnk, HK.out]
  have S0 := veil hs
  have gg := G0.out.trans hg
  have hsz := gg.size
  have hlt := HLT.out
  have HFW := veil hsz
  have HFB := veil (show base ≤ w1.heap.size by have := HRB.out; omega)
  have hrw1 := (Row.grown R0.out hg HRG.out).lt
  have HRF := veil (show w.heap.size ≠ w1.heap.size by omega)
  have HFG := veil (show w1.heap.size ≠ g by omega)
  have hrf : w.heap.size ≠ w1.heap.size := HRF.out
  have RF1 : Hid (Row (w1.alloc (.cells #[.int .u8 1, .int .u64 0, .int .u64 0, .int .u64 1, .int .u64 0, .bool false, .slice none 0 0, .slice none 0 0] 37)) w1.heap.size 37 (frC8 1 0 0 1 0 false (.slice none 0 0) (.slice none 0 0))) := Row.new _ _ _
  have RR1 : Hid (Row (w1.alloc (.cells #[.int .u8 1, .int .u64 0, .int .u64 0, .int .u64 1, .int .u64 0, .bool false, .slice none 0 0, .slice none 0 0] 37)) w.heap.size 37 (frC8 0 0 0 0 0 false (.slice none 0 0) (.slice none 0 0))) := (Row.grown R0.out hg HRG.out).alloc _
  have GG1 : Hid (w.grownBy (w1.alloc (.cells #[.int .u8 1, .int .u64 0, .int .u64 0, .int .u64 1, .int .u64 0, .bool false, .slice none 0 0, .slice none 0 0] 37)) (some g)) := gg.trans (grown_alloc _ _)
  have RD1 : Hid (Rr base g b0 e0 (w1.alloc (.cells #[.int .u8 1, .int .u64 0, .int .u64 0, .int .u64 1, .int .u64 0, .bool false, .slice none 0 0, .slice none 0 0] 37))) := hr.alloc HFB.out _
  clear hs hr hg gg hsz hlt hrw1 hnk KI R0 G0
  obtain ⟨c0, c1, c2, c3, c4, c5, c6, c7⟩ := frC8_cells RF1.out
  obtain ⟨y0, y1, y2, y3, y4, y5, y6, y7⟩ := frC8_cells RR1.out
  obtain ⟨z0, z1, z2, z3, z4, z5, z6, z7⟩ := frC8_fz RF1.out
  obtain ⟨x0, x1, x2, x3, x4, x5, x6, x7⟩ := frC8_fz RR1.out
  go_wp2_with fail
  have hfin : Fin base g w _ (w.heap.size) 1 0 0 1 0 false (.slice none 0 0) [] _ _ := ⟨RD1.out, GG1.out, RR1.out, HRW.out, HRB.out, World.ownsRow_nil _ _ _ _, (fun z hz => by cases hz), by decide, Nat.zero_le _, Nat.zero_le _, by decide, Nat.zero_le _⟩
  obtain ⟨F, q1, q2, q3, q4, q5, q6⟩ := hfin.done
  refine bodyPost_ret (result_frame rfl _ _ (w.heap.size) _ _ q6 8 _ rfl Tryz.underlying37 (by kernel_rfl) rfl) rfl ⟨F, _, _, by rw [q1], q3, ?_, q4, q5⟩
  rw [q2, Fr.frameR_kind]
  exact Fr.sim_then S0.out (show Fr.Sim (Fr.bodyR 0) _ _ _ _ _ from Fr.sim_ok _ _ _)

set_option maxRecDepth 20000 in
set_option maxHeartbeats 2000000 in
theorem frame1 {base g : Nat} {b : List By} {w : World} (h : Rr base g b 0 w) (hb : base ≤ w.heap.size) (hk : (rdN b 0).1 = 1) :
    Calls Tryz.prog 71 #[.pointer (some ⟨g, 0, none⟩)] w fun x w' => FrOut base g Fr.frameR b 0 w x w' := by
  obtain ⟨W0, hW0⟩ : ∃ W, W = w.alloc (.cells (frC8 0 0 0 0 0 false (.slice none 0 0) (.slice none 0 0)) 37) := ⟨_, rfl⟩
  have r0 : Row W0 w.heap.size 37 (frC8 0 0 0 0 0 false (.slice none 0 0) (.slice none 0 0)) := by rw [hW0]; exact Row.new _ _ _
  have g0 : w.grownBy W0 (some g) := by rw [hW0]; exact grown_alloc _ _
  have KI := veil (kindC (show Rr base g b 0 W0 by rw [hW0]; exact h.alloc hb _))
  have hlt := h.lt
  have HLT := veil hlt
  have HRG := veil (show w.heap.size ≠ g by omega)
  have HRW := veil (Nat.le_refl w.heap.size)
  have HRB := veil hb
  have G0 := veil g0
  have R0 := veil r0
  have HK := veil hk
  clear r0 g0 h hb hlt hk
  go_enter Tryz.func71, Tryz.ntmps71
  go_wp2_with fail
  show Calls _ _ _ (w.alloc (.cells (frC8 0 0 0 0 0 false (.slice none 0 0) (.slice none 0 0)) 37)) _
  rw [← hW0]
  clear hW0
  refine KI.out.mono ?_
  rintro xx w1 ⟨nk, b0, e0, rfl, hnk, hs, hr, hg⟩
  obtain rfl : nk = 1 := by rw [hnk, HK.out]
  have S0 := veil hs
  have gg := G0.out.trans hg
  have hsz := gg.size
  have hlt := HLT.out
  have HFW := veil hsz
  have HFB := veil (show base ≤ w1.heap.size by have := HRB.out; omega)
  have hrw1 := (Row.grown R0.out hg HRG.out).lt
  have HRF := veil (show w.heap.size ≠ w1.heap.size by omega)
  have HFG := veil (show w1.heap.size ≠ g by omega)
  have hrf : w.heap.size ≠ w1.heap.size := HRF.out
  have RF1 : Hid (Row (w1.alloc (.cells #[.int .u8 2, .int .u64 0, .int .u64 0, .int .u64 0, .int .u64 0, .bool false, .slice none 0 0, .slice none 0 0] 37)) w1.heap.size 37 (frC8 2 0 0 0 0 false (.slice none 0 0) (.slice none 0 0))) := Row.new _ _ _
  have RR1 : Hid (Row (w1.alloc (.cells #[.int .u8 2, .int .u64 0, .int .u64 0, .int .u64 0, .int .u64 0, .bool false, .slice none 0 0, .slice none 0 0] 37)) w.heap.size 37 (frC8 0 0 0 0 0 false (.slice none 0 0) (.slice none 0 0))) := (Row.grown R0.out hg HRG.out).alloc _
  have GG1 : Hid (w.grownBy (w1.alloc (.cells #[.int .u8 2, .int .u64 0, .int .u64 0, .int .u64 0, .int .u64 0, .bool false, .slice none 0 0, .slice none 0 0] 37)) (some g)) := gg.trans (grown_alloc _ _)
  have RD1 : Hid (Rr base g b0 e0 (w1.alloc (.cells #[.int .u8 2, .int .u64 0, .int .u64 0, .int .u64 0, .int .u64 0, .bool false, .slice none 0 0, .slice none 0 0] 37))) := hr.alloc HFB.out _
  clear hs hr hg gg hsz hlt hrw1 hnk KI R0 G0
  obtain ⟨c0, c1, c2, c3, c4, c5, c6, c7⟩ := frC8_cells RF1.out
  obtain ⟨y0, y1, y2, y3, y4, y5, y6, y7⟩ := frC8_cells RR1.out
  obtain ⟨z0, z1, z2, z3, z4, z5, z6, z7⟩ := frC8_fz RF1.out
  obtain ⟨x0, x1, x2, x3, x4, x5, x6, x7⟩ := frC8_fz RR1.out
  go_wp2_with fail
  have hfin : Fin base g w _ (w.heap.size) 2 0 0 0 0 false (.slice none 0 0) [] _ _ := ⟨RD1.out, GG1.out, RR1.out, HRW.out, HRB.out, World.ownsRow_nil _ _ _ _, (fun z hz => by cases hz), by decide, Nat.zero_le _, Nat.zero_le _, Nat.zero_le _, Nat.zero_le _⟩
  obtain ⟨F, q1, q2, q3, q4, q5, q6⟩ := hfin.done
  refine bodyPost_ret (result_frame rfl _ _ (w.heap.size) _ _ q6 8 _ rfl Tryz.underlying37 (by kernel_rfl) rfl) rfl ⟨F, _, _, by rw [q1], q3, ?_, q4, q5⟩
  rw [q2, Fr.frameR_kind]
  exact Fr.sim_then S0.out (show Fr.Sim (Fr.bodyR 1) _ _ _ _ _ from Fr.sim_ok _ _ _)

set_option maxRecDepth 20000 in
set_option maxHeartbeats 2000000 in
theorem frame4 {base g : Nat} {b : List By} {w : World} (h : Rr base g b 0 w) (hb : base ≤ w.heap.size) (hk : (rdN b 0).1 = 4) :
    Calls Tryz.prog 71 #[.pointer (some ⟨g, 0, none⟩)] w fun x w' => FrOut base g Fr.frameR b 0 w x w' := by
  obtain ⟨W0, hW0⟩ : ∃ W, W = w.alloc (.cells (frC8 0 0 0 0 0 false (.slice none 0 0) (.slice none 0 0)) 37) := ⟨_, rfl⟩
  have r0 : Row W0 w.heap.size 37 (frC8 0 0 0 0 0 false (.slice none 0 0) (.slice none 0 0)) := by rw [hW0]; exact Row.new _ _ _
  have g0 : w.grownBy W0 (some g) := by rw [hW0]; exact grown_alloc _ _
  have KI := veil (kindC (show Rr base g b 0 W0 by rw [hW0]; exact h.alloc hb _))
  have hlt := h.lt
  have HLT := veil hlt
  have HRG := veil (show w.heap.size ≠ g by omega)
  have HRW := veil (Nat.le_refl w.heap.size)
  have HRB := veil hb
  have G0 := veil g0
  have R0 := veil r0
  have HK := veil hk
  clear r0 g0 h hb hlt hk
  go_enter Tryz.func71, Tryz.ntmps71
  go_wp2_with fail
  show Calls _ _ _ (w.alloc (.cells (frC8 0 0 0 0 0 false (.slice none 0 0) (.slice none 0 0)) 37)) _
  rw [← hW0]
  clear hW0
  refine KI.out.mono ?_
  rintro xx w1 ⟨nk, b0, e0, rfl, hnk, hs, hr, hg⟩
  obtain rfl : nk = 4 := by rw [hnk, HK.out]
  have S0 := veil hs
  have gg := G0.out.trans hg
  have hsz := gg.size
  have hlt := HLT.out
  have HFW := veil hsz
  have HFB := veil (show base ≤ w1.heap.size by have := HRB.out; omega)
  have hrw1 := (Row.grown R0.out hg HRG.out).lt
  have HRF := veil (show w.heap.size ≠ w1.heap.size by omega)
  have HFG := veil (show w1.heap.size ≠ g by omega)
  have hrf : w.heap.size ≠ w1.heap.size := HRF.out
  have RF1 : Hid (Row (w1.alloc (.cells #[.int .u8 4, .int .u64 0, .int .u64 0, .int .u64 0, .int .u64 0, .bool false, .slice none 0 0, .slice none 0 0] 37)) w1.heap.size 37 (frC8 4 0 0 0 0 false (.slice none 0 0) (.slice none 0 0))) := Row.new _ _ _
  have RR1 : Hid (Row (w1.alloc (.cells #[.int .u8 4, .int .u64 0, .int .u64 0, .int .u64 0, .int .u64 0, .bool false, .slice none 0 0, .slice none 0 0] 37)) w.heap.size 37 (frC8 0 0 0 0 0 false (.slice none 0 0) (.slice none 0 0))) := (Row.grown R0.out hg HRG.out).alloc _
  have GG1 : Hid (w.grownBy (w1.alloc (.cells #[.int .u8 4, .int .u64 0, .int .u64 0, .int .u64 0, .int .u64 0, .bool false, .slice none 0 0, .slice none 0 0] 37)) (some g)) := gg.trans (grown_alloc _ _)
  have RD1 : Hid (Rr base g b0 e0 (w1.alloc (.cells #[.int .u8 4, .int .u64 0, .int .u64 0, .int .u64 0, .int .u64 0, .bool false, .slice none 0 0, .slice none 0 0] 37))) := hr.alloc HFB.out _
  clear hs hr hg gg hsz hlt hrw1 hnk KI R0 G0
  obtain ⟨c0, c1, c2, c3, c4, c5, c6, c7⟩ := frC8_cells RF1.out
  obtain ⟨y0, y1, y2, y3, y4, y5, y6, y7⟩ := frC8_cells RR1.out
  obtain ⟨z0, z1, z2, z3, z4, z5, z6, z7⟩ := frC8_fz RF1.out
  obtain ⟨x0, x1, x2, x3, x4, x5, x6, x7⟩ := frC8_fz RR1.out
  go_wp2_with fail
  refine (numberC RD1.out).mono ?_
  rintro xx w2 ⟨n1, b1, e1, rfl, hn, hs, hr, hg⟩
  have RF2 := veil (Row.grown (RF1.out : Row _ w1.heap.size 37 (frC8 4 0 0 0 0 false (.slice none 0 0) (.slice none 0 0))) hg HFG.out)
  have RR2 := veil (Row.grown RR1.out hg HRG.out)
  have GG2 := veil (GG1.out.trans hg)
  have RD2 := veil hr
  have HN1 := veil hn
  have S1 := veil hs
  clear hn hs
  clear c0 c1 c2 c3 c4 c5 c6 c7 y0 y1 y2 y3 y4 y5 y6 y7 z0 z1 z2 z3 z4 z5 z6 z7 x0 x1 x2 x3 x4 x5 x6 x7
  clear hr hg RF1 RR1 RD1
  obtain ⟨c0, c1, c2, c3, c4, c5, c6, c7⟩ := frC8_cells RF2.out
  obtain ⟨y0, y1, y2, y3, y4, y5, y6, y7⟩ := frC8_cells RR2.out
  obtain ⟨z0, z1, z2, z3, z4, z5, z6, z7⟩ := frC8_fz RF2.out
  obtain ⟨x0, x1, x2, x3, x4, x5, x6, x7⟩ := frC8_fz RR2.out
  go_wp2_with fail
  refine (numberC (RD2.out.set HFB.out 1 (.int .u64 ((n1 : Nat) : Int)))).mono ?_
  rintro xx w3 ⟨n2, b2, e2, rfl, hn, hs, hr, hg⟩
  have RF3 := veil (Row.grown ((RF2.out.set 1 (.int .u64 ((n1 : Nat) : Int))) : Row _ w1.heap.size 37 (frC8 4 n1 0 0 0 false (.slice none 0 0) (.slice none 0 0))) hg HFG.out)
  have RR3 := veil (Row.grown (RR2.out.other (a := ⟨w1.heap.size, 1, none⟩) HRF.out (.int .u64 ((n1 : Nat) : Int))) hg HRG.out)
  have GG3 := veil ((gset GG2.out HFW.out 1 (.int .u64 ((n1 : Nat) : Int))).trans hg)
  have RD3 := veil hr
  have HN2 := veil hn
  have S2 := veil hs
  clear hn hs
  clear c0 c1 c2 c3 c4 c5 c6 c7 y0 y1 y2 y3 y4 y5 y6 y7 z0 z1 z2 z3 z4 z5 z6 z7 x0 x1 x2 x3 x4 x5 x6 x7
  clear hr hg RF2 RR2 RD2
  obtain ⟨c0, c1, c2, c3, c4, c5, c6, c7⟩ := frC8_cells RF3.out
  obtain ⟨y0, y1, y2, y3, y4, y5, y6, y7⟩ := frC8_cells RR3.out
  obtain ⟨z0, z1, z2, z3, z4, z5, z6, z7⟩ := frC8_fz RF3.out
  obtain ⟨x0, x1, x2, x3, x4, x5, x6, x7⟩ := frC8_fz RR3.out
  go_wp2_with fail
  refine (numberC (RD3.out.set HFB.out 4 (.int .u64 ((n2 : Nat) : Int)))).mono ?_
  rintro xx w4 ⟨n3, b3, e3, rfl, hn, hs, hr, hg⟩
  have RF4 := veil (Row.grown ((RF3.out.set 4 (.int .u64 ((n2 : Nat) : Int))) : Row _ w1.heap.size 37 (frC8 4 n1 0 0 n2 false (.slice none 0 0) (.slice none 0 0))) hg HFG.out)
  have RR4 := veil (Row.grown (RR3.out.other (a := ⟨w1.heap.size, 4, none⟩) HRF.out (.int .u64 ((n2 : Nat) : Int))) hg HRG.out)
  have GG4 := veil ((gset GG3.out HFW.out 4 (.int .u64 ((n2 : Nat) : Int))).trans hg)
  have RD4 := veil hr
  have HN3 := veil hn
  have S3 := veil hs
  clear hn hs
  clear c0 c1 c2 c3 c4 c5 c6 c7 y0 y1 y2 y3 y4 y5 y6 y7 z0 z1 z2 z3 z4 z5 z6 z7 x0 x1 x2 x3 x4 x5 x6 x7
  clear hr hg RF3 RR3 RD3
  obtain ⟨c0, c1, c2, c3, c4, c5, c6, c7⟩ := frC8_cells RF4.out
  obtain ⟨y0, y1, y2, y3, y4, y5, y6, y7⟩ := frC8_cells RR4.out
  obtain ⟨z0, z1, z2, z3, z4, z5, z6, z7⟩ := frC8_fz RF4.out
  obtain ⟨x0, x1, x2, x3, x4, x5, x6, x7⟩ := frC8_fz RR4.out
  go_wp2_with fail
  have hfin : Fin base g w _ (w.heap.size) 4 n1 0 n3 n2 false (.slice none 0 0) [] _ _ := ⟨(RD4.out.set HFB.out 3 (.int .u64 ((n3 : Nat) : Int))), (gset GG4.out HFW.out 3 (.int .u64 ((n3 : Nat) : Int))), (RR4.out.other (a := ⟨w1.heap.size, 3, none⟩) HRF.out (.int .u64 ((n3 : Nat) : Int))), HRW.out, HRB.out, World.ownsRow_nil _ _ _ _, (fun z hz => by cases hz), by decide, HN1.out, Nat.zero_le _, HN3.out, HN2.out⟩
  obtain ⟨F, q1, q2, q3, q4, q5, q6⟩ := hfin.done
  refine bodyPost_ret (result_frame rfl _ _ (w.heap.size) _ _ q6 8 _ rfl Tryz.underlying37 (by kernel_rfl) rfl) rfl ⟨F, _, _, by rw [q1], q3, ?_, q4, q5⟩
  rw [q2, Fr.frameR_kind]
  exact Fr.sim_then S0.out (show Fr.Sim (Fr.bodyR 4) _ _ _ _ _ from (Fr.sim_then S1.out (Fr.sim_then S2.out (Fr.sim_then S3.out (Fr.sim_ok _ _ _)))))

set_option maxRecDepth 20000 in
set_option maxHeartbeats 2000000 in
theorem frame5 {base g : Nat} {b : List By} {w : World} (h : Rr base g b 0 w) (hb : base ≤ w.heap.size) (hk : (rdN b 0).1 = 5) :
    Calls Tryz.prog 71 #[.pointer (some ⟨g, 0, none⟩)] w fun x w' => FrOut base g Fr.frameR b 0 w x w' := by
  obtain ⟨W0, hW0⟩ : ∃ W, W = w.alloc (.cells (frC8 0 0 0 0 0 false (.slice none 0 0) (.slice none 0 0)) 37) := ⟨_, rfl⟩
  have r0 : Row W0 w.heap.size 37 (frC8 0 0 0 0 0 false (.slice none 0 0) (.slice none 0 0)) := by rw [hW0]; exact Row.new _ _ _
  have g0 : w.grownBy W0 (some g) := by rw [hW0]; exact grown_alloc _ _
  have KI := veil (kindC (show Rr base g b 0 W0 by rw [hW0]; exact h.alloc hb _))
  have hlt := h.lt
  have HLT := veil hlt
  have HRG := veil (show w.heap.size ≠ g by omega)
  have HRW := veil (Nat.le_refl w.heap.size)
  have HRB := veil hb
  have G0 := veil g0
  have R0 := veil r0
  have HK := veil hk
  clear r0 g0 h hb hlt hk
  go_enter Tryz.func71, Tryz.ntmps71
  go_wp2_with fail
  show Calls _ _ _ (w.alloc (.cells (frC8 0 0 0 0 0 false (.slice none 0 0) (.slice none 0 0)) 37)) _
  rw [← hW0]
  clear hW0
  refine KI.out.mono ?_
  rintro xx w1 ⟨nk, b0, e0, rfl, hnk, hs, hr, hg⟩
  obtain rfl : nk = 5 := by rw [hnk, HK.out]
  have S0 := veil hs
  have gg := G0.out.trans hg
  have hsz := gg.size
  have hlt := HLT.out
  have HFW := veil hsz
  have HFB := veil (show base ≤ w1.heap.size by have := HRB.out; omega)
  have hrw1 := (Row.grown R0.out hg HRG.out).lt
  have HRF := veil (show w.heap.size ≠ w1.heap.size by omega)
  have HFG := veil (show w1.heap.size ≠ g by omega)
  have hrf : w.heap.size ≠ w1.heap.size := HRF.out
  have RF1 : Hid (Row (w1.alloc (.cells #[.int .u8 5, .int .u64 0, .int .u64 0, .int .u64 0, .int .u64 0, .bool false, .slice none 0 0, .slice none 0 0] 37)) w1.heap.size 37 (frC8 5 0 0 0 0 false (.slice none 0 0) (.slice none 0 0))) := Row.new _ _ _
  have RR1 : Hid (Row (w1.alloc (.cells #[.int .u8 5, .int .u64 0, .int .u64 0, .int .u64 0, .int .u64 0, .bool false, .slice none 0 0, .slice none 0 0] 37)) w.heap.size 37 (frC8 0 0 0 0 0 false (.slice none 0 0) (.slice none 0 0))) := (Row.grown R0.out hg HRG.out).alloc _
  have GG1 : Hid (w.grownBy (w1.alloc (.cells #[.int .u8 5, .int .u64 0, .int .u64 0, .int .u64 0, .int .u64 0, .bool false, .slice none 0 0, .slice none 0 0] 37)) (some g)) := gg.trans (grown_alloc _ _)
  have RD1 : Hid (Rr base g b0 e0 (w1.alloc (.cells #[.int .u8 5, .int .u64 0, .int .u64 0, .int .u64 0, .int .u64 0, .bool false, .slice none 0 0, .slice none 0 0] 37))) := hr.alloc HFB.out _
  clear hs hr hg gg hsz hlt hrw1 hnk KI R0 G0
  obtain ⟨c0, c1, c2, c3, c4, c5, c6, c7⟩ := frC8_cells RF1.out
  obtain ⟨y0, y1, y2, y3, y4, y5, y6, y7⟩ := frC8_cells RR1.out
  obtain ⟨z0, z1, z2, z3, z4, z5, z6, z7⟩ := frC8_fz RF1.out
  obtain ⟨x0, x1, x2, x3, x4, x5, x6, x7⟩ := frC8_fz RR1.out
  go_wp2_with fail
  refine (numberC RD1.out).mono ?_
  rintro xx w2 ⟨n1, b1, e1, rfl, hn, hs, hr, hg⟩
  have RF2 := veil (Row.grown (RF1.out : Row _ w1.heap.size 37 (frC8 5 0 0 0 0 false (.slice none 0 0) (.slice none 0 0))) hg HFG.out)
  have RR2 := veil (Row.grown RR1.out hg HRG.out)
  have GG2 := veil (GG1.out.trans hg)
  have RD2 := veil hr
  have HN1 := veil hn
  have S1 := veil hs
  clear hn hs
  clear c0 c1 c2 c3 c4 c5 c6 c7 y0 y1 y2 y3 y4 y5 y6 y7 z0 z1 z2 z3 z4 z5 z6 z7 x0 x1 x2 x3 x4 x5 x6 x7
  clear hr hg RF1 RR1 RD1
  obtain ⟨c0, c1, c2, c3, c4, c5, c6, c7⟩ := frC8_cells RF2.out
  obtain ⟨y0, y1, y2, y3, y4, y5, y6, y7⟩ := frC8_cells RR2.out
  obtain ⟨z0, z1, z2, z3, z4, z5, z6, z7⟩ := frC8_fz RF2.out
  obtain ⟨x0, x1, x2, x3, x4, x5, x6, x7⟩ := frC8_fz RR2.out
  go_wp2_with fail
  refine (numberC (RD2.out.set HFB.out 1 (.int .u64 ((n1 : Nat) : Int)))).mono ?_
  rintro xx w3 ⟨n2, b2, e2, rfl, hn, hs, hr, hg⟩
  have RF3 := veil (Row.grown ((RF2.out.set 1 (.int .u64 ((n1 : Nat) : Int))) : Row _ w1.heap.size 37 (frC8 5 n1 0 0 0 false (.slice none 0 0) (.slice none 0 0))) hg HFG.out)
  have RR3 := veil (Row.grown (RR2.out.other (a := ⟨w1.heap.size, 1, none⟩) HRF.out (.int .u64 ((n1 : Nat) : Int))) hg HRG.out)
  have GG3 := veil ((gset GG2.out HFW.out 1 (.int .u64 ((n1 : Nat) : Int))).trans hg)
  have RD3 := veil hr
  have HN2 := veil hn
  have S2 := veil hs
  clear hn hs
  clear c0 c1 c2 c3 c4 c5 c6 c7 y0 y1 y2 y3 y4 y5 y6 y7 z0 z1 z2 z3 z4 z5 z6 z7 x0 x1 x2 x3 x4 x5 x6 x7
  clear hr hg RF2 RR2 RD2
  obtain ⟨c0, c1, c2, c3, c4, c5, c6, c7⟩ := frC8_cells RF3.out
  obtain ⟨y0, y1, y2, y3, y4, y5, y6, y7⟩ := frC8_cells RR3.out
  obtain ⟨z0, z1, z2, z3, z4, z5, z6, z7⟩ := frC8_fz RF3.out
  obtain ⟨x0, x1, x2, x3, x4, x5, x6, x7⟩ := frC8_fz RR3.out
  go_wp2_with fail
  have hfin : Fin base g w _ (w.heap.size) 5 n1 0 0 n2 false (.slice none 0 0) [] _ _ := ⟨(RD3.out.set HFB.out 4 (.int .u64 ((n2 : Nat) : Int))), (gset GG3.out HFW.out 4 (.int .u64 ((n2 : Nat) : Int))), (RR3.out.other (a := ⟨w1.heap.size, 4, none⟩) HRF.out (.int .u64 ((n2 : Nat) : Int))), HRW.out, HRB.out, World.ownsRow_nil _ _ _ _, (fun z hz => by cases hz), by decide, HN1.out, Nat.zero_le _, Nat.zero_le _, HN2.out⟩
  obtain ⟨F, q1, q2, q3, q4, q5, q6⟩ := hfin.done
  refine bodyPost_ret (result_frame rfl _ _ (w.heap.size) _ _ q6 8 _ rfl Tryz.underlying37 (by kernel_rfl) rfl) rfl ⟨F, _, _, by rw [q1], q3, ?_, q4, q5⟩
  rw [q2, Fr.frameR_kind]
  exact Fr.sim_then S0.out (show Fr.Sim (Fr.bodyR 5) _ _ _ _ _ from (Fr.sim_then S1.out (Fr.sim_then S2.out (Fr.sim_ok _ _ _))))

set_option maxRecDepth 20000 in
set_option maxHeartbeats 2000000 in
theorem frame6 {base g : Nat} {b : List By} {w : World} (h : Rr base g b 0 w) (hb : base ≤ w.heap.size) (hk : (rdN b 0).1 = 6) :
    Calls Tryz.prog 71 #[.pointer (some ⟨g, 0, none⟩)] w fun x w' => FrOut base g Fr.frameR b 0 w x w' := by
  obtain ⟨W0, hW0⟩ : ∃ W, W = w.alloc (.cells (frC8 0 0 0 0 0 false (.slice none 0 0) (.slice none 0 0)) 37) := ⟨_, rfl⟩
  have r0 : Row W0 w.heap.size 37 (frC8 0 0 0 0 0 false (.slice none 0 0) (.slice none 0 0)) := by rw [hW0]; exact Row.new _ _ _
  have g0 : w.grownBy W0 (some g) := by rw [hW0]; exact grown_alloc _ _
  have KI := veil (kindC (show Rr base g b 0 W0 by rw [hW0]; exact h.alloc hb _))
  have hlt := h.lt
  have HLT := veil hlt
  have HRG := veil (show w.heap.size ≠ g by omega)
  have HRW := veil (Nat.le_refl w.heap.size)
  have HRB := veil hb
  have G0 := veil g0
  have R0 := veil r0
  have HK := veil hk
  clear r0 g0 h hb hlt hk
  go_enter Tryz.func71, Tryz.ntmps71
  go_wp2_with fail
  show Calls _ _ _ (w.alloc (.cells (frC8 0 0 0 0 0 false (.slice none 0 0) (.slice none 0 0)) 37)) _
  rw [← hW0]
  clear hW0
  refine KI.out.mono ?_
  rintro xx w1 ⟨nk, b0, e0, rfl, hnk, hs, hr, hg⟩
  obtain rfl : nk = 6 := by rw [hnk, HK.out]
  have S0 := veil hs
  have gg := G0.out.trans hg
  have hsz := gg.size
  have hlt := HLT.out
  have HFW := veil hsz
  have HFB := veil (show base ≤ w1.heap.size by have := HRB.out; omega)
  have hrw1 := (Row.grown R0.out hg HRG.out).lt
  have HRF := veil (show w.heap.size ≠ w1.heap.size by omega)
  have HFG := veil (show w1.heap.size ≠ g by omega)
  have hrf : w.heap.size ≠ w1.heap.size := HRF.out
  have RF1 : Hid (Row (w1.alloc (.cells #[.int .u8 6, .int .u64 0, .int .u64 0, .int .u64 0, .int .u64 0, .bool false, .slice none 0 0, .slice none 0 0] 37)) w1.heap.size 37 (frC8 6 0 0 0 0 false (.slice none 0 0) (.slice none 0 0))) := Row.new _ _ _
  have RR1 : Hid (Row (w1.alloc (.cells #[.int .u8 6, .int .u64 0, .int .u64 0, .int .u64 0, .int .u64 0, .bool false, .slice none 0 0, .slice none 0 0] 37)) w.heap.size 37 (frC8 0 0 0 0 0 false (.slice none 0 0) (.slice none 0 0))) := (Row.grown R0.out hg HRG.out).alloc _
  have GG1 : Hid (w.grownBy (w1.alloc (.cells #[.int .u8 6, .int .u64 0, .int .u64 0, .int .u64 0, .int .u64 0, .bool false, .slice none 0 0, .slice none 0 0] 37)) (some g)) := gg.trans (grown_alloc _ _)
  have RD1 : Hid (Rr base g b0 e0 (w1.alloc (.cells #[.int .u8 6, .int .u64 0, .int .u64 0, .int .u64 0, .int .u64 0, .bool false, .slice none 0 0, .slice none 0 0] 37))) := hr.alloc HFB.out _
  clear hs hr hg gg hsz hlt hrw1 hnk KI R0 G0
  obtain ⟨c0, c1, c2, c3, c4, c5, c6, c7⟩ := frC8_cells RF1.out
  obtain ⟨y0, y1, y2, y3, y4, y5, y6, y7⟩ := frC8_cells RR1.out
  obtain ⟨z0, z1, z2, z3, z4, z5, z6, z7⟩ := frC8_fz RF1.out
  obtain ⟨x0, x1, x2, x3, x4, x5, x6, x7⟩ := frC8_fz RR1.out
  go_wp2_with fail
  refine (numberC RD1.out).mono ?_
  rintro xx w2 ⟨n1, b1, e1, rfl, hn, hs, hr, hg⟩
  have RF2 := veil (Row.grown (RF1.out : Row _ w1.heap.size 37 (frC8 6 0 0 0 0 false (.slice none 0 0) (.slice none 0 0))) hg HFG.out)
  have RR2 := veil (Row.grown RR1.out hg HRG.out)
  have GG2 := veil (GG1.out.trans hg)
  have RD2 := veil hr
  have HN1 := veil hn
  have S1 := veil hs
  clear hn hs
  clear c0 c1 c2 c3 c4 c5 c6 c7 y0 y1 y2 y3 y4 y5 y6 y7 z0 z1 z2 z3 z4 z5 z6 z7 x0 x1 x2 x3 x4 x5 x6 x7
  clear hr hg RF1 RR1 RD1
  obtain ⟨c0, c1, c2, c3, c4, c5, c6, c7⟩ := frC8_cells RF2.out
  obtain ⟨y0, y1, y2, y3, y4, y5, y6, y7⟩ := frC8_cells RR2.out
  obtain ⟨z0, z1, z2, z3, z4, z5, z6, z7⟩ := frC8_fz RF2.out
  obtain ⟨x0, x1, x2, x3, x4, x5, x6, x7⟩ := frC8_fz RR2.out
  go_wp2_with fail
  refine (placedC (RD2.out.set HFB.out 2 (.int .u64 ((n1 : Nat) : Int))) n1 HN1.out).mono ?_
  rintro xx w3 ⟨a, k, c, L, b2, e2, rfl, hd, hs, hr, hg⟩
  have RF3 := veil (Row.grown ((RF2.out.set 2 (.int .u64 ((n1 : Nat) : Int))) : Row _ w1.heap.size 37 (frC8 6 0 n1 0 0 false (.slice none 0 0) (.slice none 0 0))) hg HFG.out)
  have RR3 := veil (Row.grown (RR2.out.other (a := ⟨w1.heap.size, 2, none⟩) HRF.out (.int .u64 ((n1 : Nat) : Int))) hg HRG.out)
  have GG3 := veil ((gset GG2.out HFW.out 2 (.int .u64 ((n1 : Nat) : Int))).trans hg)
  have RD3 := veil hr
  have GZ := veil (show w.heap.size ≤ _ from (gset GG2.out HFW.out 2 (.int .u64 ((n1 : Nat) : Int))).size)
  have HDF : Hid (∀ z, (Value.slice a k c).ownBlock = some z → z ≠ w1.heap.size) := fun z hz => by have h1 := (hd.lt z hz).1; have h2 := ((RF2.out.set 2 (.int .u64 ((n1 : Nat) : Int))) : Row _ w1.heap.size 37 (frC8 6 0 n1 0 0 false (.slice none 0 0) (.slice none 0 0))).lt; intro q; rw [q] at h1; (try simp at h1 h2); omega
  have HDR : Hid (∀ z, (Value.slice a k c).ownBlock = some z → z ≠ w.heap.size) := fun z hz => by have h1 := (hd.lt z hz).1; have h2 := (RR2.out.other (a := ⟨w1.heap.size, 2, none⟩) HRF.out (.int .u64 ((n1 : Nat) : Int))).lt; intro q; rw [q] at h1; (try simp at h1 h2); omega
  have DR3 := veil (show RowK w.heap.size L _ _ from own_low hd GZ.out)
  have S2 := veil hs
  clear hd hs
  clear c0 c1 c2 c3 c4 c5 c6 c7 y0 y1 y2 y3 y4 y5 y6 y7 z0 z1 z2 z3 z4 z5 z6 z7 x0 x1 x2 x3 x4 x5 x6 x7
  clear hr hg RF2 RR2 RD2
  obtain ⟨c0, c1, c2, c3, c4, c5, c6, c7⟩ := frC8_cells RF3.out
  obtain ⟨y0, y1, y2, y3, y4, y5, y6, y7⟩ := frC8_cells RR3.out
  obtain ⟨z0, z1, z2, z3, z4, z5, z6, z7⟩ := frC8_fz RF3.out
  obtain ⟨x0, x1, x2, x3, x4, x5, x6, x7⟩ := frC8_fz RR3.out
  go_wp2_with fail
  have hfin : Fin base g w _ (w.heap.size) 6 0 n1 0 0 false (.slice a k c) L _ _ := ⟨(RD3.out.set HFB.out 6 (.slice a k c)), (gset GG3.out HFW.out 6 (.slice a k c)), (RR3.out.other (a := ⟨w1.heap.size, 6, none⟩) HRF.out (.slice a k c)), HRW.out, HRB.out, (own_set DR3.out (w1.heap.size) 6 (.slice a k c) HDF.out), HDR.out, by decide, Nat.zero_le _, HN1.out, Nat.zero_le _, Nat.zero_le _⟩
  obtain ⟨F, q1, q2, q3, q4, q5, q6⟩ := hfin.done
  refine bodyPost_ret (result_frame rfl _ _ (w.heap.size) _ _ q6 8 _ rfl Tryz.underlying37 (by kernel_rfl) rfl) rfl ⟨F, _, _, by rw [q1], q3, ?_, q4, q5⟩
  rw [q2, Fr.frameR_kind]
  exact Fr.sim_then S0.out (show Fr.Sim (Fr.bodyR 6) _ _ _ _ _ from Fr.sim_then S1.out (Fr.sim_then S2.out (Fr.sim_ok _ _ _)))

set_option maxRecDepth 20000 in
set_option maxHeartbeats 2000000 in
theorem frame16 {base g : Nat} {b : List By} {w : World} (h : Rr base g b 0 w) (hb : base ≤ w.heap.size) (hk : (rdN b 0).1 = 16) :
    Calls Tryz.prog 71 #[.pointer (some ⟨g, 0, none⟩)] w fun x w' => FrOut base g Fr.frameR b 0 w x w' := by
  obtain ⟨W0, hW0⟩ : ∃ W, W = w.alloc (.cells (frC8 0 0 0 0 0 false (.slice none 0 0) (.slice none 0 0)) 37) := ⟨_, rfl⟩
  have r0 : Row W0 w.heap.size 37 (frC8 0 0 0 0 0 false (.slice none 0 0) (.slice none 0 0)) := by rw [hW0]; exact Row.new _ _ _
  have g0 : w.grownBy W0 (some g) := by rw [hW0]; exact grown_alloc _ _
  have KI := veil (kindC (show Rr base g b 0 W0 by rw [hW0]; exact h.alloc hb _))
  have hlt := h.lt
  have HLT := veil hlt
  have HRG := veil (show w.heap.size ≠ g by omega)
  have HRW := veil (Nat.le_refl w.heap.size)
  have HRB := veil hb
  have G0 := veil g0
  have R0 := veil r0
  have HK := veil hk
  clear r0 g0 h hb hlt hk
  go_enter Tryz.func71, Tryz.ntmps71
  go_wp2_with fail
  show Calls _ _ _ (w.alloc (.cells (frC8 0 0 0 0 0 false (.slice none 0 0) (.slice none 0 0)) 37)) _
  rw [← hW0]
  clear hW0
  refine KI.out.mono ?_
  rintro xx w1 ⟨nk, b0, e0, rfl, hnk, hs, hr, hg⟩
  obtain rfl : nk = 16 := by rw [hnk, HK.out]
  have S0 := veil hs
  have gg := G0.out.trans hg
  have hsz := gg.size
  have hlt := HLT.out
  have HFW := veil hsz
  have HFB := veil (show base ≤ w1.heap.size by have := HRB.out; omega)
  have hrw1 := (Row.grown R0.out hg HRG.out).lt
  have HRF := veil (show w.heap.size ≠ w1.heap.size by omega)
  have HFG := veil (show w1.heap.size ≠ g by omega)
  have hrf : w.heap.size ≠ w1.heap.size := HRF.out
  have RF1 : Hid (Row (w1.alloc (.cells #[.int .u8 8, .int .u64 0, .int .u64 0, .int .u64 0, .int .u64 0, .bool false, .slice none 0 0, .slice none 0 0] 37)) w1.heap.size 37 (frC8 8 0 0 0 0 false (.slice none 0 0) (.slice none 0 0))) := Row.new _ _ _
  have RR1 : Hid (Row (w1.alloc (.cells #[.int .u8 8, .int .u64 0, .int .u64 0, .int .u64 0, .int .u64 0, .bool false, .slice none 0 0, .slice none 0 0] 37)) w.heap.size 37 (frC8 0 0 0 0 0 false (.slice none 0 0) (.slice none 0 0))) := (Row.grown R0.out hg HRG.out).alloc _
  have GG1 : Hid (w.grownBy (w1.alloc (.cells #[.int .u8 8, .int .u64 0, .int .u64 0, .int .u64 0, .int .u64 0, .bool false, .slice none 0 0, .slice none 0 0] 37)) (some g)) := gg.trans (grown_alloc _ _)
  have RD1 : Hid (Rr base g b0 e0 (w1.alloc (.cells #[.int .u8 8, .int .u64 0, .int .u64 0, .int .u64 0, .int .u64 0, .bool false, .slice none 0 0, .slice none 0 0] 37))) := hr.alloc HFB.out _
  clear hs hr hg gg hsz hlt hrw1 hnk KI R0 G0
  obtain ⟨c0, c1, c2, c3, c4, c5, c6, c7⟩ := frC8_cells RF1.out
  obtain ⟨y0, y1, y2, y3, y4, y5, y6, y7⟩ := frC8_cells RR1.out
  obtain ⟨z0, z1, z2, z3, z4, z5, z6, z7⟩ := frC8_fz RF1.out
  obtain ⟨x0, x1, x2, x3, x4, x5, x6, x7⟩ := frC8_fz RR1.out
  go_wp2_with fail
  refine (numberC RD1.out).mono ?_
  rintro xx w2 ⟨n1, b1, e1, rfl, hn, hs, hr, hg⟩
  have RF2 := veil (Row.grown (RF1.out : Row _ w1.heap.size 37 (frC8 8 0 0 0 0 false (.slice none 0 0) (.slice none 0 0))) hg HFG.out)
  have RR2 := veil (Row.grown RR1.out hg HRG.out)
  have GG2 := veil (GG1.out.trans hg)
  have RD2 := veil hr
  have HN1 := veil hn
  have S1 := veil hs
  clear hn hs
  clear c0 c1 c2 c3 c4 c5 c6 c7 y0 y1 y2 y3 y4 y5 y6 y7 z0 z1 z2 z3 z4 z5 z6 z7 x0 x1 x2 x3 x4 x5 x6 x7
  clear hr hg RF1 RR1 RD1
  obtain ⟨c0, c1, c2, c3, c4, c5, c6, c7⟩ := frC8_cells RF2.out
  obtain ⟨y0, y1, y2, y3, y4, y5, y6, y7⟩ := frC8_cells RR2.out
  obtain ⟨z0, z1, z2, z3, z4, z5, z6, z7⟩ := frC8_fz RF2.out
  obtain ⟨x0, x1, x2, x3, x4, x5, x6, x7⟩ := frC8_fz RR2.out
  go_wp2_with fail
  have hfin : Fin base g w _ (w.heap.size) 8 0 0 n1 0 false (.slice none 0 0) [] _ _ := ⟨(RD2.out.set HFB.out 3 (.int .u64 ((n1 : Nat) : Int))), (gset GG2.out HFW.out 3 (.int .u64 ((n1 : Nat) : Int))), (RR2.out.other (a := ⟨w1.heap.size, 3, none⟩) HRF.out (.int .u64 ((n1 : Nat) : Int))), HRW.out, HRB.out, World.ownsRow_nil _ _ _ _, (fun z hz => by cases hz), by decide, Nat.zero_le _, Nat.zero_le _, HN1.out, Nat.zero_le _⟩
  obtain ⟨F, q1, q2, q3, q4, q5, q6⟩ := hfin.done
  refine bodyPost_ret (result_frame rfl _ _ (w.heap.size) _ _ q6 8 _ rfl Tryz.underlying37 (by kernel_rfl) rfl) rfl ⟨F, _, _, by rw [q1], q3, ?_, q4, q5⟩
  rw [q2, Fr.frameR_kind]
  exact Fr.sim_then S0.out (show Fr.Sim (Fr.bodyR 16) _ _ _ _ _ from (Fr.sim_then S1.out (Fr.sim_ok _ _ _)))

set_option maxRecDepth 20000 in
set_option maxHeartbeats 2000000 in
theorem frame30 {base g : Nat} {b : List By} {w : World} (h : Rr base g b 0 w) (hb : base ≤ w.heap.size) (hk : (rdN b 0).1 = 30) :
    Calls Tryz.prog 71 #[.pointer (some ⟨g, 0, none⟩)] w fun x w' => FrOut base g Fr.frameR b 0 w x w' := by
  obtain ⟨W0, hW0⟩ : ∃ W, W = w.alloc (.cells (frC8 0 0 0 0 0 false (.slice none 0 0) (.slice none 0 0)) 37) := ⟨_, rfl⟩
  have r0 : Row W0 w.heap.size 37 (frC8 0 0 0 0 0 false (.slice none 0 0) (.slice none 0 0)) := by rw [hW0]; exact Row.new _ _ _
  have g0 : w.grownBy W0 (some g) := by rw [hW0]; exact grown_alloc _ _
  have KI := veil (kindC (show Rr base g b 0 W0 by rw [hW0]; exact h.alloc hb _))
  have hlt := h.lt
  have HLT := veil hlt
  have HRG := veil (show w.heap.size ≠ g by omega)
  have HRW := veil (Nat.le_refl w.heap.size)
  have HRB := veil hb
  have G0 := veil g0
  have R0 := veil r0
  have HK := veil hk
  clear r0 g0 h hb hlt hk
  go_enter Tryz.func71, Tryz.ntmps71
  go_wp2_with fail
  show Calls _ _ _ (w.alloc (.cells (frC8 0 0 0 0 0 false (.slice none 0 0) (.slice none 0 0)) 37)) _
  rw [← hW0]
  clear hW0
  refine KI.out.mono ?_
  rintro xx w1 ⟨nk, b0, e0, rfl, hnk, hs, hr, hg⟩
  obtain rfl : nk = 30 := by rw [hnk, HK.out]
  have S0 := veil hs
  have gg := G0.out.trans hg
  have hsz := gg.size
  have hlt := HLT.out
  have HFW := veil hsz
  have HFB := veil (show base ≤ w1.heap.size by have := HRB.out; omega)
  have hrw1 := (Row.grown R0.out hg HRG.out).lt
  have HRF := veil (show w.heap.size ≠ w1.heap.size by omega)
  have HFG := veil (show w1.heap.size ≠ g by omega)
  have hrf : w.heap.size ≠ w1.heap.size := HRF.out
  have RF1 : Hid (Row (w1.alloc (.cells #[.int .u8 14, .int .u64 0, .int .u64 0, .int .u64 0, .int .u64 0, .bool false, .slice none 0 0, .slice none 0 0] 37)) w1.heap.size 37 (frC8 14 0 0 0 0 false (.slice none 0 0) (.slice none 0 0))) := Row.new _ _ _
  have RR1 : Hid (Row (w1.alloc (.cells #[.int .u8 14, .int .u64 0, .int .u64 0, .int .u64 0, .int .u64 0, .bool false, .slice none 0 0, .slice none 0 0] 37)) w.heap.size 37 (frC8 0 0 0 0 0 false (.slice none 0 0) (.slice none 0 0))) := (Row.grown R0.out hg HRG.out).alloc _
  have GG1 : Hid (w.grownBy (w1.alloc (.cells #[.int .u8 14, .int .u64 0, .int .u64 0, .int .u64 0, .int .u64 0, .bool false, .slice none 0 0, .slice none 0 0] 37)) (some g)) := gg.trans (grown_alloc _ _)
  have RD1 : Hid (Rr base g b0 e0 (w1.alloc (.cells #[.int .u8 14, .int .u64 0, .int .u64 0, .int .u64 0, .int .u64 0, .bool false, .slice none 0 0, .slice none 0 0] 37))) := hr.alloc HFB.out _
  clear hs hr hg gg hsz hlt hrw1 hnk KI R0 G0
  obtain ⟨c0, c1, c2, c3, c4, c5, c6, c7⟩ := frC8_cells RF1.out
  obtain ⟨y0, y1, y2, y3, y4, y5, y6, y7⟩ := frC8_cells RR1.out
  obtain ⟨z0, z1, z2, z3, z4, z5, z6, z7⟩ := frC8_fz RF1.out
  obtain ⟨x0, x1, x2, x3, x4, x5, x6, x7⟩ := frC8_fz RR1.out
  go_wp2_with fail
  have hfin : Fin base g w _ (w.heap.size) 14 0 0 0 0 false (.slice none 0 0) [] _ _ := ⟨RD1.out, GG1.out, RR1.out, HRW.out, HRB.out, World.ownsRow_nil _ _ _ _, (fun z hz => by cases hz), by decide, Nat.zero_le _, Nat.zero_le _, Nat.zero_le _, Nat.zero_le _⟩
  obtain ⟨F, q1, q2, q3, q4, q5, q6⟩ := hfin.done
  refine bodyPost_ret (result_frame rfl _ _ (w.heap.size) _ _ q6 8 _ rfl Tryz.underlying37 (by kernel_rfl) rfl) rfl ⟨F, _, _, by rw [q1], q3, ?_, q4, q5⟩
  rw [q2, Fr.frameR_kind]
  exact Fr.sim_then S0.out (show Fr.Sim (Fr.bodyR 30) _ _ _ _ _ from Fr.sim_ok _ _ _)
end Go.Proofs.YtimhbjlmpojhoaaGreatDoor
