/-
  frame's reader: padding, rangeUpTo.
-/
import Derived.Test.YtjhgelhdhdcmfabDoorGcFrGetD
namespace Go.Proofs.YtjhgelhdhdcmfabDoor
open Go Go.RowKit

def frC (k st of li co : Nat) (fi : Bool) : Array Value := #[.int .u8 (k : Int), .int .u64 (st : Int), .int .u64 (of : Int), .int .u64 (li : Int), .int .u64 (co : Int), .bool fi, .slice none 0 0, .slice none 0 0]
set_option maxRecDepth 20000 in
set_option maxHeartbeats 2000000 in
theorem rd_padding (g : Nat) (s : SL) (tb : Nat) (w : World) (h : Rd w g s tb) :
    Calls Tryd.prog 29 #[.pointer (some ⟨g, 0, none⟩)] w (RdPost w g s tb (Fr.bodyP 0) (frV w.heap.size)) := by
  have hgw := h.row.lt
  have hLl := h.lens.lt
  have H := veil h
  have b0 := veil ((Below.refl _ w).alloc (Nat.le_refl _) (.cells zF 31))
  have R0 := veil (Row.new w 31 zF)
  have E0 := veil (show Fr.bodyP 0 s.b = Fr.padR 1 s.b from rfl)
  clear h
  go_enter Tryd.func29, Tryd.ntmps29
  go_wp2_with fail
  go_loopw [3] (fun v wr => ∃ (m : Nat) (s1 : SL), v = .int .u64 (m : Int) ∧ (1 ≤ m ∧ m ≤ 65536) ∧ Rd wr g s1 tb ∧ Fr.bodyP 0 s.b = Fr.padR m s1.b ∧ (s1.g = s.g ∧ s1.len ≤ s.len) ∧ Row wr w.heap.size 31 zF ∧ w.grownBy wr (some g))
    (fun v _ => 65537 - (intOf v).toNat)
  case atStart => exact ⟨1, s, rfl, ⟨Nat.le_refl _, by decide⟩, H.out.below b0.out, E0.out, ⟨rfl, Nat.le_refl _⟩, R0.out, grown_alloc _ _⟩
  case round =>
    obtain ⟨m, s1, rfl, ⟨hm1, hm2⟩, hR, hE, hM, hQ, hG⟩ := hrel
    have c0 : wr.cell? ⟨g, 0, none⟩ = some (.slice s1.a s1.len s1.cap) := hR.row.cell 0
    have z0 := hR.row.frozen 0
    have D := veil hR
    have E := veil hE
    have M := veil hM
    have Q := veil hQ
    have G := veil hG
    clear hR hE hM hQ hG b0 R0 E0
    have leave : ∀ (r : List By), s1.b = r → Fr.padR m r = .ok (Fr.padF m, r) → RdPost w g s tb (Fr.bodyP 0) (frV w.heap.size) (.returned (.agg (frC 1 0 0 m 0 false))) (wr.setRow w.heap.size (frC 1 0 0 m 0 false)) := by
      intro r hr hp
      refine .inr ⟨_, _, _, s1, E.out.trans (by rw [hr]; exact hp), rfl, ⟨⟨1, 0, 0, m, 0, false, noD, noRg⟩, rfl, new_plain _ _ _ _ _ _ _ _ (by decide) (Nat.zero_le _) (Nat.zero_le _) (by omega) (Nat.zero_le _), rfl⟩, D.out.put (by omega) (fun p => by have := H.out.ok.lt (Nat.lt_of_lt_of_le p M.out.2); rw [M.out.1]; omega) (by omega) _, hr, M.out.1, M.out.2, grown_put G.out (Nat.le_refl _) _⟩
    have LV := veil leave
    clear leave
    cases hb : s1.b with
    | nil =>
      have h0 : s1.len = 0 := by rw [← D.out.ok.hb, hb]; rfl
      have f1 : decide ((0 : Int) < (s1.len : Int)) = false := by simp; omega
      have f1n : decide (0 < s1.len) = false := by simp; omega
      have L2 := veil (LV.out [] hb rfl)
      clear hb h0
      go_wp2_with (with_reducible (show wpList _ _ _ (⟨_, Op.store 31 _ _, _, _, _, _⟩ :: _) _ _)
                   refine store_row rfl 31 _ _ rfl w.heap.size (frC 1 0 0 m 0 false) rfl rfl _ _ Q.out 8 (by kernel_rfl) rfl rfl (by kernel_rfl) ?_)
      exact bodyPost_ret (results_cell_row rfl _ _ w.heap.size _ (frC 1 0 0 m 0 false) (0, 0) _ rfl (Q.out.put _) Tryd.underlying31 rfl (by kernel_rfl)) rfl L2.out
    | cons c r =>
      have hl : 0 < s1.len := by rw [← D.out.ok.hb, hb]; simp
      have f1 : decide ((0 : Int) < (s1.len : Int)) = true := by simp; omega
      have f1n : decide (0 < s1.len) = true := by simp; omega
      have ea := D.out.ok.at_ hl
      have ec := D.out.ok.cell 0 hl
      rw [hb] at ec
      simp only [Nat.add_zero] at ec
      have ec2 : wr.cell? ⟨s1.g, s1.off, none⟩ = some (.int .u8 (v8 c)) := ec
      have HEA := veil ea
      have HHB := veil hb
      have hl1 : 1 ≤ s1.len := hl
      have HT := veil D.out.told
      have HNIL := veil D.out.ok.nil
      rw [ea] at c0
      clear ea ec
      by_cases hc : c = 0
      · have f2 : (v8 c == 0) = true := by rw [hc]; rfl
        by_cases hm : m = 65536
        · have f3 : ((m : Int) == 65536) = true := by simp; omega
          have L2 := veil (show Fr.bodyP 0 s.b = .error 3 by rw [E.out, HHB.out]; show (if c = 0 then _ else _) = _; rw [if_pos hc, if_pos hm])
          clear hb hc hm
          generalize v8 c = vc at *
          go_wp2_with fail
          exact ⟨rfl, .inl ⟨3, L2.out, rfl, G.out⟩⟩
        · have f3 : ((m : Int) == 65536) = false := by simp; omega
          have L2 := veil (show Fr.bodyP 0 s.b = Fr.padR (m + 1) r by rw [E.out, HHB.out]; show (if c = 0 then _ else _) = _; rw [if_pos hc, if_neg hm])
          have hw : IntKind.u64.wrap ((m : Int) + 1) = ((m + 1 : Nat) : Int) := by rw [IntKind.wrap_u64]; omega
          obtain ⟨o1, o2, o3, o4, o5⟩ := cutF_ok D.out.ok D.out.told 1 hl1
          have O := veil (show (cutF s1 1).Ok wr ∧ (cutF s1 1).Told ∧ (cutF s1 1).len = s1.len - 1 ∧ (cutF s1 1).b = r ∧ (cutF s1 1).g = s1.g from ⟨o1, o2, o3, by rw [o4, HHB.out]; rfl, o5⟩)
          have HM := veil (show m < 65536 by omega)
          clear hb hc hm o1 o2 o3 o4 o5
          generalize v8 c = vc at *
          go_wp2_with (with_reducible (show wpList _ _ _ (⟨some 29, Op.slice _ _ _ _ _, _, _, _, _⟩ :: _) _ _)
                       refine value_wp rfl _ (run_cutF 28 5 _ _ s1 1 HT.out HNIL.out rfl (by rw [HEA.out]; rfl) rfl Tryd.underlying28 (by kernel_rfl) hl1 _) ?_)
          go_roundw
          case rel =>
            have hg2 : wr.grownBy (wr.setCell ⟨g, 0, none⟩ (.slice (cutF s1 1).a (cutF s1 1).len (cutF s1 1).cap)) (some g) := grown_set (grown_refl _ _)
            have hOl := O.out.2.2.1
            exact ⟨m + 1, cutF s1 1, by go_num, ⟨by omega, HM.out⟩, ⟨D.out.row.set 0 _, O.out.1.apart hg2 (fun p => by rw [O.out.2.2.2.2]; exact D.out.ne (by omega)), O.out.2.1, fun p => by rw [O.out.2.2.2.2]; exact D.out.ne (by omega), D.out.lens.grown hg2 D.out.gne, D.out.gne, by have := D.out.len; omega⟩, by rw [O.out.2.2.2.1]; exact L2.out, ⟨O.out.2.2.2.2.trans M.out.1, by have := M.out.2; omega⟩, Row.grown Q.out hg2 (by omega), grown_trans G.out hg2⟩
          case measure => have := HM.out; simp [intOf]; omega
      · have f2 : (v8 c == 0) = false := by
          have : c.toNat ≠ 0 := fun h => hc (BitVec.eq_of_toNat_eq h)
          simp only [beq_eq_false_iff_ne, ne_eq]
          unfold v8
          omega
        have L2 := veil (LV.out (c :: r) hb (by show (if c = 0 then _ else _) = _; rw [if_neg hc]))
        clear hb hc
        generalize v8 c = vc at *
        go_wp2_with (with_reducible (show wpList _ _ _ (⟨_, Op.store 31 _ _, _, _, _, _⟩ :: _) _ _)
                     refine store_row rfl 31 _ _ rfl w.heap.size (frC 1 0 0 m 0 false) rfl rfl _ _ Q.out 8 (by kernel_rfl) rfl rfl (by kernel_rfl) ?_)
        exact bodyPost_ret (results_cell_row rfl _ _ w.heap.size _ (frC 1 0 0 m 0 false) (0, 0) _ rfl (Q.out.put _) Tryd.underlying31 rfl (by kernel_rfl)) rfl L2.out

/-- A range that ends at a number. -/
def rngR (to : Nat) : Fr.R (Nat × Nat) := Fr.thenR (uptoR to) fun k => Fr.okR (to - k, to)
set_option maxRecDepth 20000 in
set_option maxHeartbeats 2000000 in
theorem rd_range (g : Nat) (s : SL) (tb to : Nat) (w : World) (h : Rd w g s tb) (hto : to ≤ 4611686018427387903) :
    Calls Tryd.prog 45 #[.pointer (some ⟨g, 0, none⟩), .int .u64 (to : Int)] w (RdPost w g s tb (rngR to) (fun r _ v => v = .agg (rC2 r) ∧ r.1 ≤ r.2 ∧ r.2 = to)) := by
  have hgw := h.row.lt
  have hLl := h.lens.lt
  have H := veil h
  have b0 := veil ((Below.refl _ w).alloc (Nat.le_refl _) (.cells (rC2 (0, 0)) 39))
  have R0 := veil (Row.new w 39 (rC2 (0, 0)))
  have E0 := veil (show rngR to s.b = Fr.thenR (uptoR to) (fun k => Fr.okR (to - k, to)) s.b from rfl)
  clear h
  go_enter Tryd.func45, Tryd.ntmps45
  go_wp2_with fail
  refine (rd_upto g s tb to (w.alloc (.cells (rC2 (0, 0)) 39)) (H.out.below b0.out)).mono ?_
  rintro x1 w1 (⟨e, he, rfl, hg⟩ | ⟨n1, r1, v1, s1, he1, rfl, ⟨⟨rfl, hv1⟩, hle⟩, hR1, hb1, hsg1, hsl1, hg1⟩)
  · exact ⟨rfl, .inl ⟨e, ch_err E0.out rfl he, rfl, grown_trans (grown_alloc (.cells (rC2 (0, 0)) 39) (some g)) hg⟩⟩
  have E1 := veil (ch_ok E0.out rfl he1)
  have G1 := veil (grown_trans (grown_alloc (.cells (rC2 (0, 0)) 39) (some g)) hg1)
  have Q1 := veil (Row.grown R0.out hg1 (show w.heap.size ≠ g by omega))
  have B1 := veil hb1
  have D1 := veil hR1
  have M1 := veil (show s1.g = s.g ∧ s1.len ≤ s.len from ⟨hsg1, hsl1⟩)
  have hw : IntKind.u64.wrap ((to : Int) - (n1 : Int)) = ((to - n1 : Nat) : Int) := by rw [IntKind.wrap_u64]; omega
  clear he1 hg1 hb1 hR1 hsg1 hsl1 hv1
  go_wp2_with (with_reducible (show wpList _ _ _ (⟨_, Op.store 39 _ _, _, _, _, _⟩ :: _) _ _)
               refine store_row rfl 39 _ _ rfl w.heap.size (rC2 (to - n1, to)) rfl rfl _ _ Q1.out 2 (by kernel_rfl) rfl rfl (by kernel_rfl) ?_)
  refine bodyPost_ret (results_cell_row rfl _ _ w.heap.size _ (rC2 (to - n1, to)) (0, 0) _ rfl (Q1.out.put _) Tryd.underlying39 rfl (by kernel_rfl)) rfl ?_
  refine .inr ⟨_, _, _, s1, E1.out, rfl, ⟨rfl, Nat.sub_le _ _, rfl⟩, D1.out.put (by omega) (fun p => by have := H.out.ok.lt (Nat.lt_of_lt_of_le p M1.out.2); rw [M1.out.1]; omega) (by omega) _, B1.out, M1.out.1, M1.out.2, grown_put G1.out (Nat.le_refl _) _⟩
end Go.Proofs.YtjhgelhdhdcmfabDoor
