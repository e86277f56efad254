/-
  frame's reader: data and sized.
-/
import Derived.Test.YtjhgelhdhdcmfaaDoorGfFrGetB
namespace Go.Proofs.YtjhgelhdhdcmfaaDoor
open Go Go.RowKit

/-- So many bytes that stand at an offset. -/
def dataAtR (off n : Nat) : Fr.R (List By) := fun b => if 4611686018427387903 < off + n then .error 5 else Fr.dataR n b

set_option maxRecDepth 20000 in
set_option maxHeartbeats 2000000 in
theorem rd_dataAt (g : Nat) (s : SL) (tb off n : Nat) (w : World) (h : Rd w g s tb) (ho : off ≤ 4611686018427387903) (hn : n ≤ 4611686018427387903) :
    Calls Tryd.prog 57 #[.pointer (some ⟨g, 0, none⟩), .int .u64 (off : Int), .int .u64 (n : Int)] w (RdPost w g s tb (dataAtR off n) (fun d w' v => RowK w.heap.size d w' v)) := by
  obtain ⟨i0, hi, hz0, hz1, hz2⟩ := info_parts Tryd.infoByteV
  have c0 : w.cell? ⟨g, 0, none⟩ = some (.slice s.a s.len s.cap) := h.row.cell 0
  have hwl : IntKind.u64.wrap (s.len : Int) = (s.len : Int) := by have := h.len; rw [IntKind.wrap_u64]; omega
  have hwo : IntKind.u64.wrap ((off : Int) + (n : Int)) = (off : Int) + (n : Int) := by rw [IntKind.wrap_u64]; omega
  have hgw := h.row.lt
  have hsl := h.len
  have H := veil h
  clear h
  by_cases h1 : 4611686018427387903 < off + n
  · have f1 : decide ((4611686018427387903 : Int) < (off : Int) + (n : Int)) = true := by simp; omega
    have E := veil (show dataAtR off n s.b = .error 5 by unfold dataAtR; rw [if_pos h1])
    clear h1
    go_enter Tryd.func57, Tryd.ntmps57
    go_wp2_with fail
    exact ⟨rfl, .inl ⟨5, E.out, rfl, grown_refl _ _⟩⟩
  have f1 : decide ((4611686018427387903 : Int) < (off : Int) + (n : Int)) = false := by simp; omega
  by_cases h2 : s.len < n
  · have f2 : decide ((s.len : Int) < (n : Int)) = true := by simp; omega
    have f2n : decide (s.len < n) = true := by simp; omega
    have E := veil (show dataAtR off n s.b = .error 4 by unfold dataAtR Fr.dataR; rw [if_neg h1, if_pos (by rw [H.out.ok.hb]; exact h2)])
    clear h1 h2
    go_enter Tryd.func57, Tryd.ntmps57
    go_wp2_with fail
    exact ⟨rfl, .inl ⟨4, E.out, rfl, grown_refl _ _⟩⟩
  have f2 : decide ((s.len : Int) < (n : Int)) = false := by simp; omega
  have f2n : decide (s.len < n) = false := by simp; omega
  have E := veil (show dataAtR off n s.b = .ok (s.b.take n, s.b.drop n) by unfold dataAtR Fr.dataR; rw [if_neg h1, if_neg (by rw [H.out.ok.hb]; exact h2)])
  have hn' : n ≤ s.len := Nat.le_of_not_lt h2
  have HHD := veil (headF_ok H.out.ok n hn')
  have HT := veil H.out.told
  have HNIL := veil H.out.ok.nil
  have HCAP := veil H.out.ok.hcap
  clear h1 h2
  go_enter Tryd.func57, Tryd.ntmps57
  go_wp2_with (first
    | (with_reducible (show wpList _ _ _ (⟨some 27, Op.slice _ _ _ _ _, _, _, _, _⟩ :: _) _ _)
       refine value_wp rfl _ (run_headU 26 5 _ _ s n HT.out HNIL.out HCAP.out rfl rfl rfl Tryd.underlying26 (by kernel_rfl) hn' _) ?_)
    | (with_reducible (show wpList _ _ _ (⟨some 28, Op.call _, _, _, _, _⟩ :: _) _ _)
       refine append_sl rfl _ _ 26 rfl w.heap.size i0 Tryd.underlying26 hi hz0 hz1 hz2 (.slice none 0 0) 0 [] rfl (World.ownsRow_nil _ _ _ _) (headF s n) HHD.out rfl (show 0 + n ≤ 8388608 by omega) (Nat.le_refl _) ?_
       intro v3 w3 hown3 hgrow3
       have hro3 : Row w3 g 52 (rrC s tb) := (hgrow3.block g H.out.row.lt (by simp [Value.ownBlock])).trans H.out.row
       have t0 : w3.cell? ⟨g, 0, none⟩ = some (.slice s.a s.len s.cap) := hro3.cell 0
       have z0 := hro3.frozen 0
       have HO3 := veil (show RowK w.heap.size (s.b.take n) w3 v3 by
         unfold RowK
         rw [List.length_take, H.out.ok.hb, Nat.min_eq_left hn']
         have h3 := hown3
         rw [show 0 + (headF s n).len = n from Nat.zero_add n] at h3
         exact h3)
       have HG3 := veil (show w.grownBy w3 (some g) from ⟨hgrow3.os, hgrow3.tape, hgrow3.output, hgrow3.size, fun k hk hk2 => hgrow3.block k hk (by simp [Value.ownBlock])⟩)
       have HRO3 := veil hro3
       have HCUT := veil (cutF_ok (H.out.ok.apart HG3.out H.out.ne) H.out.told n hn')
       clear hown3 hgrow3 hro3)
    | (with_reducible (show wpList _ _ _ (⟨some 35, Op.slice _ _ _ _ _, _, _, _, _⟩ :: _) _ _)
       refine value_wp rfl _ (run_cutU 26 5 _ _ s n HT.out HNIL.out rfl rfl rfl Tryd.underlying26 (by kernel_rfl) hn' _) ?_))
  go_ret
  obtain ⟨o1, o2, o3, o4, o5⟩ := HCUT.out
  have hg4 : w.grownBy (w3.setCell ⟨g, 0, none⟩ (.slice (cutF s n).a (cutF s n).len (cutF s n).cap)) (some g) := grown_set HG3.out
  refine .inr ⟨_, _, v3, cutF s n, E.out, rfl, ?_, ⟨HRO3.out.set 0 _, ?_, o2, fun p => by rw [o5]; exact H.out.ne (by omega), H.out.lens.grown hg4 H.out.gne, H.out.gne, by omega⟩, o4, o5, by omega, hg4⟩
  · refine World.ownsRow.kept HO3.out (grown_set (grown_refl _ _)) ?_
    right
    intro e
    have := (HO3.out.lt g e).1
    omega
  · exact o1.apart (grown_set (grown_refl _ _)) (fun p => by rw [o5]; exact H.out.ne (by omega))

theorem own_grown {w w' : World} {base g n : Nat} {e : TypeId} {z : Nat} {v : Value} {xs : List Value} (h : w.ownsRow base e z v n xs) (hg : w.grownBy w' (some g)) (hb : g < base) : w'.ownsRow base e z v n xs :=
  h.kept hg (.inr fun q => by have := (h.lt g q).1; omega)

set_option maxRecDepth 20000 in
set_option maxHeartbeats 1000000 in
theorem rd_sized (g : Nat) (s : SL) (tb off : Nat) (w : World) (h : Rd w g s tb) (ho : off ≤ 4611686018427387903) :
    Calls Tryd.prog 54 #[.pointer (some ⟨g, 0, none⟩), .int .u64 (off : Int)] w (RdPost w g s tb (Fr.placedR off) (fun d w' v => RowK w.heap.size d w' v)) := by
  have E0 := veil (show Fr.placedR off s.b = Fr.thenR Fr.numR (fun n => if 4611686018427387903 < off + n then Fr.noR 5 else Fr.dataR n) s.b from rfl)
  have H := veil h
  clear h
  go_enter Tryd.func54, Tryd.ntmps54
  go_wp2_with fail
  refine (rd_num g s tb w H.out).mono ?_
  rintro x1 w1 (⟨e, he, rfl, hg⟩ | ⟨n1, r1, v1, s1, he1, rfl, ⟨rfl, hv1⟩, hR1, hb1, hsg1, hsl1, hg1⟩)
  · exact ⟨rfl, .inl ⟨e, ch_err E0.out rfl he, rfl, hg⟩⟩
  have E1 := veil (show Fr.placedR off s.b = dataAtR off n1 s1.b by
    rw [ch_ok E0.out rfl he1, hb1]
    unfold dataAtR
    split <;> rfl)
  have G1 := veil hg1
  have D1 := veil hR1
  have M1 := veil (show s1.g = s.g ∧ s1.len ≤ s.len from ⟨hsg1, hsl1⟩)
  have V1 := veil hv1
  clear he1 hg1 hb1 hR1 hsg1 hsl1 hv1
  go_wp2_with fail
  refine (rd_dataAt g s1 tb off n1 w1 D1.out ho V1.out).mono ?_
  rintro x2 w2 (⟨e, he, rfl, hg⟩ | ⟨d2, r2, v2, s2, he2, rfl, hV2, hR2, hb2, hsg2, hsl2, hg2⟩)
  · exact ⟨rfl, .inl ⟨e, E1.out.trans he, rfl, grown_trans G1.out hg⟩⟩
  have RES := veil (show ∃ s' : SL, Fr.placedR off s.b = .ok (d2, r2) ∧ RowK w.heap.size d2 w2 v2 ∧ Rd w2 g s' tb ∧ s'.b = r2 ∧ s'.g = s.g ∧ s'.len ≤ s.len ∧ w.grownBy w2 (some g) from ⟨s2, E1.out.trans he2, own_low hV2 G1.out.size, hR2, hb2, hsg2.trans M1.out.1, Nat.le_trans hsl2 M1.out.2, grown_trans G1.out hg2⟩)
  clear he2 hV2 hR2 hb2 hsg2 hsl2 hg2
  go_wp2_with fail
  go_ret
  obtain ⟨s', a1, a2, a3, a4, a5, a6, a7⟩ := RES.out
  exact .inr ⟨d2, r2, v2, s', a1, rfl, a2, a3, a4, a5, a6, a7⟩
end Go.Proofs.YtjhgelhdhdcmfaaDoor
