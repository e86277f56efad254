/-
  frame's reader: crypto, maxStreams, close (written by mkgetd.py).
-/
import Derived.Test.YtjhgelhdhdcmfaaDoorGfFrGetC
import Derived.Test.YtjhgelhdhdcmfaaDoorGfFrSpine
namespace Go.Proofs.YtjhgelhdhdcmfaaDoor
open Go Go.RowKit

theorem Rd.same {w w' : World} {g tb : Nat} {s : SL} (H : Rd w g s tb) (hg : w'.heap[g]? = w.heap[g]?) (hs : 0 < s.len → w'.heap[s.g]? = w.heap[s.g]?) (hl : w'.heap[1]? = w.heap[1]?) (hz : w.heap.size ≤ w'.heap.size) : Rd w' g s tb :=
  ⟨hg.trans H.row, H.ok.same hs hz, H.told, H.ne, H.lens.same hl, H.gne, H.len⟩
theorem Rd.setc {w : World} {g tb q j : Nat} {s : SL} (H : Rd w g s tb) (hne : q ≠ g) (hs : 0 < s.len → s.g ≠ q) (hl : 1 ≠ q) (v : Value) : Rd (w.setCell ⟨q, j, none⟩ v) g s tb :=
  H.same (Below.heap_setCell _ _ _ _ (fun e => hne (Eq.symm e))) (fun p => Below.heap_setCell _ _ _ _ (fun e => hs p e)) (Below.heap_setCell _ _ _ _ (fun e => hl e)) (by simp [World.setCell])
theorem grown_setc {w w' : World} {g q j : Nat} (hg : w.grownBy w' (some g)) (hq : w.heap.size ≤ q) (v : Value) : w.grownBy (w'.setCell ⟨q, j, none⟩ v) (some g) :=
  ⟨hg.os, hg.tape, hg.output, by simp [World.setCell]; exact hg.size, fun k hk hn => (Below.heap_setCell _ _ _ _ (fun e => by have e : k = q := e; omega)).trans (hg.block k hk hn)⟩
theorem own_setc {w : World} {base n q j : Nat} {e : TypeId} {z : Nat} {v u : Value} {xs : List Value} (h : w.ownsRow base e z v n xs) (hq : q < base) : (w.setCell ⟨q, j, none⟩ u).ownsRow base e z v n xs :=
  own_grown h (grown_set (grown_refl w (some q))) hq
theorem own_setr {w : World} {base n q : Nat} {e : TypeId} {z : Nat} {v : Value} {xs : List Value} (h : w.ownsRow base e z v n xs) (hq : q < base) (cs : Array Value) : (w.setRow q cs).ownsRow base e z v n xs :=
  own_grown (g := q) h ⟨rfl, rfl, rfl, by rw [size_setRow]; exact Nat.le_refl _, fun k _ hn => setRow_other w q k cs (fun e => hn (by rw [e]))⟩ hq
theorem SL.of_ownF {w : World} {base n cap : Nat} {a : Option Addr} {b : List By} (h : w.ownsRow base 5 1 (.slice a n cap) n (vb b)) : ∃ s : SL, s.a = a ∧ s.len = n ∧ s.cap = cap ∧ s.b = b ∧ s.Ok w := by
  obtain ⟨s, hv, hl, hb, hok, _⟩ := SL.of_own h
  unfold SL.v at hv
  injection hv with h1 h2 h3
  exact ⟨s, h1, h2, h3, hb, hok⟩
/-- A frame with bytes. -/
theorem new_data (base : Nat) (w : World) (k st of li co : Nat) (fi : Bool) (s : SL) (hr : RowK base s.b w (.slice s.a s.len s.cap)) (hs : s.Ok w) (h0 : k < 256) (h1 : st ≤ 4611686018427387903) (h2 : of ≤ 4611686018427387903) (h3 : li ≤ 4611686018427387903) (h4 : co ≤ 4611686018427387903) : FrNew base w ⟨k, st, of, li, co, fi, s, noRg⟩ :=
  ⟨hr, hs, World.ownsRow_nil _ _ _ _, noRg_ok w, h0, h1, h2, h3, h4⟩
theorem and_1 : ∀ k : Fin 32, (bits .and .u64 (k.val : Int) 1 != 0) = decide (k.val % 2 = 1) := by decide +kernel
theorem and_2 : ∀ k : Fin 32, (bits .and .u64 (k.val : Int) 2 != 0) = decide (k.val / 2 % 2 = 1) := by decide +kernel
theorem and_4 : ∀ k : Fin 32, (bits .and .u64 (k.val : Int) 4 != 0) = decide (k.val / 4 % 2 = 1) := by decide +kernel

theorem close_eq (b : List By) : Fr.bodyP 28 b = Fr.thenR Fr.numR (fun co => Fr.thenR (uptoR 0) fun _ => Fr.thenR (Fr.placedR 0) fun d => Fr.okR { Fr.f0 with kind := 13, code := co, data := d }) b := by
  show Fr.thenR Fr.numR _ b = _
  unfold Fr.thenR
  cases Fr.numR b with
  | error e => rfl
  | ok x =>
    obtain ⟨a, b'⟩ := x
    simp only
    show Fr.thenR Fr.numR _ b' = _
    unfold uptoR Fr.thenR
    cases Fr.numR b' with
    | error e => rfl
    | ok y =>
      obtain ⟨z, b''⟩ := y
      cases z with
      | zero => rfl
      | succ z => rfl

set_option maxRecDepth 20000 in
set_option maxHeartbeats 1000000 in
theorem rd_maxStreams (g : Nat) (s : SL) (tb : Nat) (w : World) (h : Rd w g s tb) (ht : tb = 18 ∨ tb = 19) :
    Calls Tryd.prog 44 #[.pointer (some ⟨g, 0, none⟩)] w (RdPost w g s tb (Fr.bodyP tb) (frV w.heap.size)) := by
  have hgw := h.row.lt
  have hLl := h.lens.lt
  have H := veil h
  have b0 := veil ((Below.refl _ w).alloc (Nat.le_refl _) (.cells zF 39))
  have R0 := veil (Row.new w 39 zF)
  have E0 := veil (show Fr.bodyP tb s.b = Fr.thenR (uptoR 1152921504606846976) (fun lim => Fr.okR { Fr.f0 with kind := 10, limit := lim, fin := decide (tb % 2 = 1) }) s.b by
    rcases ht with rfl | rfl
    · show Fr.thenR Fr.numR _ s.b = Fr.thenR (uptoR _) _ s.b
      unfold uptoR Fr.thenR
      cases Fr.numR s.b with
      | error e => rfl
      | ok x =>
        obtain ⟨a, b'⟩ := x
        simp only
        split <;> rfl
    · show Fr.thenR Fr.numR _ s.b = Fr.thenR (uptoR _) _ s.b
      unfold uptoR Fr.thenR
      cases Fr.numR s.b with
      | error e => rfl
      | ok x =>
        obtain ⟨a, b'⟩ := x
        simp only
        split <;> rfl)
  have A1 := veil (show (bits .and .u64 (tb : Int) ((1 : Nat) : Int) != 0) = decide (tb % 2 = 1) from and_1 ⟨tb, by omega⟩)
  clear h ht
  go_enter Tryd.func44, Tryd.ntmps44
  go_wp2_with fail
  refine (rd_upto g s tb 1152921504606846976 (w.alloc (.cells zF 39)) (H.out.below b0.out)).mono ?_
  rintro x1 w1 (⟨e, he, rfl, hg⟩ | ⟨n1, r1, v1, s1, he1, rfl, ⟨⟨rfl, hv1⟩, _⟩, hR1, hb1, hsg1, hsl1, hg1⟩)
  · exact ⟨rfl, .inl ⟨e, ch_err E0.out rfl he, rfl, grown_trans (grown_alloc (.cells zF 39) (some g)) hg⟩⟩
  have E1 := veil (ch_ok E0.out rfl he1)
  have G1 := veil (grown_trans (grown_alloc (.cells zF 39) (some g)) hg1)
  have Q1 := veil (Row.grown R0.out hg1 (show w.heap.size ≠ g by omega))
  have B1 := veil hb1
  have D1 := veil hR1
  have M1 := veil (show s1.g = s.g ∧ s1.len ≤ s.len from ⟨hsg1, hsl1⟩)
  have V1 := veil hv1
  clear he1 hg1 hb1 hR1 hsg1 hsl1 hv1
  go_wp2_with fail
  refine (rd_has g s1 tb 1 w1 D1.out).mono ?_
  rintro x2 w2 ⟨rfl, hw2⟩
  obtain rfl := hw2.symm
  rw [A1.out]
  go_wp2_with (with_reducible (show wpList _ _ _ (⟨_, Op.store 39 _ _, _, _, _, _⟩ :: _) _ _)
               refine store_row rfl 39 _ _ rfl w.heap.size #[.int .u8 10, .int .u64 0, .int .u64 0, .int .u64 (n1 : Int), .int .u64 0, .bool (decide (tb % 2 = 1)), .slice none 0 0, .slice none 0 0] rfl rfl _ _ Q1.out 8 (by kernel_rfl) rfl rfl (by kernel_rfl) ?_)
  refine bodyPost_ret (results_cell_row rfl _ _ w.heap.size _ #[.int .u8 10, .int .u64 0, .int .u64 0, .int .u64 (n1 : Int), .int .u64 0, .bool (decide (tb % 2 = 1)), .slice none 0 0, .slice none 0 0] (0, 0) _ rfl (Q1.out.put _) Tryd.underlying39 rfl (by kernel_rfl)) rfl ?_
  refine .inr ⟨_, _, _, s1, E1.out, rfl, ⟨⟨10, 0, 0, n1, 0, decide (tb % 2 = 1), noD, noRg⟩, rfl, new_plain _ _ _ _ _ _ _ _ (by decide) (Nat.zero_le _) (Nat.zero_le _) V1.out (Nat.zero_le _), rfl⟩, D1.out.put (by omega) (fun p => by have := H.out.ok.lt (Nat.lt_of_lt_of_le p M1.out.2); rw [M1.out.1]; omega) (by omega) _, B1.out, M1.out.1, M1.out.2, grown_put G1.out (Nat.le_refl _) _⟩

set_option maxRecDepth 20000 in
set_option maxHeartbeats 2000000 in
theorem rd_crypto (g : Nat) (s : SL) (tb : Nat) (w : World) (h : Rd w g s tb) :
    Calls Tryd.prog 41 #[.pointer (some ⟨g, 0, none⟩)] w (RdPost w g s tb (Fr.bodyP 6) (frV w.heap.size)) := by
  have hgw := h.row.lt
  have hLl := h.lens.lt
  have H := veil h
  have b0 := veil ((Below.refl _ w).alloc (Nat.le_refl _) (.cells zF 39))
  have R0 := veil (Row.new w 39 zF)
  have E0 := veil (show Fr.bodyP 6 s.b = Fr.thenR Fr.numR (fun off => Fr.thenR (Fr.placedR off) fun d => Fr.okR { Fr.f0 with kind := 6, offset := off, data := d }) s.b from rfl)
  clear h
  go_enter Tryd.func41, Tryd.ntmps41
  go_wp2_with fail
  refine (rd_num g s tb (w.alloc (.cells zF 39)) (H.out.below b0.out)).mono ?_
  rintro x1 w1 (⟨e, he, rfl, hg⟩ | ⟨n1, r1, v1, s1, he1, rfl, ⟨rfl, hv1⟩, hR1, hb1, hsg1, hsl1, hg1⟩)
  · exact ⟨rfl, .inl ⟨e, ch_err E0.out rfl he, rfl, grown_trans (grown_alloc (.cells zF 39) (some g)) hg⟩⟩
  have E1 := veil (ch_ok E0.out rfl he1)
  have G1 := veil (grown_trans (grown_alloc (.cells zF 39) (some g)) hg1)
  have Q1 := veil (Row.grown R0.out hg1 (show w.heap.size ≠ g by omega))
  have B1 := veil hb1
  have D1 := veil hR1
  have M1 := veil (show s1.g = s.g ∧ s1.len ≤ s.len from ⟨hsg1, hsl1⟩)
  have V1 := veil hv1
  clear he1 hg1 hb1 hR1 hsg1 hsl1 hv1
  go_wp2_with fail
  refine (rd_sized g s1 tb n1 (w1.alloc (.cells #[.int .u8 6, .int .u64 0, .int .u64 (n1 : Int), .int .u64 0, .int .u64 0, .bool false, .slice none 0 0, .slice none 0 0] 39)) (D1.out.below ((Below.refl _ w1).alloc (Nat.le_refl _) _)) V1.out).mono ?_
  rintro x2 w2 (⟨e, he, rfl, hg⟩ | ⟨d2, r2, v2, s2, he2, rfl, hV2, hR2, hb2, hsg2, hsl2, hg2⟩)
  · exact ⟨rfl, .inl ⟨e, ch_err E1.out B1.out he, rfl, grown_trans (grown_trans G1.out (grown_alloc (.cells #[.int .u8 6, .int .u64 0, .int .u64 (n1 : Int), .int .u64 0, .int .u64 0, .bool false, .slice none 0 0, .slice none 0 0] 39) (some g))) hg⟩⟩
  obtain ⟨aV, cV, rfl⟩ := own_shapeF hV2
  have hq1 : w.heap.size + 1 ≤ w1.heap.size := by have := G1.out.size; have := Q1.out.lt; omega
  have E2 := veil (ch_ok E1.out B1.out he2)
  have RQ := veil (Row.grown (Row.new w1 39 #[.int .u8 6, .int .u64 0, .int .u64 (n1 : Int), .int .u64 0, .int .u64 0, .bool false, .slice none 0 0, .slice none 0 0]) hg2 (show w1.heap.size ≠ g by omega))
  have RH := veil (Row.grown (Q1.out.alloc (.cells #[.int .u8 6, .int .u64 0, .int .u64 (n1 : Int), .int .u64 0, .int .u64 0, .bool false, .slice none 0 0, .slice none 0 0] 39)) hg2 (show w.heap.size ≠ g by omega))
  have G2 := veil (grown_trans (grown_trans G1.out (grown_alloc (.cells #[.int .u8 6, .int .u64 0, .int .u64 (n1 : Int), .int .u64 0, .int .u64 0, .bool false, .slice none 0 0, .slice none 0 0] 39) (some g))) hg2)
  have B2 := veil hb2
  have D2 := veil hR2
  have M2 := veil (show s2.g = s.g ∧ s2.len ≤ s.len from ⟨hsg2.trans M1.out.1, Nat.le_trans hsl2 M1.out.2⟩)
  have W2 := veil (show w2.ownsRow (w1.heap.size + 1) 5 1 (.slice aV d2.length cV) d2.length (vb d2) by
    have := hV2
    unfold RowK at this
    rwa [show (w1.alloc (.cells #[.int .u8 6, .int .u64 0, .int .u64 (n1 : Int), .int .u64 0, .int .u64 0, .bool false, .slice none 0 0, .slice none 0 0] 39)).heap.size = w1.heap.size + 1 by simp] at this)
  have cq6 : w2.cell? ⟨w1.heap.size, 6, none⟩ = some (.slice none 0 0) := RQ.out.cell 6
  have zq6 := RQ.out.frozen 6
  have RQ2 := veil (show Row (w2.setCell ⟨w1.heap.size, 6, none⟩ (.slice aV d2.length cV)) w1.heap.size 39 #[.int .u8 6, .int .u64 0, .int .u64 (n1 : Int), .int .u64 0, .int .u64 0, .bool false, .slice aV d2.length cV, .slice none 0 0] from RQ.out.set 6 _)
  have RH2 := veil (RH.out.other (a := ⟨w1.heap.size, 6, none⟩) (show w.heap.size ≠ w1.heap.size by omega) (.slice aV d2.length cV))
  clear he2 hV2 hR2 hb2 hsg2 hsl2 hg2
  go_wp2_with (first
    | (with_reducible (show wpList _ _ _ (⟨_, Op.load 39 _, _, _, _, _⟩ :: _) _ _)
       refine value_wp rfl _ (run_midF 39 _ w1.heap.size 0 #[.int .u8 6, .int .u64 0, .int .u64 (n1 : Int), .int .u64 0, .int .u64 0, .bool false, .slice aV d2.length cV, .slice none 0 0] _ rfl rfl Tryd.underlying39 rfl (by kernel_rfl) _ (range_row RQ2.out)) ?_)
    | (with_reducible (show wpList _ _ _ (⟨_, Op.store 39 _ _, _, _, _, _⟩ :: _) _ _)
       refine store_row rfl 39 _ _ rfl w.heap.size #[.int .u8 6, .int .u64 0, .int .u64 (n1 : Int), .int .u64 0, .int .u64 0, .bool false, .slice aV d2.length cV, .slice none 0 0] rfl rfl _ _ RH2.out 8 (by kernel_rfl) rfl rfl (by kernel_rfl) ?_))
  refine bodyPost_ret (results_cell_row rfl _ _ w.heap.size _ #[.int .u8 6, .int .u64 0, .int .u64 (n1 : Int), .int .u64 0, .int .u64 0, .bool false, .slice aV d2.length cV, .slice none 0 0] (0, 0) _ rfl (RH2.out.put _) Tryd.underlying39 rfl (by kernel_rfl)) rfl ?_
  have OWN : World.ownsRow ((w2.setCell ⟨w1.heap.size, 6, none⟩ (.slice aV d2.length cV)).setRow w.heap.size #[.int .u8 6, .int .u64 0, .int .u64 (n1 : Int), .int .u64 0, .int .u64 0, .bool false, .slice aV d2.length cV, .slice none 0 0]) (w1.heap.size + 1) 5 1 (.slice aV d2.length cV) d2.length (vb d2) := own_setr (own_setc W2.out (by omega)) (by omega) _
  obtain ⟨sD, q1, q2, q3, q4, q5⟩ := SL.of_ownF OWN
  refine .inr ⟨_, _, _, s2, E2.out, rfl, ⟨⟨6, 0, n1, 0, 0, false, sD, noRg⟩, by unfold FrM.cells; rw [q1, q2, q3]; rfl, new_data _ _ _ _ _ _ _ _ sD ?_ q5 (by decide) (Nat.zero_le _) V1.out (Nat.zero_le _) (Nat.zero_le _), by show Fr.Frame.mk _ _ _ _ _ _ sD.b _ = _; rw [q4]; rfl⟩, (D2.out.setc (by omega) (fun p => by have := H.out.ok.lt (Nat.lt_of_lt_of_le p M2.out.2); rw [M2.out.1]; omega) (by omega) _).put (by omega) (fun p => by have := H.out.ok.lt (Nat.lt_of_lt_of_le p M2.out.2); rw [M2.out.1]; omega) (by omega) _, B2.out, M2.out.1, M2.out.2, grown_put (grown_setc G2.out (by omega) _) (Nat.le_refl _) _⟩
  unfold RowK
  rw [q1, q2, q3, q4]
  exact own_low OWN (by omega)

set_option maxRecDepth 20000 in
set_option maxHeartbeats 2000000 in
theorem rd_close_29 (g : Nat) (s : SL) (w : World) (h : Rd w g s 29) :
    Calls Tryd.prog 47 #[.pointer (some ⟨g, 0, none⟩)] w (RdPost w g s 29 (Fr.bodyP 29) (frV w.heap.size)) := by
  have hgw := h.row.lt
  have hLl := h.lens.lt
  have H := veil h
  have b0 := veil ((Below.refl _ w).alloc (Nat.le_refl _) (.cells zF 39))
  have R0 := veil (Row.new w 39 zF)
  have E0 := veil (show Fr.bodyP 29 s.b = Fr.thenR Fr.numR (fun co => Fr.thenR (Fr.placedR 0) fun d => Fr.okR { Fr.f0 with kind := 13, code := co, data := d, fin := true }) s.b from rfl)
  have A1 := veil (show (bits .and .u64 ((29 : Nat) : Int) ((1 : Nat) : Int) != 0) = true by decide +kernel)
  clear h
  go_enter Tryd.func47, Tryd.ntmps47
  go_wp2_with fail
  refine (rd_num g s 29 (w.alloc (.cells zF 39)) (H.out.below b0.out)).mono ?_
  rintro x1 w1 (⟨e, he, rfl, hg⟩ | ⟨n1, r1, v1, s1, he1, rfl, ⟨rfl, hv1⟩, hR1, hb1, hsg1, hsl1, hg1⟩)
  · exact ⟨rfl, .inl ⟨e, ch_err E0.out rfl he, rfl, grown_trans (grown_alloc (.cells zF 39) (some g)) hg⟩⟩
  have E1 := veil (ch_ok E0.out rfl he1)
  have G1 := veil (grown_trans (grown_alloc (.cells zF 39) (some g)) hg1)
  have Q1 := veil (Row.grown R0.out hg1 (show w.heap.size ≠ g by omega))
  have B1 := veil hb1
  have D1 := veil hR1
  have M1 := veil (show s1.g = s.g ∧ s1.len ≤ s.len from ⟨hsg1, hsl1⟩)
  have V1 := veil hv1
  clear he1 hg1 hb1 hR1 hsg1 hsl1 hv1
  go_wp2_with fail
  refine (rd_has g s1 29 1 w1 D1.out).mono ?_
  rintro x9 w9 ⟨rfl, hw9⟩
  obtain rfl := hw9.symm
  rw [A1.out]
  clear A1
  go_wp2_with fail
  refine (rd_sized g s1 29 0 (w1.alloc (.cells #[.int .u8 13, .int .u64 0, .int .u64 0, .int .u64 0, .int .u64 (n1 : Int), .bool true, .slice none 0 0, .slice none 0 0] 39)) (D1.out.below ((Below.refl _ w1).alloc (Nat.le_refl _) _)) (Nat.zero_le _)).mono ?_
  rintro x2 w2 (⟨e, he, rfl, hg⟩ | ⟨d2, r2, v2, s2, he2, rfl, hV2, hR2, hb2, hsg2, hsl2, hg2⟩)
  · exact ⟨rfl, .inl ⟨e, ch_err E1.out B1.out he, rfl, grown_trans (grown_trans G1.out (grown_alloc (.cells #[.int .u8 13, .int .u64 0, .int .u64 0, .int .u64 0, .int .u64 (n1 : Int), .bool true, .slice none 0 0, .slice none 0 0] 39) (some g))) hg⟩⟩
  obtain ⟨aV, cV, rfl⟩ := own_shapeF hV2
  have hq1 : w.heap.size + 1 ≤ w1.heap.size := by have := G1.out.size; have := Q1.out.lt; omega
  have E2 := veil (ch_ok E1.out B1.out he2)
  have RQ := veil (Row.grown (Row.new w1 39 #[.int .u8 13, .int .u64 0, .int .u64 0, .int .u64 0, .int .u64 (n1 : Int), .bool true, .slice none 0 0, .slice none 0 0]) hg2 (show w1.heap.size ≠ g by omega))
  have RH := veil (Row.grown (Q1.out.alloc (.cells #[.int .u8 13, .int .u64 0, .int .u64 0, .int .u64 0, .int .u64 (n1 : Int), .bool true, .slice none 0 0, .slice none 0 0] 39)) hg2 (show w.heap.size ≠ g by omega))
  have G2 := veil (grown_trans (grown_trans G1.out (grown_alloc (.cells #[.int .u8 13, .int .u64 0, .int .u64 0, .int .u64 0, .int .u64 (n1 : Int), .bool true, .slice none 0 0, .slice none 0 0] 39) (some g))) hg2)
  have B2 := veil hb2
  have D2 := veil hR2
  have M2 := veil (show s2.g = s.g ∧ s2.len ≤ s.len from ⟨hsg2.trans M1.out.1, Nat.le_trans hsl2 M1.out.2⟩)
  have W2 := veil (show w2.ownsRow (w1.heap.size + 1) 5 1 (.slice aV d2.length cV) d2.length (vb d2) by
    have := hV2
    unfold RowK at this
    rwa [show (w1.alloc (.cells #[.int .u8 13, .int .u64 0, .int .u64 0, .int .u64 0, .int .u64 (n1 : Int), .bool true, .slice none 0 0, .slice none 0 0] 39)).heap.size = w1.heap.size + 1 by simp] at this)
  have cq6 : w2.cell? ⟨w1.heap.size, 6, none⟩ = some (.slice none 0 0) := RQ.out.cell 6
  have zq6 := RQ.out.frozen 6
  have RQ2 := veil (show Row (w2.setCell ⟨w1.heap.size, 6, none⟩ (.slice aV d2.length cV)) w1.heap.size 39 #[.int .u8 13, .int .u64 0, .int .u64 0, .int .u64 0, .int .u64 (n1 : Int), .bool true, .slice aV d2.length cV, .slice none 0 0] from RQ.out.set 6 _)
  have RH2 := veil (RH.out.other (a := ⟨w1.heap.size, 6, none⟩) (show w.heap.size ≠ w1.heap.size by omega) (.slice aV d2.length cV))
  clear he2 hV2 hR2 hb2 hsg2 hsl2 hg2
  go_wp2_with (first
    | (with_reducible (show wpList _ _ _ (⟨_, Op.load 39 _, _, _, _, _⟩ :: _) _ _)
       refine value_wp rfl _ (run_midF 39 _ w1.heap.size 0 #[.int .u8 13, .int .u64 0, .int .u64 0, .int .u64 0, .int .u64 (n1 : Int), .bool true, .slice aV d2.length cV, .slice none 0 0] _ rfl rfl Tryd.underlying39 rfl (by kernel_rfl) _ (range_row RQ2.out)) ?_)
    | (with_reducible (show wpList _ _ _ (⟨_, Op.store 39 _ _, _, _, _, _⟩ :: _) _ _)
       refine store_row rfl 39 _ _ rfl w.heap.size #[.int .u8 13, .int .u64 0, .int .u64 0, .int .u64 0, .int .u64 (n1 : Int), .bool true, .slice aV d2.length cV, .slice none 0 0] rfl rfl _ _ RH2.out 8 (by kernel_rfl) rfl rfl (by kernel_rfl) ?_))
  refine bodyPost_ret (results_cell_row rfl _ _ w.heap.size _ #[.int .u8 13, .int .u64 0, .int .u64 0, .int .u64 0, .int .u64 (n1 : Int), .bool true, .slice aV d2.length cV, .slice none 0 0] (0, 0) _ rfl (RH2.out.put _) Tryd.underlying39 rfl (by kernel_rfl)) rfl ?_
  have OWN : World.ownsRow ((w2.setCell ⟨w1.heap.size, 6, none⟩ (.slice aV d2.length cV)).setRow w.heap.size #[.int .u8 13, .int .u64 0, .int .u64 0, .int .u64 0, .int .u64 (n1 : Int), .bool true, .slice aV d2.length cV, .slice none 0 0]) (w1.heap.size + 1) 5 1 (.slice aV d2.length cV) d2.length (vb d2) := own_setr (own_setc W2.out (by omega)) (by omega) _
  obtain ⟨sD, q1, q2, q3, q4, q5⟩ := SL.of_ownF OWN
  refine .inr ⟨_, _, _, s2, E2.out, rfl, ⟨⟨13, 0, 0, 0, n1, true, sD, noRg⟩, by unfold FrM.cells; rw [q1, q2, q3]; rfl, new_data _ _ _ _ _ _ _ _ sD ?_ q5 (by decide) (Nat.zero_le _) (Nat.zero_le _) (Nat.zero_le _) V1.out, by show Fr.Frame.mk _ _ _ _ _ _ sD.b _ = _; rw [q4]; rfl⟩, (D2.out.setc (by omega) (fun p => by have := H.out.ok.lt (Nat.lt_of_lt_of_le p M2.out.2); rw [M2.out.1]; omega) (by omega) _).put (by omega) (fun p => by have := H.out.ok.lt (Nat.lt_of_lt_of_le p M2.out.2); rw [M2.out.1]; omega) (by omega) _, B2.out, M2.out.1, M2.out.2, grown_put (grown_setc G2.out (by omega) _) (Nat.le_refl _) _⟩
  unfold RowK
  rw [q1, q2, q3, q4]
  exact own_low OWN (by omega)

set_option maxRecDepth 20000 in
set_option maxHeartbeats 2000000 in
theorem rd_close_28 (g : Nat) (s : SL) (w : World) (h : Rd w g s 28) :
    Calls Tryd.prog 47 #[.pointer (some ⟨g, 0, none⟩)] w (RdPost w g s 28 (Fr.bodyP 28) (frV w.heap.size)) := by
  have hgw := h.row.lt
  have hLl := h.lens.lt
  have H := veil h
  have b0 := veil ((Below.refl _ w).alloc (Nat.le_refl _) (.cells zF 39))
  have R0 := veil (Row.new w 39 zF)
  have E0 := veil (show Fr.bodyP 28 s.b = Fr.thenR Fr.numR (fun co => Fr.thenR (uptoR 0) fun _ => Fr.thenR (Fr.placedR 0) fun d => Fr.okR { Fr.f0 with kind := 13, code := co, data := d }) s.b from close_eq s.b)
  have A1 := veil (show (bits .and .u64 ((28 : Nat) : Int) ((1 : Nat) : Int) != 0) = false by decide +kernel)
  clear h
  go_enter Tryd.func47, Tryd.ntmps47
  go_wp2_with fail
  refine (rd_num g s 28 (w.alloc (.cells zF 39)) (H.out.below b0.out)).mono ?_
  rintro x1 w1 (⟨e, he, rfl, hg⟩ | ⟨n1, r1, v1, s1, he1, rfl, ⟨rfl, hv1⟩, hR1, hb1, hsg1, hsl1, hg1⟩)
  · exact ⟨rfl, .inl ⟨e, ch_err E0.out rfl he, rfl, grown_trans (grown_alloc (.cells zF 39) (some g)) hg⟩⟩
  have E1 := veil (ch_ok E0.out rfl he1)
  have G1 := veil (grown_trans (grown_alloc (.cells zF 39) (some g)) hg1)
  have Q1 := veil (Row.grown R0.out hg1 (show w.heap.size ≠ g by omega))
  have B1 := veil hb1
  have D1 := veil hR1
  have M1 := veil (show s1.g = s.g ∧ s1.len ≤ s.len from ⟨hsg1, hsl1⟩)
  have V1 := veil hv1
  clear he1 hg1 hb1 hR1 hsg1 hsl1 hv1
  go_wp2_with fail
  refine (rd_has g s1 28 1 w1 D1.out).mono ?_
  rintro x9 w9 ⟨rfl, hw9⟩
  obtain rfl := hw9.symm
  rw [A1.out]
  clear A1
  go_wp2_with fail
  refine (rd_upto g s1 28 0 (w1.alloc (.cells #[.int .u8 13, .int .u64 0, .int .u64 0, .int .u64 0, .int .u64 (n1 : Int), .bool false, .slice none 0 0, .slice none 0 0] 39)) (D1.out.below ((Below.refl _ w1).alloc (Nat.le_refl _) _))).mono ?_
  rintro x3 w3 (⟨e, he, rfl, hg⟩ | ⟨n3, r3, v3, s3, he3, rfl, ⟨⟨rfl, _⟩, _⟩, hR3, hb3, hsg3, hsl3, hg3⟩)
  · exact ⟨rfl, .inl ⟨e, ch_err E1.out B1.out he, rfl, grown_trans (grown_trans G1.out (grown_alloc (.cells #[.int .u8 13, .int .u64 0, .int .u64 0, .int .u64 0, .int .u64 (n1 : Int), .bool false, .slice none 0 0, .slice none 0 0] 39) (some g))) hg⟩⟩
  have hq0 : w.heap.size + 1 ≤ w1.heap.size := by have := G1.out.size; have := Q1.out.lt; omega
  have E3 := veil (ch_ok E1.out B1.out he3)
  have RQ3 := veil (Row.grown (Row.new w1 39 #[.int .u8 13, .int .u64 0, .int .u64 0, .int .u64 0, .int .u64 (n1 : Int), .bool false, .slice none 0 0, .slice none 0 0]) hg3 (show w1.heap.size ≠ g by omega))
  have RH3 := veil (Row.grown (Q1.out.alloc (.cells #[.int .u8 13, .int .u64 0, .int .u64 0, .int .u64 0, .int .u64 (n1 : Int), .bool false, .slice none 0 0, .slice none 0 0] 39)) hg3 (show w.heap.size ≠ g by omega))
  have G3 := veil (grown_trans (grown_trans G1.out (grown_alloc (.cells #[.int .u8 13, .int .u64 0, .int .u64 0, .int .u64 0, .int .u64 (n1 : Int), .bool false, .slice none 0 0, .slice none 0 0] 39) (some g))) hg3)
  have B3 := veil hb3
  have D3 := veil hR3
  have M3 := veil (show s3.g = s.g ∧ s3.len ≤ s.len from ⟨hsg3.trans M1.out.1, Nat.le_trans hsl3 M1.out.2⟩)
  have hz3 : w1.heap.size + 1 ≤ w3.heap.size := by have := hg3.size; simp at this; exact this
  clear he3 hR3 hb3 hsg3 hsl3 hg3
  go_wp2_with fail
  refine (rd_sized g s3 28 0 w3 D3.out (Nat.zero_le _)).mono ?_
  rintro x2 w2 (⟨e, he, rfl, hg⟩ | ⟨d2, r2, v2, s2, he2, rfl, hV2, hR2, hb2, hsg2, hsl2, hg2⟩)
  · exact ⟨rfl, .inl ⟨e, ch_err E3.out B3.out he, rfl, grown_trans G3.out hg⟩⟩
  obtain ⟨aV, cV, rfl⟩ := own_shapeF hV2
  have hq1 : w.heap.size + 1 ≤ w1.heap.size := by have := G1.out.size; have := Q1.out.lt; omega
  have E2 := veil (ch_ok E3.out B3.out he2)
  have RQ := veil (Row.grown RQ3.out hg2 (show w1.heap.size ≠ g by omega))
  have RH := veil (Row.grown RH3.out hg2 (show w.heap.size ≠ g by omega))
  have G2 := veil (grown_trans G3.out hg2)
  have B2 := veil hb2
  have D2 := veil hR2
  have M2 := veil (show s2.g = s.g ∧ s2.len ≤ s.len from ⟨hsg2.trans M3.out.1, Nat.le_trans hsl2 M3.out.2⟩)
  have W2 := veil (show w2.ownsRow (w1.heap.size + 1) 5 1 (.slice aV d2.length cV) d2.length (vb d2) from own_low hV2 hz3)
  have cq6 : w2.cell? ⟨w1.heap.size, 6, none⟩ = some (.slice none 0 0) := RQ.out.cell 6
  have zq6 := RQ.out.frozen 6
  have RQ2 := veil (show Row (w2.setCell ⟨w1.heap.size, 6, none⟩ (.slice aV d2.length cV)) w1.heap.size 39 #[.int .u8 13, .int .u64 0, .int .u64 0, .int .u64 0, .int .u64 (n1 : Int), .bool false, .slice aV d2.length cV, .slice none 0 0] from RQ.out.set 6 _)
  have RH2 := veil (RH.out.other (a := ⟨w1.heap.size, 6, none⟩) (show w.heap.size ≠ w1.heap.size by omega) (.slice aV d2.length cV))
  clear he2 hV2 hR2 hb2 hsg2 hsl2 hg2
  go_wp2_with (first
    | (with_reducible (show wpList _ _ _ (⟨_, Op.load 39 _, _, _, _, _⟩ :: _) _ _)
       refine value_wp rfl _ (run_midF 39 _ w1.heap.size 0 #[.int .u8 13, .int .u64 0, .int .u64 0, .int .u64 0, .int .u64 (n1 : Int), .bool false, .slice aV d2.length cV, .slice none 0 0] _ rfl rfl Tryd.underlying39 rfl (by kernel_rfl) _ (range_row RQ2.out)) ?_)
    | (with_reducible (show wpList _ _ _ (⟨_, Op.store 39 _ _, _, _, _, _⟩ :: _) _ _)
       refine store_row rfl 39 _ _ rfl w.heap.size #[.int .u8 13, .int .u64 0, .int .u64 0, .int .u64 0, .int .u64 (n1 : Int), .bool false, .slice aV d2.length cV, .slice none 0 0] rfl rfl _ _ RH2.out 8 (by kernel_rfl) rfl rfl (by kernel_rfl) ?_))
  refine bodyPost_ret (results_cell_row rfl _ _ w.heap.size _ #[.int .u8 13, .int .u64 0, .int .u64 0, .int .u64 0, .int .u64 (n1 : Int), .bool false, .slice aV d2.length cV, .slice none 0 0] (0, 0) _ rfl (RH2.out.put _) Tryd.underlying39 rfl (by kernel_rfl)) rfl ?_
  have OWN : World.ownsRow ((w2.setCell ⟨w1.heap.size, 6, none⟩ (.slice aV d2.length cV)).setRow w.heap.size #[.int .u8 13, .int .u64 0, .int .u64 0, .int .u64 0, .int .u64 (n1 : Int), .bool false, .slice aV d2.length cV, .slice none 0 0]) (w1.heap.size + 1) 5 1 (.slice aV d2.length cV) d2.length (vb d2) := own_setr (own_setc W2.out (by omega)) (by omega) _
  obtain ⟨sD, q1, q2, q3, q4, q5⟩ := SL.of_ownF OWN
  refine .inr ⟨_, _, _, s2, E2.out, rfl, ⟨⟨13, 0, 0, 0, n1, false, sD, noRg⟩, by unfold FrM.cells; rw [q1, q2, q3]; rfl, new_data _ _ _ _ _ _ _ _ sD ?_ q5 (by decide) (Nat.zero_le _) (Nat.zero_le _) (Nat.zero_le _) V1.out, by show Fr.Frame.mk _ _ _ _ _ _ sD.b _ = _; rw [q4]; rfl⟩, (D2.out.setc (by omega) (fun p => by have := H.out.ok.lt (Nat.lt_of_lt_of_le p M2.out.2); rw [M2.out.1]; omega) (by omega) _).put (by omega) (fun p => by have := H.out.ok.lt (Nat.lt_of_lt_of_le p M2.out.2); rw [M2.out.1]; omega) (by omega) _, B2.out, M2.out.1, M2.out.2, grown_put (grown_setc G2.out (by omega) _) (Nat.le_refl _) _⟩
  unfold RowK
  rw [q1, q2, q3, q4]
  exact own_low OWN (by omega)
end Go.Proofs.YtjhgelhdhdcmfaaDoor
