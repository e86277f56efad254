/-
  frame's reader: data, sized, and frames without bytes.
-/
import Derived.Test.YtjhgelhdhdcmfaaDoorGfFrGetA
import Derived.Test.YtjhgelhdhdcmfaaDoorGfFrProg
import Derived.Test.YtjhgelhdhdcmfaaDoorGfRgVr
namespace Go.Proofs.YtjhgelhdhdcmfaaDoor
open Go Go.RowKit

/-- A frame whose slices are the call's own. -/
structure FrNew (base : Nat) (w : World) (F : FrM) : Prop where
  data : RowK base F.data.b w (.slice F.data.a F.data.len F.data.cap)
  dok : F.data.Ok w
  ranges : w.ownsRow base 44 2 (.slice F.ranges.a F.ranges.len F.ranges.cap) F.ranges.len (vr F.ranges.l)
  rok : F.ranges.Ok w
  k8 : F.kind < 256
  st : F.stream ≤ 4611686018427387903
  of : F.offset ≤ 4611686018427387903
  li : F.limit ≤ 4611686018427387903
  co : F.code ≤ 4611686018427387903
def noD : SL := ⟨none, 0, 0, 0, 0, []⟩
def noRg : RL := ⟨none, 0, 0, 0, 0, []⟩
theorem noD_ok (w : World) : noD.Ok w := ⟨rfl, Nat.le_refl _, fun _ => ⟨rfl, rfl⟩, fun p => absurd p (Nat.lt_irrefl _), fun p => absurd p (Nat.lt_irrefl _), fun _ h => absurd h (Nat.not_lt_zero _)⟩
theorem noRg_ok (w : World) : noRg.Ok w := ⟨rfl, Nat.le_refl _, fun _ => ⟨rfl, rfl⟩, fun p => absurd p (Nat.lt_irrefl _), fun p => absurd p (Nat.lt_irrefl _), fun _ h => absurd h (Nat.not_lt_zero _), fun _ => ⟨by show (0 : Nat) < _; decide, by show (0 : Nat) < _; decide⟩⟩
theorem new_plain (base : Nat) (w : World) (k st of li co : Nat) (fi : Bool) (h0 : k < 256) (h1 : st ≤ 4611686018427387903) (h2 : of ≤ 4611686018427387903) (h3 : li ≤ 4611686018427387903) (h4 : co ≤ 4611686018427387903) : FrNew base w ⟨k, st, of, li, co, fi, noD, noRg⟩ :=
  ⟨World.ownsRow_nil _ _ _ _, noD_ok w, World.ownsRow_nil _ _ _ _, noRg_ok w, h0, h1, h2, h3, h4⟩
/-- A frame, as it is answered. -/
def frV (base : Nat) (f : Fr.Frame) (w : World) (v : Value) : Prop := ∃ F : FrM, v = .agg F.cells ∧ FrNew base w F ∧ F.fr = f

/-- What is written into a block of the call's own leaves the reader. -/
theorem Rd.put {w : World} {g tb h : Nat} {s : SL} (H : Rd w g s tb) (hne : h ≠ g) (hs : 0 < s.len → s.g ≠ h) (hl : 1 ≠ h) (cs : Array Value) : Rd (w.setRow h cs) g s tb :=
  ⟨H.row.putOther (Ne.symm hne) cs, H.ok.same (fun p => setRow_other w h s.g cs (hs p)) (by simp), H.told, H.ne, H.lens.same (setRow_other w h _ cs hl), H.gne, H.len⟩
theorem grown_alloc {w : World} (o : Obj) (g : Option Nat) : w.grownBy (w.alloc o) g := World.grownBy_alloc w o g
theorem grown_below {w w' : World} {g : Option Nat} (hb : Below w.heap.size w w') : w.grownBy w' g := ⟨hb.os, hb.tape, hb.output, hb.size, fun k hk _ => hb.block k hk⟩
theorem grown_put {w w' : World} {g h : Nat} (hg : w.grownBy w' (some g)) (hh : w.heap.size ≤ h) (cs : Array Value) : w.grownBy (w'.setRow h cs) (some g) :=
  ⟨hg.os, hg.tape, hg.output, by rw [size_setRow]; exact hg.size, fun k hk hn => (setRow_other w' h k cs (by omega)).trans (hg.block k hk hn)⟩
theorem Row.grown {w w' : World} {g h : Nat} {t : TypeId} {cs : Array Value} (r : Row w h t cs) (hg : w.grownBy w' (some g)) (hne : h ≠ g) : Row w' h t cs := (hg.block h r.lt (fun e => hne (Option.some.inj e))).trans r
def zF : Array Value := #[.int .u8 0, .int .u64 0, .int .u64 0, .int .u64 0, .int .u64 0, .bool false, .slice none 0 0, .slice none 0 0]
theorem ch_err {α β : Type} {x : Except Nat (α × List By)} {m : Fr.R β} {f : β → Fr.R α} {r s : List By} {e : Nat} (hE : x = Fr.thenR m f r) (hB : s = r) (he : m s = .error e) : x = .error e := by
  subst hB
  rw [hE]
  exact Fr.thenR_err he
theorem ch_ok {α β : Type} {x : Except Nat (α × List By)} {m : Fr.R β} {f : β → Fr.R α} {r s r2 : List By} {a : β} (hE : x = Fr.thenR m f r) (hB : s = r) (he : m s = .ok (a, r2)) : x = f a r2 := by
  subst hB
  rw [hE]
  exact thenR_ok he

set_option maxRecDepth 20000 in
set_option maxHeartbeats 1000000 in
theorem rd_ping (g : Nat) (s : SL) (tb : Nat) (w : World) (h : Rd w g s tb) :
    Calls Tryd.prog 37 #[.pointer (some ⟨g, 0, none⟩)] w (RdPost w g s tb (Fr.bodyP 1) (frV w.heap.size)) := by
  have hgw := h.row.lt
  have hLl := h.lens.lt
  have H := veil h
  clear h
  go_enter Tryd.func37, Tryd.ntmps37
  go_wp2_with fail
  refine bodyPost_ret (results_cell_row rfl _ _ w.heap.size _ _ (0, 0) _ rfl (Row.new w 39 _) Tryd.underlying39 rfl (by kernel_rfl)) rfl ?_
  refine .inr ⟨_, _, _, s, rfl, rfl, ⟨⟨2, 0, 0, 0, 0, false, noD, noRg⟩, rfl, new_plain _ _ _ _ _ _ _ _ (by decide) (Nat.zero_le _) (Nat.zero_le _) (Nat.zero_le _) (Nat.zero_le _), rfl⟩, H.out.below ((Below.refl _ w).alloc (Nat.le_refl _) _), rfl, rfl, Nat.le_refl _, grown_alloc _ _⟩

set_option maxRecDepth 20000 in
set_option maxHeartbeats 1000000 in
theorem rd_done (g : Nat) (s : SL) (tb : Nat) (w : World) (h : Rd w g s tb) :
    Calls Tryd.prog 48 #[.pointer (some ⟨g, 0, none⟩)] w (RdPost w g s tb (Fr.bodyP 30) (frV w.heap.size)) := by
  have hgw := h.row.lt
  have hLl := h.lens.lt
  have H := veil h
  clear h
  go_enter Tryd.func48, Tryd.ntmps48
  go_wp2_with fail
  refine bodyPost_ret (results_cell_row rfl _ _ w.heap.size _ _ (0, 0) _ rfl (Row.new w 39 _) Tryd.underlying39 rfl (by kernel_rfl)) rfl ?_
  refine .inr ⟨_, _, _, s, rfl, rfl, ⟨⟨14, 0, 0, 0, 0, false, noD, noRg⟩, rfl, new_plain _ _ _ _ _ _ _ _ (by decide) (Nat.zero_le _) (Nat.zero_le _) (Nat.zero_le _) (Nat.zero_le _), rfl⟩, H.out.below ((Below.refl _ w).alloc (Nat.le_refl _) _), rfl, rfl, Nat.le_refl _, grown_alloc _ _⟩

set_option maxRecDepth 20000 in
set_option maxHeartbeats 1000000 in
theorem rd_reset (g : Nat) (s : SL) (tb : Nat) (w : World) (h : Rd w g s tb) :
    Calls Tryd.prog 39 #[.pointer (some ⟨g, 0, none⟩)] w (RdPost w g s tb (Fr.bodyP 4) (frV w.heap.size)) := by
  have hgw := h.row.lt
  have hLl := h.lens.lt
  have H := veil h
  have b0 := veil ((Below.refl _ w).alloc (Nat.le_refl _) (.cells zF 39))
  have R0 := veil (Row.new w 39 zF)
  have E0 := veil (show Fr.bodyP 4 s.b = Fr.thenR Fr.numR (fun st => Fr.thenR Fr.numR fun co => Fr.thenR Fr.numR fun lim => Fr.okR { Fr.f0 with kind := 4, stream := st, code := co, limit := lim }) s.b from rfl)
  clear h
  go_enter Tryd.func39, Tryd.ntmps39
  go_wp2_with fail
  refine (rd_num g s tb (w.alloc (.cells zF 39)) (H.out.below b0.out)).mono ?_
  rintro x1 w1 (⟨e, he, rfl, hg⟩ | ⟨n1, r1, v1, s1, he1, rfl, ⟨rfl, hv1⟩, hR1, hb1, hsg1, hsl1, hg1⟩)
  · exact ⟨rfl, .inl ⟨e, ch_err E0.out rfl he, rfl, grown_trans (grown_alloc (.cells zF 39) (some g)) hg⟩⟩
  have E1 := veil (ch_ok E0.out rfl he1)
  have G1 := veil (grown_trans (grown_alloc (.cells zF 39) (some g)) hg1)
  have Q1 := veil (Row.grown R0.out hg1 (show w.heap.size ≠ g by omega))
  have B1 := veil hb1
  have D1 := veil hR1
  have M1 := veil (show s1.g = s.g ∧ s1.len ≤ s.len from ⟨hsg1, hsl1⟩)
  have V1 := veil hv1
  clear he1 hg1 hb1 hR1 hsg1 hsl1 hv1
  go_wp2_with fail
  refine (rd_num g s1 tb w1 D1.out).mono ?_
  rintro x2 w2 (⟨e, he, rfl, hg⟩ | ⟨n2, r2, v2, s2, he2, rfl, ⟨rfl, hv2⟩, hR2, hb2, hsg2, hsl2, hg2⟩)
  · exact ⟨rfl, .inl ⟨e, ch_err E1.out B1.out he, rfl, grown_trans G1.out hg⟩⟩
  have E2 := veil (ch_ok E1.out B1.out he2)
  have G2 := veil (grown_trans G1.out hg2)
  have Q2 := veil (Row.grown Q1.out hg2 (show w.heap.size ≠ g by omega))
  have B2 := veil hb2
  have D2 := veil hR2
  have M2 := veil (show s2.g = s.g ∧ s2.len ≤ s.len from ⟨hsg2.trans M1.out.1, Nat.le_trans hsl2 M1.out.2⟩)
  have V2 := veil hv2
  clear he2 hg2 hb2 hR2 hsg2 hsl2 hv2
  go_wp2_with fail
  refine (rd_num g s2 tb w2 D2.out).mono ?_
  rintro x3 w3 (⟨e, he, rfl, hg⟩ | ⟨n3, r3, v3, s3, he3, rfl, ⟨rfl, hv3⟩, hR3, hb3, hsg3, hsl3, hg3⟩)
  · exact ⟨rfl, .inl ⟨e, ch_err E2.out B2.out he, rfl, grown_trans G2.out hg⟩⟩
  have E3 := veil (ch_ok E2.out B2.out he3)
  have G3 := veil (grown_trans G2.out hg3)
  have Q3 := veil (Row.grown Q2.out hg3 (show w.heap.size ≠ g by omega))
  have B3 := veil hb3
  have D3 := veil hR3
  have M3 := veil (show s3.g = s.g ∧ s3.len ≤ s.len from ⟨hsg3.trans M2.out.1, Nat.le_trans hsl3 M2.out.2⟩)
  have V3 := veil hv3
  clear he3 hg3 hb3 hR3 hsg3 hsl3 hv3
  go_wp2_with (with_reducible (show wpList _ _ _ (⟨_, Op.store 39 _ _, _, _, _, _⟩ :: _) _ _)
               refine store_row rfl 39 _ _ rfl w.heap.size #[.int .u8 4, .int .u64 (n1 : Int), .int .u64 (0 : Int), .int .u64 (n3 : Int), .int .u64 (n2 : Int), .bool false, .slice none 0 0, .slice none 0 0] rfl rfl _ _ Q3.out 8 (by kernel_rfl) rfl rfl (by kernel_rfl) ?_)
  refine bodyPost_ret (results_cell_row rfl _ _ w.heap.size _ #[.int .u8 4, .int .u64 (n1 : Int), .int .u64 (0 : Int), .int .u64 (n3 : Int), .int .u64 (n2 : Int), .bool false, .slice none 0 0, .slice none 0 0] (0, 0) _ rfl (Q3.out.put _) Tryd.underlying39 rfl (by kernel_rfl)) rfl ?_
  refine .inr ⟨_, _, _, s3, E3.out, rfl, ⟨⟨4, n1, 0, n3, n2, false, noD, noRg⟩, rfl, new_plain _ _ _ _ _ _ _ _ (by decide) V1.out (Nat.zero_le _) V3.out V2.out, rfl⟩, D3.out.put (by omega) (fun p => by have := H.out.ok.lt (Nat.lt_of_lt_of_le p M3.out.2); rw [M3.out.1]; omega) (by omega) _, B3.out, M3.out.1, M3.out.2, grown_put G3.out (Nat.le_refl _) _⟩

set_option maxRecDepth 20000 in
set_option maxHeartbeats 1000000 in
theorem rd_stop (g : Nat) (s : SL) (tb : Nat) (w : World) (h : Rd w g s tb) :
    Calls Tryd.prog 40 #[.pointer (some ⟨g, 0, none⟩)] w (RdPost w g s tb (Fr.bodyP 5) (frV w.heap.size)) := by
  have hgw := h.row.lt
  have hLl := h.lens.lt
  have H := veil h
  have b0 := veil ((Below.refl _ w).alloc (Nat.le_refl _) (.cells zF 39))
  have R0 := veil (Row.new w 39 zF)
  have E0 := veil (show Fr.bodyP 5 s.b = Fr.thenR Fr.numR (fun st => Fr.thenR Fr.numR fun co => Fr.okR { Fr.f0 with kind := 5, stream := st, code := co }) s.b from rfl)
  clear h
  go_enter Tryd.func40, Tryd.ntmps40
  go_wp2_with fail
  refine (rd_num g s tb (w.alloc (.cells zF 39)) (H.out.below b0.out)).mono ?_
  rintro x1 w1 (⟨e, he, rfl, hg⟩ | ⟨n1, r1, v1, s1, he1, rfl, ⟨rfl, hv1⟩, hR1, hb1, hsg1, hsl1, hg1⟩)
  · exact ⟨rfl, .inl ⟨e, ch_err E0.out rfl he, rfl, grown_trans (grown_alloc (.cells zF 39) (some g)) hg⟩⟩
  have E1 := veil (ch_ok E0.out rfl he1)
  have G1 := veil (grown_trans (grown_alloc (.cells zF 39) (some g)) hg1)
  have Q1 := veil (Row.grown R0.out hg1 (show w.heap.size ≠ g by omega))
  have B1 := veil hb1
  have D1 := veil hR1
  have M1 := veil (show s1.g = s.g ∧ s1.len ≤ s.len from ⟨hsg1, hsl1⟩)
  have V1 := veil hv1
  clear he1 hg1 hb1 hR1 hsg1 hsl1 hv1
  go_wp2_with fail
  refine (rd_num g s1 tb w1 D1.out).mono ?_
  rintro x2 w2 (⟨e, he, rfl, hg⟩ | ⟨n2, r2, v2, s2, he2, rfl, ⟨rfl, hv2⟩, hR2, hb2, hsg2, hsl2, hg2⟩)
  · exact ⟨rfl, .inl ⟨e, ch_err E1.out B1.out he, rfl, grown_trans G1.out hg⟩⟩
  have E2 := veil (ch_ok E1.out B1.out he2)
  have G2 := veil (grown_trans G1.out hg2)
  have Q2 := veil (Row.grown Q1.out hg2 (show w.heap.size ≠ g by omega))
  have B2 := veil hb2
  have D2 := veil hR2
  have M2 := veil (show s2.g = s.g ∧ s2.len ≤ s.len from ⟨hsg2.trans M1.out.1, Nat.le_trans hsl2 M1.out.2⟩)
  have V2 := veil hv2
  clear he2 hg2 hb2 hR2 hsg2 hsl2 hv2
  go_wp2_with (with_reducible (show wpList _ _ _ (⟨_, Op.store 39 _ _, _, _, _, _⟩ :: _) _ _)
               refine store_row rfl 39 _ _ rfl w.heap.size #[.int .u8 5, .int .u64 (n1 : Int), .int .u64 (0 : Int), .int .u64 (0 : Int), .int .u64 (n2 : Int), .bool false, .slice none 0 0, .slice none 0 0] rfl rfl _ _ Q2.out 8 (by kernel_rfl) rfl rfl (by kernel_rfl) ?_)
  refine bodyPost_ret (results_cell_row rfl _ _ w.heap.size _ #[.int .u8 5, .int .u64 (n1 : Int), .int .u64 (0 : Int), .int .u64 (0 : Int), .int .u64 (n2 : Int), .bool false, .slice none 0 0, .slice none 0 0] (0, 0) _ rfl (Q2.out.put _) Tryd.underlying39 rfl (by kernel_rfl)) rfl ?_
  refine .inr ⟨_, _, _, s2, E2.out, rfl, ⟨⟨5, n1, 0, 0, n2, false, noD, noRg⟩, rfl, new_plain _ _ _ _ _ _ _ _ (by decide) V1.out (Nat.zero_le _) (Nat.zero_le _) V2.out, rfl⟩, D2.out.put (by omega) (fun p => by have := H.out.ok.lt (Nat.lt_of_lt_of_le p M2.out.2); rw [M2.out.1]; omega) (by omega) _, B2.out, M2.out.1, M2.out.2, grown_put G2.out (Nat.le_refl _) _⟩

set_option maxRecDepth 20000 in
set_option maxHeartbeats 1000000 in
theorem rd_maxData (g : Nat) (s : SL) (tb : Nat) (w : World) (h : Rd w g s tb) :
    Calls Tryd.prog 42 #[.pointer (some ⟨g, 0, none⟩)] w (RdPost w g s tb (Fr.bodyP 16) (frV w.heap.size)) := by
  have hgw := h.row.lt
  have hLl := h.lens.lt
  have H := veil h
  have b0 := veil ((Below.refl _ w).alloc (Nat.le_refl _) (.cells zF 39))
  have R0 := veil (Row.new w 39 zF)
  have E0 := veil (show Fr.bodyP 16 s.b = Fr.thenR Fr.numR (fun lim => Fr.okR { Fr.f0 with kind := 8, limit := lim }) s.b from rfl)
  clear h
  go_enter Tryd.func42, Tryd.ntmps42
  go_wp2_with fail
  refine (rd_num g s tb (w.alloc (.cells zF 39)) (H.out.below b0.out)).mono ?_
  rintro x1 w1 (⟨e, he, rfl, hg⟩ | ⟨n1, r1, v1, s1, he1, rfl, ⟨rfl, hv1⟩, hR1, hb1, hsg1, hsl1, hg1⟩)
  · exact ⟨rfl, .inl ⟨e, ch_err E0.out rfl he, rfl, grown_trans (grown_alloc (.cells zF 39) (some g)) hg⟩⟩
  have E1 := veil (ch_ok E0.out rfl he1)
  have G1 := veil (grown_trans (grown_alloc (.cells zF 39) (some g)) hg1)
  have Q1 := veil (Row.grown R0.out hg1 (show w.heap.size ≠ g by omega))
  have B1 := veil hb1
  have D1 := veil hR1
  have M1 := veil (show s1.g = s.g ∧ s1.len ≤ s.len from ⟨hsg1, hsl1⟩)
  have V1 := veil hv1
  clear he1 hg1 hb1 hR1 hsg1 hsl1 hv1
  go_wp2_with (with_reducible (show wpList _ _ _ (⟨_, Op.store 39 _ _, _, _, _, _⟩ :: _) _ _)
               refine store_row rfl 39 _ _ rfl w.heap.size #[.int .u8 8, .int .u64 (0 : Int), .int .u64 (0 : Int), .int .u64 (n1 : Int), .int .u64 (0 : Int), .bool false, .slice none 0 0, .slice none 0 0] rfl rfl _ _ Q1.out 8 (by kernel_rfl) rfl rfl (by kernel_rfl) ?_)
  refine bodyPost_ret (results_cell_row rfl _ _ w.heap.size _ #[.int .u8 8, .int .u64 (0 : Int), .int .u64 (0 : Int), .int .u64 (n1 : Int), .int .u64 (0 : Int), .bool false, .slice none 0 0, .slice none 0 0] (0, 0) _ rfl (Q1.out.put _) Tryd.underlying39 rfl (by kernel_rfl)) rfl ?_
  refine .inr ⟨_, _, _, s1, E1.out, rfl, ⟨⟨8, 0, 0, n1, 0, false, noD, noRg⟩, rfl, new_plain _ _ _ _ _ _ _ _ (by decide) (Nat.zero_le _) (Nat.zero_le _) V1.out (Nat.zero_le _), rfl⟩, D1.out.put (by omega) (fun p => by have := H.out.ok.lt (Nat.lt_of_lt_of_le p M1.out.2); rw [M1.out.1]; omega) (by omega) _, B1.out, M1.out.1, M1.out.2, grown_put G1.out (Nat.le_refl _) _⟩

set_option maxRecDepth 20000 in
set_option maxHeartbeats 1000000 in
theorem rd_maxStreamData (g : Nat) (s : SL) (tb : Nat) (w : World) (h : Rd w g s tb) :
    Calls Tryd.prog 43 #[.pointer (some ⟨g, 0, none⟩)] w (RdPost w g s tb (Fr.bodyP 17) (frV w.heap.size)) := by
  have hgw := h.row.lt
  have hLl := h.lens.lt
  have H := veil h
  have b0 := veil ((Below.refl _ w).alloc (Nat.le_refl _) (.cells zF 39))
  have R0 := veil (Row.new w 39 zF)
  have E0 := veil (show Fr.bodyP 17 s.b = Fr.thenR Fr.numR (fun st => Fr.thenR Fr.numR fun lim => Fr.okR { Fr.f0 with kind := 9, stream := st, limit := lim }) s.b from rfl)
  clear h
  go_enter Tryd.func43, Tryd.ntmps43
  go_wp2_with fail
  refine (rd_num g s tb (w.alloc (.cells zF 39)) (H.out.below b0.out)).mono ?_
  rintro x1 w1 (⟨e, he, rfl, hg⟩ | ⟨n1, r1, v1, s1, he1, rfl, ⟨rfl, hv1⟩, hR1, hb1, hsg1, hsl1, hg1⟩)
  · exact ⟨rfl, .inl ⟨e, ch_err E0.out rfl he, rfl, grown_trans (grown_alloc (.cells zF 39) (some g)) hg⟩⟩
  have E1 := veil (ch_ok E0.out rfl he1)
  have G1 := veil (grown_trans (grown_alloc (.cells zF 39) (some g)) hg1)
  have Q1 := veil (Row.grown R0.out hg1 (show w.heap.size ≠ g by omega))
  have B1 := veil hb1
  have D1 := veil hR1
  have M1 := veil (show s1.g = s.g ∧ s1.len ≤ s.len from ⟨hsg1, hsl1⟩)
  have V1 := veil hv1
  clear he1 hg1 hb1 hR1 hsg1 hsl1 hv1
  go_wp2_with fail
  refine (rd_num g s1 tb w1 D1.out).mono ?_
  rintro x2 w2 (⟨e, he, rfl, hg⟩ | ⟨n2, r2, v2, s2, he2, rfl, ⟨rfl, hv2⟩, hR2, hb2, hsg2, hsl2, hg2⟩)
  · exact ⟨rfl, .inl ⟨e, ch_err E1.out B1.out he, rfl, grown_trans G1.out hg⟩⟩
  have E2 := veil (ch_ok E1.out B1.out he2)
  have G2 := veil (grown_trans G1.out hg2)
  have Q2 := veil (Row.grown Q1.out hg2 (show w.heap.size ≠ g by omega))
  have B2 := veil hb2
  have D2 := veil hR2
  have M2 := veil (show s2.g = s.g ∧ s2.len ≤ s.len from ⟨hsg2.trans M1.out.1, Nat.le_trans hsl2 M1.out.2⟩)
  have V2 := veil hv2
  clear he2 hg2 hb2 hR2 hsg2 hsl2 hv2
  go_wp2_with (with_reducible (show wpList _ _ _ (⟨_, Op.store 39 _ _, _, _, _, _⟩ :: _) _ _)
               refine store_row rfl 39 _ _ rfl w.heap.size #[.int .u8 9, .int .u64 (n1 : Int), .int .u64 (0 : Int), .int .u64 (n2 : Int), .int .u64 (0 : Int), .bool false, .slice none 0 0, .slice none 0 0] rfl rfl _ _ Q2.out 8 (by kernel_rfl) rfl rfl (by kernel_rfl) ?_)
  refine bodyPost_ret (results_cell_row rfl _ _ w.heap.size _ #[.int .u8 9, .int .u64 (n1 : Int), .int .u64 (0 : Int), .int .u64 (n2 : Int), .int .u64 (0 : Int), .bool false, .slice none 0 0, .slice none 0 0] (0, 0) _ rfl (Q2.out.put _) Tryd.underlying39 rfl (by kernel_rfl)) rfl ?_
  refine .inr ⟨_, _, _, s2, E2.out, rfl, ⟨⟨9, n1, 0, n2, 0, false, noD, noRg⟩, rfl, new_plain _ _ _ _ _ _ _ _ (by decide) V1.out (Nat.zero_le _) V2.out (Nat.zero_le _), rfl⟩, D2.out.put (by omega) (fun p => by have := H.out.ok.lt (Nat.lt_of_lt_of_le p M2.out.2); rw [M2.out.1]; omega) (by omega) _, B2.out, M2.out.1, M2.out.2, grown_put G2.out (Nat.le_refl _) _⟩

set_option maxRecDepth 20000 in
set_option maxHeartbeats 1000000 in
theorem rd_dataBlocked (g : Nat) (s : SL) (tb : Nat) (w : World) (h : Rd w g s tb) :
    Calls Tryd.prog 45 #[.pointer (some ⟨g, 0, none⟩)] w (RdPost w g s tb (Fr.bodyP 20) (frV w.heap.size)) := by
  have hgw := h.row.lt
  have hLl := h.lens.lt
  have H := veil h
  have b0 := veil ((Below.refl _ w).alloc (Nat.le_refl _) (.cells zF 39))
  have R0 := veil (Row.new w 39 zF)
  have E0 := veil (show Fr.bodyP 20 s.b = Fr.thenR Fr.numR (fun lim => Fr.okR { Fr.f0 with kind := 11, limit := lim }) s.b from rfl)
  clear h
  go_enter Tryd.func45, Tryd.ntmps45
  go_wp2_with fail
  refine (rd_num g s tb (w.alloc (.cells zF 39)) (H.out.below b0.out)).mono ?_
  rintro x1 w1 (⟨e, he, rfl, hg⟩ | ⟨n1, r1, v1, s1, he1, rfl, ⟨rfl, hv1⟩, hR1, hb1, hsg1, hsl1, hg1⟩)
  · exact ⟨rfl, .inl ⟨e, ch_err E0.out rfl he, rfl, grown_trans (grown_alloc (.cells zF 39) (some g)) hg⟩⟩
  have E1 := veil (ch_ok E0.out rfl he1)
  have G1 := veil (grown_trans (grown_alloc (.cells zF 39) (some g)) hg1)
  have Q1 := veil (Row.grown R0.out hg1 (show w.heap.size ≠ g by omega))
  have B1 := veil hb1
  have D1 := veil hR1
  have M1 := veil (show s1.g = s.g ∧ s1.len ≤ s.len from ⟨hsg1, hsl1⟩)
  have V1 := veil hv1
  clear he1 hg1 hb1 hR1 hsg1 hsl1 hv1
  go_wp2_with (with_reducible (show wpList _ _ _ (⟨_, Op.store 39 _ _, _, _, _, _⟩ :: _) _ _)
               refine store_row rfl 39 _ _ rfl w.heap.size #[.int .u8 11, .int .u64 (0 : Int), .int .u64 (0 : Int), .int .u64 (n1 : Int), .int .u64 (0 : Int), .bool false, .slice none 0 0, .slice none 0 0] rfl rfl _ _ Q1.out 8 (by kernel_rfl) rfl rfl (by kernel_rfl) ?_)
  refine bodyPost_ret (results_cell_row rfl _ _ w.heap.size _ #[.int .u8 11, .int .u64 (0 : Int), .int .u64 (0 : Int), .int .u64 (n1 : Int), .int .u64 (0 : Int), .bool false, .slice none 0 0, .slice none 0 0] (0, 0) _ rfl (Q1.out.put _) Tryd.underlying39 rfl (by kernel_rfl)) rfl ?_
  refine .inr ⟨_, _, _, s1, E1.out, rfl, ⟨⟨11, 0, 0, n1, 0, false, noD, noRg⟩, rfl, new_plain _ _ _ _ _ _ _ _ (by decide) (Nat.zero_le _) (Nat.zero_le _) V1.out (Nat.zero_le _), rfl⟩, D1.out.put (by omega) (fun p => by have := H.out.ok.lt (Nat.lt_of_lt_of_le p M1.out.2); rw [M1.out.1]; omega) (by omega) _, B1.out, M1.out.1, M1.out.2, grown_put G1.out (Nat.le_refl _) _⟩

set_option maxRecDepth 20000 in
set_option maxHeartbeats 1000000 in
theorem rd_streamBlocked (g : Nat) (s : SL) (tb : Nat) (w : World) (h : Rd w g s tb) :
    Calls Tryd.prog 46 #[.pointer (some ⟨g, 0, none⟩)] w (RdPost w g s tb (Fr.bodyP 21) (frV w.heap.size)) := by
  have hgw := h.row.lt
  have hLl := h.lens.lt
  have H := veil h
  have b0 := veil ((Below.refl _ w).alloc (Nat.le_refl _) (.cells zF 39))
  have R0 := veil (Row.new w 39 zF)
  have E0 := veil (show Fr.bodyP 21 s.b = Fr.thenR Fr.numR (fun st => Fr.thenR Fr.numR fun lim => Fr.okR { Fr.f0 with kind := 12, stream := st, limit := lim }) s.b from rfl)
  clear h
  go_enter Tryd.func46, Tryd.ntmps46
  go_wp2_with fail
  refine (rd_num g s tb (w.alloc (.cells zF 39)) (H.out.below b0.out)).mono ?_
  rintro x1 w1 (⟨e, he, rfl, hg⟩ | ⟨n1, r1, v1, s1, he1, rfl, ⟨rfl, hv1⟩, hR1, hb1, hsg1, hsl1, hg1⟩)
  · exact ⟨rfl, .inl ⟨e, ch_err E0.out rfl he, rfl, grown_trans (grown_alloc (.cells zF 39) (some g)) hg⟩⟩
  have E1 := veil (ch_ok E0.out rfl he1)
  have G1 := veil (grown_trans (grown_alloc (.cells zF 39) (some g)) hg1)
  have Q1 := veil (Row.grown R0.out hg1 (show w.heap.size ≠ g by omega))
  have B1 := veil hb1
  have D1 := veil hR1
  have M1 := veil (show s1.g = s.g ∧ s1.len ≤ s.len from ⟨hsg1, hsl1⟩)
  have V1 := veil hv1
  clear he1 hg1 hb1 hR1 hsg1 hsl1 hv1
  go_wp2_with fail
  refine (rd_num g s1 tb w1 D1.out).mono ?_
  rintro x2 w2 (⟨e, he, rfl, hg⟩ | ⟨n2, r2, v2, s2, he2, rfl, ⟨rfl, hv2⟩, hR2, hb2, hsg2, hsl2, hg2⟩)
  · exact ⟨rfl, .inl ⟨e, ch_err E1.out B1.out he, rfl, grown_trans G1.out hg⟩⟩
  have E2 := veil (ch_ok E1.out B1.out he2)
  have G2 := veil (grown_trans G1.out hg2)
  have Q2 := veil (Row.grown Q1.out hg2 (show w.heap.size ≠ g by omega))
  have B2 := veil hb2
  have D2 := veil hR2
  have M2 := veil (show s2.g = s.g ∧ s2.len ≤ s.len from ⟨hsg2.trans M1.out.1, Nat.le_trans hsl2 M1.out.2⟩)
  have V2 := veil hv2
  clear he2 hg2 hb2 hR2 hsg2 hsl2 hv2
  go_wp2_with (with_reducible (show wpList _ _ _ (⟨_, Op.store 39 _ _, _, _, _, _⟩ :: _) _ _)
               refine store_row rfl 39 _ _ rfl w.heap.size #[.int .u8 12, .int .u64 (n1 : Int), .int .u64 (0 : Int), .int .u64 (n2 : Int), .int .u64 (0 : Int), .bool false, .slice none 0 0, .slice none 0 0] rfl rfl _ _ Q2.out 8 (by kernel_rfl) rfl rfl (by kernel_rfl) ?_)
  refine bodyPost_ret (results_cell_row rfl _ _ w.heap.size _ #[.int .u8 12, .int .u64 (n1 : Int), .int .u64 (0 : Int), .int .u64 (n2 : Int), .int .u64 (0 : Int), .bool false, .slice none 0 0, .slice none 0 0] (0, 0) _ rfl (Q2.out.put _) Tryd.underlying39 rfl (by kernel_rfl)) rfl ?_
  refine .inr ⟨_, _, _, s2, E2.out, rfl, ⟨⟨12, n1, 0, n2, 0, false, noD, noRg⟩, rfl, new_plain _ _ _ _ _ _ _ _ (by decide) V1.out (Nat.zero_le _) V2.out (Nat.zero_le _), rfl⟩, D2.out.put (by omega) (fun p => by have := H.out.ok.lt (Nat.lt_of_lt_of_le p M2.out.2); rw [M2.out.1]; omega) (by omega) _, B2.out, M2.out.1, M2.out.2, grown_put G2.out (Nat.le_refl _) _⟩
end Go.Proofs.YtjhgelhdhdcmfaaDoor
