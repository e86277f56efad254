/-
  What the document's Get answers.
-/
import Derived.Test.YtiecpkkklefjdaaGtHfRefB
namespace Go.Proofs.Ytiecpkkklefjdaa
open Go Go.RowKit

theorem ones_bits : (List.range 8).all (fun n => (List.range (2 ^ n)).all fun v => decide (Hf.bitsN n v = List.replicate n true → v = 2 ^ n - 1)) = true := by decide +kernel
theorem ones_of {n v : Nat} (h : n < 8) (hv : v < 2 ^ n) (hb : Hf.bitsN n v = List.replicate n true) : v = 2 ^ n - 1 :=
  of_decide_eq_true (List.all_eq_true.1 (List.all_eq_true.1 ones_bits n (List.mem_range.2 h)) v (List.mem_range.2 hv)) hb
theorem stepG_at {t : List By} {n v : Nat} {b : Bool} (h : Hf.first (n + 1) ≤ 2 * v + b.toNat) : Hf.stepG (t, n, v) b = match (Hf.symAt (n + 1))[2 * v + b.toNat - Hf.first (n + 1)]? with
    | none => some (t, n + 1, 2 * v + b.toNat)
    | some k => if k = 256 then none else some (t ++ [BitVec.ofNat 8 k], 0, 0) := by
  unfold Hf.stepG Hf.sym
  simp only
  rw [if_pos h]
  rfl
/-- What Get has while the bits come. -/
structure GR (w : World) (O B : Nat) (V : Nat → Value) (cs : Array Value) (t : List By) (vt : Value) (W : World) : Prop where
  fs : FirstsOk W O B V cs
  own : W.ownsRow B 5 1 vt t.length (vb t)
  lo : w.heap.size ≤ B
  below : Below w.heap.size w W
theorem GR.alloc {w W : World} {O B : Nat} {V : Nat → Value} {cs : Array Value} {t : List By} {vt : Value} (h : GR w O B V cs t vt W) (o : Obj) : GR w O B V cs t vt (W.alloc o) :=
  ⟨h.fs.below ((Below.refl _ W).alloc h.fs.le o), h.own.alloc o, h.lo, h.below.alloc h.below.size o⟩
theorem GR.more {w W W' : World} {O B : Nat} {V : Nat → Value} {cs : Array Value} {t : List By} {vt vt' : Value} (h : GR w O B V cs t vt W) (c : By) (hg : W.grownBy W' vt.ownBlock) (ho : W'.ownsRow B 5 1 vt' (t.length + 1) (vb t ++ vb [c])) : GR w O B V cs (t ++ [c]) vt' W' := by
  have hb : Below B W W' := ⟨hg.os, hg.tape, hg.output, hg.size, fun k hk => hg.block k (Nat.lt_of_lt_of_le hk h.fs.le) (fun e => by have := (h.own.lt k e.symm).1; omega)⟩
  refine ⟨h.fs.below hb, ?_, h.lo, h.below.trans (hb.mono h.lo)⟩
  rw [List.length_append, vb_append]
  exact ho
theorem getR_limit (q : SL) (hs : 1048576 < q.len) (hl : q.len ≤ 9223372036854775807) (w : World) : Calls Try.prog 23 #[.slice q.a q.len q.cap] w fun e w' => e = .returned (.tuple #[.string ⟨#[]⟩, .int .i64 3]) ∧ w' = w := by
  have h : (q.len : Int) > 1048576 := by omega
  go_enter Try.func23, Try.ntmps23
  go_wp2
  go_ret2
  exact ⟨rfl, rfl⟩

set_option maxRecDepth 20000 in
set_option maxHeartbeats 2000000 in
theorem getR_any (q : SL) (w : World) (hq : q.Ok w) (hl : q.len ≤ 1048576) : Calls Try.prog 23 #[.slice q.a q.len q.cap] w fun e w' => ∃ s E, e = .returned (.tuple #[.string s, .int .i64 E]) ∧ (Hf.getT q.b = none ∧ E = 5 ∧ s = ⟨#[]⟩ ∨ ∃ t, Hf.getT q.b = some t ∧ E = 0 ∧ s = strOf t) ∧ Below w.heap.size w w' := by
  obtain ⟨i0, hi, hz0, hz1, hz2⟩ := info_parts (P := Try.prog) (e := 5) (z := .int .u8 0) (size := 1) (bytes := 1) (by kernel_rfl)
  have hlim : ¬ ((q.len : Int) > 1048576) := by omega
  have HQ := veil hq
  clear hq
  obtain ⟨N, hN⟩ : ∃ N, N = 8 * q.len := ⟨_, rfl⟩
  have hNm : 8 * (q.len : Int) = (N : Int) := by omega
  have hNl : N ≤ 8388608 := by omega
  have HN := veil hN
  clear hN
  have HBL := veil (show (Hf.bitsB q.b).length = N by rw [Hf.bitsB_length, HQ.out.hb, HN.out])
  go_enter Try.func23, Try.ntmps23
  go_wp2_with fail
  refine (firstsR_any w).mono ?_
  rintro e1 w1 ⟨O, V, cs, rfl, hfo, hb1⟩
  have HG0 := veil (show GR w O w1.heap.size V cs [] (.slice none 0 0) w1 from ⟨hfo, ⟨rfl, .inl ⟨rfl, rfl⟩⟩, hb1.size, hb1⟩)
  clear hfo hb1
  generalize w1.heap.size = B at *
  go_wp2_with fail
  go_loopw [5, 6, 7, 8, 9] (fun out at_ x n i wr => ∃ (k A : Nat) (t : List By) (m v : Nat) (vt : Value), k ≤ N ∧ A + m = k ∧ i = .int .i64 (k : Int) ∧ n = .int .i64 (m : Int) ∧ x = .int .u32 (v : Int) ∧ at_ = .int .i64 (A : Int) ∧ out = vt ∧ Hf.runG (some ([], 0, 0)) ((Hf.bitsB q.b).take k) = some (t, m, v) ∧ GR w O B V cs t vt wr)
    (fun _ _ _ _ i _ => N - (intOf i).toNat)
  case atStart => exact ⟨0, 0, [], 0, 0, .slice none 0 0, Nat.zero_le _, rfl, rfl, rfl, rfl, rfl, rfl, rfl, HG0.out⟩
  case round =>
    clear HG0
    obtain ⟨k, A, t, n, v, vt, hk, hA, rfl, rfl, rfl, rfl, rfl, hrun, hG⟩ := hrel
    have hfine := (Hf.gfine_zero []).run hrun
    have hn30 : n < 30 := hfine.few
    have hvlt : v < 2 ^ n := hfine.lt
    have hv30 : v < 1073741824 := Nat.lt_of_lt_of_le hfine.lt (show 2 ^ n ≤ 2 ^ 30 from Nat.pow_le_pow_right (by decide) (by omega))
    by_cases hlt : k < N
    · obtain ⟨b, hb⟩ : ∃ b, (Hf.bitsB q.b)[k]? = some b := ⟨_, List.getElem?_eq_getElem (by rw [HBL.out]; exact hlt)⟩
      have hbn : b.toNat ≤ 1 := by cases b <;> simp
      have hf := Hf.first_next hn30
      have hge : Hf.lim n ≤ v := hfine.ge
      have hfle : Hf.first (n + 1) ≤ 1073741820 := Hf.first_le (n + 1)
      have hLl : (Hf.symAt (n + 1)).length ≤ 257 := by rw [← symP_last (show n + 1 < 31 by omega)]; exact symP_le _ _
      have HSTEP := veil (show Hf.runG (some ([], 0, 0)) ((Hf.bitsB q.b).take (k + 1)) = Hf.stepG (t, n, v) b by
        rw [List.take_add_one, Hf.runG_append, hrun, hb]
        rfl)
      have HALL := veil (show ∀ s, Hf.runG (some ([], 0, 0)) (Hf.bitsB q.b) = s → Hf.runG (Hf.stepG (t, n, v) b) ((Hf.bitsB q.b).drop (k + 1)) = s from fun s hs => by
        rw [← hs, ← HSTEP.out, ← Hf.runG_append, List.take_append_drop])
      have htl : t.length ≤ 8388608 := by
        have h1 := Hf.run_bits (Hf.gfine_zero []) hrun
        have h2 := congrArg List.length h1
        have h3 := Hf.txt_length_le t
        have h4 : ((Hf.bitsB q.b).take k).length ≤ 8388608 := by rw [List.length_take, HBL.out]; omega
        simp only [List.length_append] at h2
        have h5 : (Hf.txt ([] : List By)).length = 0 := rfl
        have h6 : (Hf.bitsN 0 0).length = 0 := rfl
        rw [h5, h6] at h2
        omega
      obtain ⟨la, lc, hV, hdone⟩ := hG.fs.done_ (n + 1) (by omega)
      have c0 : wr.cell? ⟨O, (n + 1) * 2, none⟩ = some (.int .u32 (Hf.first (n + 1) : Int)) := by
        rw [hG.fs.fs.row.cell, hG.fs.fs.from_ (n + 1) (by omega), if_pos (by omega)]
      have c1 : wr.cell? ⟨O, (n + 1) * 2 + 1, none⟩ = some (.slice la (Hf.symAt (n + 1)).length lc) := by
        rw [hG.fs.fs.row.cell, hG.fs.fs.words (n + 1) (by omega), hV]
      have hstep : Hf.stepG (t, n, v) b = match (Hf.symAt (n + 1))[2 * v + b.toNat - Hf.first (n + 1)]? with
        | none => some (t, n + 1, 2 * v + b.toNat)
        | some k => if k = 256 then none else some (t ++ [BitVec.ofNat 8 k], 0, 0) := by
        exact stepG_at (by omega)
      have hFv : Hf.first (n + 1) ≤ 2 * v + b.toNat := by omega
      have hsymlt : ∀ j x, (Hf.symAt (n + 1))[j]? = some x → x < 257 := fun j x hx => by
        rw [← symP_last (show n + 1 < 31 by omega)] at hx
        exact List.mem_range.1 (List.mem_filter.1 (List.mem_of_getElem? hx)).1
      have HBIT := veil hb
      have HG := veil hG
      have HDONE := veil hdone
      have hOl : O < wr.heap.size := hG.fs.fs.row.lt
      have HBW := veil hG.fs.le
      obtain ⟨va, vc, hvt⟩ := own_slice hG.own
      subst hvt
      have e1 : 2 * (v : Int) = ((2 * v : Nat) : Int) := by omega
      have e2 : ((2 * v : Nat) : Int) + (b.toNat : Int) = ((2 * v + b.toNat : Nat) : Int) := by omega
      have en : (n : Int) + 1 = ((n + 1 : Nat) : Int) := by omega
      have hv1 : 2 * v + b.toNat < 2147483650 := by omega
      have hn31 : n + 1 < 31 := by omega
      obtain ⟨v1, hv1'⟩ : ∃ x, x = 2 * v + b.toNat := ⟨_, rfl⟩
      rw [← hv1'] at e2 hv1 hFv hstep
      obtain ⟨v2, hv2'⟩ : ∃ x, x = 2 * v := ⟨_, rfl⟩
      rw [← hv2'] at e1 e2
      obtain ⟨n1, hn1'⟩ : ∃ x, x = n + 1 := ⟨_, rfl⟩
      rw [← hn1'] at en hn31 c0 c1 hstep hFv hfle hLl hsymlt hdone
      rw [← hn1'] at HDONE
      have HS2 := veil hstep
      have HSY := veil hsymlt
      have HAn := veil (show A + n1 = k + 1 by omega)
      clear hstep hsymlt hG hdone hfine hvlt hge hf hV hb hrun hv1' hv2' hn1'
      generalize hFF : Hf.first n1 = F at *
      generalize hLL : (Hf.symAt n1).length = L at *
      have hv24 : v2 < 2147483648 := by omega
      go_wp2_with fail
      refine (bit_any q wr (HQ.out.below HG.out.below) hl k (by have := HN.out; omega) b HBIT.out).mono ?_
      rintro e2' w2 ⟨rfl, hw2⟩
      subst hw2
      generalize b.toNat = bn at *
      by_cases hin : v1 < F + L
      · have d2 : decide ((v1 : Int) < (F : Int) + (L : Int)) = true := by simp; omega
        obtain ⟨j, hj⟩ : ∃ j, j = v1 - F := ⟨_, rfl⟩
        have ej : (v1 : Int) - (F : Int) = (j : Int) := by omega
        have hjL : j < L := by omega
        obtain ⟨g, hla, hgB, hgO, hcells⟩ := HDONE.out (by omega)
        subst hla
        have hcj := hcells j hjL
        obtain ⟨y, hy⟩ : ∃ y, (Hf.symAt n1)[j]? = some y := ⟨_, List.getElem?_eq_getElem (by rw [hLL]; exact hjL)⟩
        have hgn : gn (Hf.symAt n1) j = y := by unfold gn; rw [hy]; rfl
        rw [hgn] at hcj
        have hy257 := HSY.out j y hy
        have hbw := HBW.out
        have hcj2 : (w2.alloc (.cells #[.int .u32 (F : Int), .slice (some ⟨g, 0, none⟩) L lc] 71)).cell? ⟨g, j, none⟩ = some (.int .i64 (y : Int)) := (World.cell?_of_block (a := ⟨g, j, none⟩) (Below.heap_alloc _ _ g (by omega))).trans hcj
        have HST := veil (show Hf.stepG (t, n, v) b = if y = 256 then none else some (t ++ [BitVec.ofNat 8 y], 0, 0) by
          rw [HS2.out, ← hj, hy])
        clear hcells HDONE hy hgn hLL hFF hj
        by_cases hy6 : y = 256
        · subst hy6
          have HNO := veil (show Hf.getT q.b = none by
            unfold Hf.getT
            have := HALL.out _ rfl
            rw [← this, HST.out]
            simp only [if_true]
            rw [Hf.runG_none])
          have HBL2 := veil ((HG.out.alloc (.cells #[.int .u32 (F : Int), .slice (some ⟨g, 0, none⟩) L lc] 71)).below)
          go_wp2_with fail
          go_ret2
          exact ⟨_, _, rfl, .inl ⟨HNO.out, rfl, rfl⟩, HBL2.out⟩
        · have hyne : ((y : Int) == 256) = false := by simp; omega
          have hcv : IntKind.u8.wrap (y : Int) = (y : Int) := by rw [IntKind.wrap_u8]; omega
          have HG2 := HG.out.alloc (.cells #[.int .u32 (F : Int), .slice (some ⟨g, 0, none⟩) L lc] 71)
          have HG3 := HG2.alloc (.cells #[.int .u8 (y : Int)] 5)
          have hsz2 := World.size_alloc w2 (.cells #[.int .u32 (F : Int), .slice (some ⟨g, 0, none⟩) L lc] 71)
          obtain ⟨v4, W10, hrunA, hownA, hgrowA, _⟩ := run_append_own (P := Try.prog) ((w2.alloc (.cells #[.int .u32 (F : Int), .slice (some ⟨g, 0, none⟩) L lc] 71)).alloc (.cells #[.int .u8 (y : Int)] 5)) B 22 22 5 i0 (.int .u8 0) 1 1 Try.underlying22 hi hz0 hz1 hz2 rfl (by decide) (.slice va t.length vc) t.length (vb t) HG3.own ⟨w2.heap.size + 1, 0, none⟩ 1 1 [.int .u8 (y : Int)] rfl (by rw [← hsz2]; exact cell_one_new _ _ _) (by simp [Value.oneCell']) (by unfold maxLen; omega) (by omega) (by rw [World.size_alloc, hsz2]; omega)
          have hvk : [Value.int .u8 (y : Int)] = vb [BitVec.ofNat 8 y] := by
            show _ = [Value.int .u8 (v8 (BitVec.ofNat 8 y))]
            unfold v8
            rw [BitVec.toNat_ofNat, Nat.mod_eq_of_lt (by omega)]
          rw [hvk] at hownA
          have HG4 := veil (HG3.more (BitVec.ofNat 8 y) hgrowA hownA)
          obtain ⟨a4, c4, rfl⟩ := own_slice hownA
          have HRUN := veil (show Hf.runG (some ([], 0, 0)) ((Hf.bitsB q.b).take (k + 1)) = some (t ++ [BitVec.ofNat 8 y], 0, 0) by
            rw [HSTEP.out, HST.out, if_neg hy6])
          clear hownA hgrowA HG2 HG3 hsz2 hvk hi hz0 hz1 hz2
          go_wp2_with (with_reducible (show wpList _ _ _ (⟨_, Op.call { callee := .builtin .append, args := _, argTypes := _ }, _, _, _, _⟩ :: _) _ _)
                       refine appR_run rfl _ _ 22 rfl (.slice va t.length vc) (.slice (some ⟨w2.heap.size + 1, 0, none⟩) 1 1) (.slice a4 (t.length + 1) c4) rfl rfl hrunA ?_)
          go_roundw
          case rel => exact ⟨k + 1, k + 1, t ++ [BitVec.ofNat 8 y], 0, 0, _, by omega, rfl, by go_num, rfl, rfl, by go_num, rfl, HRUN.out, HG4.out⟩
          case measure => simp [intOf]; omega
      · have d2 : decide ((v1 : Int) < (F : Int) + (L : Int)) = false := by simp; omega
        have HN1 := veil (show Hf.runG (some ([], 0, 0)) ((Hf.bitsB q.b).take (k + 1)) = some (t, n1, v1) by
          rw [HSTEP.out, HS2.out, List.getElem?_eq_none (by omega)])
        clear hLL hFF
        go_wp2_with fail
        go_roundw
        case rel => exact ⟨k + 1, A, t, n1, v1, _, by omega, HAn.out, by go_num, rfl, rfl, rfl, rfl, HN1.out, HG.out.alloc _⟩
        case measure => simp [intOf]; omega
    · obtain ⟨w9, rfl⟩ : ∃ x, x = wr := ⟨_, rfl⟩
      obtain rfl : k = N := by omega
      rw [List.take_of_length_le (by rw [HBL.out]; exact Nat.le_refl _)] at hrun
      have hbits : Hf.txt t ++ Hf.bitsN n v = Hf.bitsB q.b := by
        have := Hf.run_bits (Hf.gfine_zero []) hrun
        simpa [show Hf.txt ([] : List By) = [] from rfl, show Hf.bitsN 0 0 = [] from rfl] using this
      have hTx : (Hf.txt t).length = A := by
        have h1 := congrArg List.length hbits
        rw [List.length_append, Hf.bitsN_length, HBL.out] at h1
        omega
      have HBITS := veil (show ∀ j, j < n → (Hf.bitsB q.b)[A + j]? = (Hf.bitsN n v)[j]? from fun j hj => by
        rw [← hbits, List.getElem?_append_right (by omega), hTx, Nat.add_sub_cancel_left])
      have HGT := veil (show Hf.getT q.b = if n < 8 ∧ v = 2 ^ n - 1 then some t else none by
        unfold Hf.getT
        rw [hrun])
      have es : (k : Int) - (A : Int) = (n : Int) := by omega
      have HV := veil hvlt
      have HG := veil hG
      obtain ⟨va, vc, hvt⟩ := own_slice hG.own
      subst hvt
      have hconv := conv_own hG.own
      clear hrun hfine hvlt hbits hTx hG hi hz0 hz1 hz2 hlt
      by_cases h8 : n < 8
      · have d8 : decide ((n : Int) ≥ 8) = false := by simp; omega
        go_wp2_with fail
        go_loopw [6] (fun at_ wr => ∃ j : Nat, j ≤ n ∧ at_ = .int .i64 ((A + j : Nat) : Int) ∧ (∀ i, i < j → (Hf.bitsN n v)[i]? = some true) ∧ wr = w9)
          (fun a _ => k - (intOf a).toNat)
        case atStart => exact ⟨0, Nat.zero_le _, rfl, fun i h => absurd h (Nat.not_lt_zero _), rfl⟩
        case round =>
          obtain ⟨j, hj, rfl, hones, rfl⟩ := hrel
          have HON := veil hones
          clear hones
          by_cases hjn : j < n
          · obtain ⟨x, hx⟩ : ∃ x, (Hf.bitsN n v)[j]? = some x := ⟨_, List.getElem?_eq_getElem (by rw [Hf.bitsN_length]; exact hjn)⟩
            have HX := veil ((HBITS.out j hjn).trans hx)
            have HXX := veil hx
            clear hx
            obtain ⟨p, hp⟩ : ∃ p, p = A + j := ⟨_, rfl⟩
            rw [← hp] at HX
            rw [← hp]
            have hpk : p < k := by omega
            have HP := veil hp
            clear hp
            go_wp2_with fail
            refine (bit_any q _ (HQ.out.below HG.out.below) hl p (by have := HN.out; omega) x HX.out).mono ?_
            rintro e2' w2 ⟨rfl, hw2⟩
            subst hw2
            cases x with
            | false =>
              have HNO := veil (show Hf.getT q.b = none by
                rw [HGT.out, if_neg]
                rintro ⟨_, h2⟩
                have h3 := HXX.out
                rw [h2, Hf.bitsN_ones, List.getElem?_replicate, if_pos hjn] at h3
                cases h3)
              have hx0 : ((false.toNat : Nat) : Int) = 0 := rfl
              rw [hx0]
              go_wp2_with fail
              go_ret2
              exact ⟨_, _, rfl, .inl ⟨HNO.out, rfl, rfl⟩, HG.out.below⟩
            | true =>
              have HON2 := veil (show ∀ i, i < j + 1 → (Hf.bitsN n v)[i]? = some true from fun i hi => by
                rcases Nat.lt_or_ge i j with c | c
                · exact HON.out i c
                · rw [show i = j by omega]; exact HXX.out)
              have hx1 : ((true.toNat : Nat) : Int) = 1 := rfl
              rw [hx1]
              go_wp2_with fail
              go_roundw
              case rel => exact ⟨j + 1, by omega, by have := HP.out; subst this; go_num, HON2.out, by first | trivial | rfl⟩
              case measure => simp [intOf]; omega
          · obtain rfl : j = n := by omega
            have HSO := veil (show Hf.getT q.b = some t by
              rw [HGT.out, if_pos]
              refine ⟨h8, ones_of h8 HV.out ?_⟩
              apply List.ext_getElem?
              intro i
              rcases Nat.lt_or_ge i j with c | c
              · rw [HON.out i c, List.getElem?_replicate, if_pos c]
              · rw [List.getElem?_eq_none (by rw [Hf.bitsN_length]; omega), List.getElem?_eq_none (by rw [List.length_replicate]; omega)])
            obtain ⟨p, hp⟩ : ∃ p, p = A + j := ⟨_, rfl⟩
            rw [← hp]
            have hpk : p = k := by omega
            clear hp
            go_wp2_with fail
            go_ret2
            exact ⟨_, _, rfl, .inr ⟨t, HSO.out, rfl, rfl⟩, HG.out.below⟩
      · have d8 : decide ((n : Int) ≥ 8) = true := by simp; omega
        have HNO := veil (show Hf.getT q.b = none by
          rw [HGT.out, if_neg (fun h => h8 h.1)])
        go_wp2_with fail
        go_ret2
        exact ⟨_, _, rfl, .inl ⟨HNO.out, rfl, rfl⟩, HG.out.below⟩
end Go.Proofs.Ytiecpkkklefjdaa
